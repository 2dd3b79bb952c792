/-
  What the Go functions Pieces and Of of package digest answer, for all bytes. And what follows it.
-/
import Derived.Test.YtmocfbglmahhjabGreatDoorT05
import Derived.Test.YtmocfbglmahhjabGreatDoorT01
namespace Go.Proofs.YtmocfbglmahhjabGreatDoor.Dig
set_option maxRecDepth 100000
set_option linter.unusedVariables false
set_option maxRecDepth 100000
open Go.RowKit Go.Proofs.YtmocfbglmahhjabGreatDoor.Dig.Plain
def joinTo (C : Nat → List Int) : Nat → List Int
  | 0 => []
  | k + 1 => joinTo C k ++ C k
/-- Pieces stand, one behind the other, where a slice's address says. -/
def Pcs (w : World) (a : Option Addr) (n : Nat) (va : Nat → Option Addr) (vl vc : Nat → Nat) (C : Nat → List Int) : Prop :=
  (0 < n → ∃ b off, a = some ⟨b, off, none⟩ ∧ b < w.heap.size ∧ ∀ i, i < n → w.cell? ⟨b, off + i, none⟩ = some (.slice (va i) (vl i) (vc i))) ∧
  ∀ i, i < n → Bytes w (va i) (vl i) (C i) ∧ vl i ≤ vc i ∧ vc i ≤ 9223372036854775807
theorem joinTo_le (C : Nat → List Int) (k n : Nat) (h : k ≤ n) : (joinTo C k).length ≤ (joinTo C n).length := by
  induction n with
  | zero => rw [Nat.le_zero.1 h]; exact Nat.le_refl _
  | succ n ih =>
    by_cases e : k = n + 1
    · rw [e]; exact Nat.le_refl _
    · have := ih (by omega)
      rw [joinTo, List.length_append]; omega
theorem bytes_but {w w' : World} {G : Nat} {a : Option Addr} {len : Nat} {L : List Int} (h : Bytes w a len L) (hb : But G w w') (hn : w.heap.size ≤ G) : Bytes w' a len L := by
  refine ⟨h.1, h.2.1, fun hp => ?_⟩
  obtain ⟨b, off, e, hlt, hc⟩ := h.2.2 hp
  exact ⟨b, off, e, Nat.lt_of_lt_of_le hlt hb.size, fun i hi => (hb.cell hlt (by omega)).trans (hc i hi)⟩
theorem built47 : (Tryz.prog.built 154 [(0, .agg (u32s hh))]) = some (gc hh (List.replicate 64 0) 0 0).toArray := by kernel_rfl
theorem wpList_build47 {ops : Array Oper} {rest : List Oper} {o : Oper} {a : Act} {w : World} {Q : Exit → Act → World → Prop} (hg : o.guard = none) (x : Operand) (ho : o.op = .build 154 #[(0, x)]) (hx : a.eval x = .agg (u32s hh))
    (h : wpList Tryz.prog ops Q rest (a.put o.dst (.agg (gc hh (List.replicate 64 0) 0 0).toArray)) w) : wpList Tryz.prog ops Q (o :: rest) a w := by
  have e : Tryz.prog.built 154 ((#[(0, x)] : Array (Nat × Operand)).map fun (i, x) => (i, a.eval x)).toList = some (gc hh (List.replicate 64 0) 0 0).toArray := by
    simp only [List.map_toArray, List.map_cons, List.map_nil, hx]
    exact built47
  refine wpList_build hg 154 _ ho ?_ ?_
  · rw [e]; rfl
  · rw [e]; exact h
theorem zero47 (x : World) : (zeroValue 154).run Tryz.prog x = .ok (.agg (gc (List.replicate 8 0) (List.replicate 64 0) 0 0).toArray) x := by kernel_rfl
theorem gat_start {w : World} {G : Nat} (h : w.heap[G]? = some (.cells (gc hh (List.replicate 64 0) 0 0).toArray 154 (0, 0))) : Gat w G [] 0 := ⟨_, _, _, h, Inv.start⟩
set_option maxRecDepth 20000 in
set_option maxHeartbeats 400000 in
theorem pieces_any (a : Option Addr) (n cap : Nat) (va : Nat → Option Addr) (vl vc : Nat → Nat) (C : Nat → List Int) (w : World) (hT : Tabs w) (hP : Pcs w a n va vl vc C) (hl : (joinTo C n).length ≤ 900000) (hn : n ≤ maxLen) :
    Calls Tryz.prog 64 #[.slice a n cap] w fun e w' => e = .returned (.agg (u8s (sha (joinTo C n)))) ∧ Below w.heap.size w w' := by
  unfold maxLen at hn
  have HR0 : Hid (w.rangeAt 0 0 (hh.map (Value.int .u32))) := by
    intro j v hj
    have hj8 : j < 8 := by simpa [hh] using (List.getElem?_eq_some_iff.1 hj).1
    rw [Nat.zero_add, hT.2.1 j hj8, ← hj, List.getElem?_map, getD_of_lt hh j hj8]; rfl
  have h2 := hT.1
  go_enter Tryz.func64, Tryz.ntmps64
  have HZ : Hid ((gc hh (List.replicate 64 0) 0 0).toArray.size = 74 ∧ (gc hh (List.replicate 64 0) 0 0).toArray.all (·.oneCell') = true) := ⟨rfl, by kernel_rfl⟩
  obtain ⟨g0, HG0⟩ : ∃ g0, Box ((gc hh (List.replicate 64 0) 0 0).toArray = g0) := ⟨_, ⟨rfl⟩⟩
  obtain ⟨z0, HZ0⟩ : ∃ z0, Box ((gc (List.replicate 8 0) (List.replicate 64 0) 0 0).toArray = z0) := ⟨_, ⟨rfl⟩⟩
  have hz0 := zero47
  rw [HZ0.out] at hz0
  have hz0s : z0.size = 74 := by rw [← HZ0.out]; rfl
  have HZS : Hid _ := hz0s
  clear hz0s
  go_wp2_with (first | (refine wpList_load_mid rfl 151 _ rfl 0 0 rfl (hh.map (Value.int .u32)) _ (World.rangeAt_alloc HR0.out _) Tryz.underlying151 rfl (by kernel_rfl) ?_) | (refine wpList_build47 rfl (.tmp 6) rfl rfl ?_; rw [HG0.out]) | (refine wpList_store_row rfl 154 (.tmp 3) (.tmp 7) rfl (w.heap.size + 1) g0 rfl rfl 154 z0 (al_at (by simp)) (by rw [← HG0.out, HZ.out.1]; kernel_rfl) (by rw [← HG0.out, HZ.out.1]; exact HZS.out) (by rw [← HG0.out]; exact HZ.out.2) ?_))
  have HZ32 : Hid (fil8 [] 32 = #[.int .u8 0, .int .u8 0, .int .u8 0, .int .u8 0, .int .u8 0, .int .u8 0, .int .u8 0, .int .u8 0, .int .u8 0, .int .u8 0, .int .u8 0, .int .u8 0, .int .u8 0, .int .u8 0, .int .u8 0, .int .u8 0, .int .u8 0, .int .u8 0, .int .u8 0, .int .u8 0, .int .u8 0, .int .u8 0, .int .u8 0, .int .u8 0, .int .u8 0, .int .u8 0, .int .u8 0, .int .u8 0, .int .u8 0, .int .u8 0, .int .u8 0, .int .u8 0]) := rfl
  rw [← HZ32.out]
  have HX : Hid ((((w.alloc (.cells (fil8 [] 32) 23)).alloc (.cells z0 154)).setRow (w.heap.size + 1) g0).heap[w.heap.size]? = some (.cells (fil8 [] 32) 23 (0, 0)) ∧ Gat (((w.alloc (.cells (fil8 [] 32) 23)).alloc (.cells z0 154)).setRow (w.heap.size + 1) g0) (w.heap.size + 1) [] 0 ∧ But (w.heap.size + 1) w (((w.alloc (.cells (fil8 [] 32) 23)).alloc (.cells z0 154)).setRow (w.heap.size + 1) g0)) := by
    refine ⟨?_, gat_start ?_, ?_⟩
    · rw [setRow_other _ _ _ _ (by omega)]; exact al_old (al_at rfl)
    · rw [setRow_heap _ _ z0 _ 154 (0, 0) (al_at (by simp)), HG0.out]
    · exact (But.of_below (((Below.refl _ _).alloc (Nat.le_refl _) _).alloc (by simp) _)).setRow _
  generalize ((w.alloc (.cells (fil8 [] 32) 23)).alloc (.cells z0 154)).setRow (w.heap.size + 1) g0 = x0 at HX ⊢
  clear hz0 HZ0 HZS HG0 HZ HR0 HZ32
  go_loopw [10] (fun i wr => ∃ k : Nat, k ≤ n ∧ i = .int .i64 k ∧ Hid (wr.heap[w.heap.size]? = some (.cells (fil8 [] 32) 23 (0, 0)) ∧ Gat wr (w.heap.size + 1) (joinTo C k) (joinTo C k).length ∧ But (w.heap.size + 1) w wr)) (fun i _ => n - (intOf i).toNat)
  case atStart => exact ⟨0, by omega, rfl, HX⟩
  case round =>
    clear HX x0
    obtain ⟨k, hk, rfl, HWr⟩ := hrel
    obtain ⟨a1, a2, a3⟩ := HWr.out
    have hTr : Tabs wr := hT.below' a3 (by omega)
    by_cases hlt : k < n
    · obtain ⟨hp1, hp2⟩ := hP
      obtain ⟨b, off, rfl, hb, hc⟩ := hp1 (by omega)
      obtain ⟨hB, hv1, hv2⟩ := hp2 k hlt
      have hck : wr.cell? ⟨b, off + k, none⟩ = some (.slice (va k) (vl k) (vc k)) := (a3.cell hb (by omega)).trans (hc k hlt)
      have hjl := joinTo_le C (k + 1) n (by omega)
      have hjs : (joinTo C (k + 1)).length = (joinTo C k).length + vl k := by rw [joinTo, List.length_append, hB.1]
      have HADD : Hid (Calls Tryz.prog 89 #[.pointer (some ⟨w.heap.size + 1, 0, none⟩), .slice (va k) (vl k) (vc k)] wr fun e w' => e = .returned (.tuple #[]) ∧ Gat w' (w.heap.size + 1) (joinTo C (k + 1)) (joinTo C (k + 1)).length ∧ But (w.heap.size + 1) wr w') := by
        rw [hjs]
        refine add_any (w.heap.size + 1) (vl k) (vc k) (va k) (C k) (joinTo C k) wr hTr a2 (by omega) (bytes_but hB a3 (by omega)) (fun hv0 ad e => ?_) (by omega) hv1 hv2
        obtain ⟨b', off', e', hb', _⟩ := hB.2.2 hv0
        rw [e'] at e; cases e; show b' ≠ _; omega
      have HR : Hid (wr.heap[w.heap.size]? = some (.cells (fil8 [] 32) 23 (0, 0)) ∧ But (w.heap.size + 1) w wr) := ⟨a1, a3⟩
      clear hp1 hp2 hc hB hv1 hv2 hjs hjl a1 a2 a3 HWr
      go_wp2_with (go_at_call 89; refine Calls.mono HADD.out ?_; rintro e w3 ⟨rfl, hg3, hb3⟩; have HG3 : Hid _ := hg3; have HB3 : Hid _ := hb3; clear hg3 hb3)
      go_roundw
      case rel =>
        refine ⟨k + 1, by omega, by go_num, ?_, HG3.out, HR.out.2.trans HB3.out⟩
        rw [HB3.out.block _ (Array.getElem?_eq_some_iff.1 HR.out.1).1 (by omega)]; exact HR.out.1
      case measure => simp [intOf]; omega
    · obtain rfl : k = n := by omega
      have HEND : Hid _ := end_any (w.heap.size + 1) (joinTo C k) wr hTr a2 (by omega) hl
      obtain ⟨X, HX⟩ : ∃ X, Box (sha (joinTo C k) = X) := ⟨_, ⟨rfl⟩⟩
      have hXs : (u8s X).size = 32 := by rw [← HX.out, size_u8s, length_sha]
      have HEN : Box (Calls Tryz.prog 90 #[.pointer (some ⟨w.heap.size + 1, 0, none⟩)] wr fun e w' => e = .returned (.agg (u8s X)) ∧ But (w.heap.size + 1) wr w') := ⟨by rw [← HX.out]; exact HEND.out⟩
      have HR : Hid (wr.heap[w.heap.size]? = some (.cells (fil8 [] 32) 23 (0, 0)) ∧ But (w.heap.size + 1) w wr) := ⟨a1, a3⟩
      have HXs : Hid ((u8s X).size = 32) := hXs
      clear HEND a1 a2 a3 HWr hXs hP
      go_wp2_with (first | (go_at_call 90; refine Calls.mono HEN.out ?_; rintro e w3 ⟨rfl, hb3⟩; have HB3 : Hid _ := hb3; have HR3 : Hid (w3.heap[w.heap.size]? = some (.cells (fil8 [] 32) 23 (0, 0))) := (hb3.block _ (Array.getElem?_eq_some_iff.1 HR.out.1).1 (Nat.ne_of_lt (Nat.lt_succ_self _))).trans HR.out.1; clear hb3) | (refine wpList_store_row rfl 23 _ _ rfl w.heap.size (u8s X) rfl rfl 23 (fil8 [] 32) HR3.out (by rw [HXs.out]; kernel_rfl) (by rw [HXs.out]; rfl) (all_u8s X) ?_))
      (try simp only [Exit.inBlock, Exit.then])
      refine bodyPost_ret (results_cell_row (p := 2) (ty := 23) rfl _ _ w.heap.size 23 (u8s X) (0, 0) _ rfl (setRow_heap _ _ _ _ _ _ HR3.out) Tryz.underlying23 rfl (by rw [HXs.out]; kernel_rfl)) rfl ?_
      exact ⟨by rw [HX.out], below_setRow ((HR.out.2.trans HB3.out).below (by omega) (Nat.le_refl _)) (Nat.le_refl _) _⟩
/-- A piece: where it stands, how long it is, what it holds. -/
structure Pc where
  a : Option Addr
  l : Nat
  c : Nat
  b : List Int
def Pc.none : Pc := ⟨Option.none, 0, 0, []⟩
def Pc.val (p : Pc) : Value := .slice p.a p.l p.c
def Pc.ok (p : Pc) (w : World) : Prop := Bytes w p.a p.l p.b ∧ p.l ≤ p.c ∧ p.c ≤ 9223372036854775807
def pcv (P : List Pc) : Array Value := (P.map Pc.val).toArray
theorem pcs_list {w : World} {g : Nat} {t : TypeId} {fr : Nat × Nat} (P : List Pc) (hg : w.heap[g]? = some (.cells (pcv P) t fr)) (hP : ∀ p ∈ P, p.ok w) :
    Pcs w (some ⟨g, 0, Option.none⟩) P.length (fun i => (P.getD i Pc.none).a) (fun i => (P.getD i Pc.none).l) (fun i => (P.getD i Pc.none).c) (fun i => (P.getD i Pc.none).b) := by
  refine ⟨fun _ => ⟨g, 0, rfl, (Array.getElem?_eq_some_iff.1 hg).1, fun i hi => ?_⟩, fun i hi => ?_⟩
  · rw [cell_of_row _ _ _ _ _ _ hg, Nat.zero_add]
    simp [pcv, hi, Pc.val]
  · have := hP (P.getD i Pc.none) (by simp [hi])
    exact this
theorem Bytes.none (w : World) : Bytes w Option.none 0 [] := ⟨rfl, byt_nil, fun h => absurd h (by omega)⟩
theorem Pc.ok.below {p : Pc} {w w' : World} (h : p.ok w) (hb : Below w.heap.size w w') : p.ok w' := ⟨h.1.below hb, h.2⟩
/-- What Pieces answers for pieces that were just laid down in a block of their own. -/
theorem pieces_list (P : List Pc) (g n : Nat) (X : List Int) (t : TypeId) (fr : Nat × Nat) (w : World) (hT : Tabs w) (hg : w.heap[g]? = some (.cells (pcv P) t fr)) (hP : ∀ p ∈ P, p.ok w) (hn : P.length = n) (hn' : n ≤ 1000) (hX : joinTo (fun i => (P.getD i Pc.none).b) n = X) (hl : X.length ≤ 900000) :
    Calls Tryz.prog 64 #[.slice (some ⟨g, 0, Option.none⟩) n n] w fun e w' => e = .returned (.agg (u8s (sha X))) ∧ Below w.heap.size w w' := by
  subst hn
  subst hX
  exact pieces_any _ P.length P.length _ _ _ _ w hT (pcs_list P hg hP) hl (by unfold maxLen; omega)
end Go.Proofs.YtmocfbglmahhjabGreatDoor.Dig
namespace Go.Proofs.YtmocfbglmahhjabGreatDoor.Disk.Plain
set_option maxRecDepth 100000
end Go.Proofs.YtmocfbglmahhjabGreatDoor.Disk.Plain
namespace Go.Proofs.YtmocfbglmahhjabGreatDoor.Disk
set_option maxRecDepth 100000
set_option linter.unusedVariables false
open Go.RowKit Go.Proofs.YtmocfbglmahhjabGreatDoor.Plain Go.Proofs.YtmocfbglmahhjabGreatDoor.Disk.Plain
/-- The bytes of a place of noughts. -/
def z192 : List Int := List.replicate 192 0
theorem length_z192 : z192.length = 192 := List.length_replicate
theorem byt_z192 : Byt z192 := byt_zeros 192
theorem getD_zeros (n j : Nat) : (List.replicate n (0 : Int)).getD j 0 = 0 := by
  simp only [List.getD, List.getElem?_replicate]
  split <;> rfl
theorem getD_z192 (j : Nat) : z192.getD j 0 = 0 := getD_zeros 192 j
/-- A disk: so many places, their bytes, what is under way, the operations, whether it is down, whether it is told to stop, and after how many writes. -/
structure Dk where
  n : Nat
  pl : Nat → List Int
  uw : List (Nat × List Int)
  ops : List (Int × Int)
  down : Bool
  st : Bool
  left : Int
/-- The cells of a write. -/
def wc (x : Nat × List Int) : List Value := .int .i64 (x.1 : Int) :: x.2.map (Value.int .u8)
def wcs (L : List (Nat × List Int)) : List Value := (L.map wc).flatten
/-- The cells of an operation. -/
def oc (x : Int × Int) : List Value := [.int .i64 x.1, .int .i64 x.2]
def ocs (L : List (Int × Int)) : List Value := (L.map oc).flatten
theorem wcs_snoc (L : List (Nat × List Int)) (x : Nat × List Int) : wcs (L ++ [x]) = wcs L ++ wc x := by simp [wcs]
theorem ocs_snoc (L : List (Int × Int)) (x : Int × Int) : ocs (L ++ [x]) = ocs L ++ oc x := by simp [ocs]
theorem length_wc (x : Nat × List Int) (h : x.2.length = 192) : (wc x).length = 193 := by simp [wc, h]
theorem one_wc (x : Nat × List Int) : ∀ u ∈ wc x, u.oneCell' = true := by
  intro u hu
  simp only [wc, List.mem_cons, List.mem_map] at hu
  rcases hu with rfl | ⟨z, _, rfl⟩ <;> rfl
theorem one_oc (x : Int × Int) : ∀ u ∈ oc x, u.oneCell' = true := by
  intro u hu
  simp only [oc, List.mem_cons, List.not_mem_nil, or_false] at hu
  rcases hu with rfl | rfl <;> rfl
theorem flat_at (L : List (List Value)) (sz : Nat) (hL : ∀ x ∈ L, x.length = sz) (k : Nat) (hk : k < L.length) (j : Nat) (hj : j < sz) : L.flatten[sz * k + j]? = (L[k])[j]? := by
  induction L generalizing k with
  | nil => simp at hk
  | cons x L ih =>
    have hx : x.length = sz := hL x (by simp)
    cases k with
    | zero => simp [List.getElem?_append, hx, hj]
    | succ k =>
      have h1 : sz * (k + 1) + j - x.length = sz * k + j := by rw [hx, Nat.mul_succ]; omega
      rw [List.flatten_cons, List.getElem?_append_right (by rw [hx, Nat.mul_succ]; omega), h1, ih (fun y hy => hL y (by simp [hy])) k (by simpa using hk)]
      simp
def Good (n : Nat) (L : List (Nat × List Int)) : Prop := ∀ x ∈ L, x.1 < n ∧ x.2.length = 192 ∧ Byt x.2
theorem Good.snoc {n : Nat} {L : List (Nat × List Int)} (h : Good n L) (x : Nat × List Int) (hx : x.1 < n ∧ x.2.length = 192 ∧ Byt x.2) : Good n (L ++ [x]) := by
  intro y hy
  rcases List.mem_append.1 hy with hy | hy
  · exact h y hy
  · simp at hy; subst hy; exact hx
theorem Good.all {n : Nat} {L : List (Nat × List Int)} (h : Good n L) : ∀ x ∈ L.map wc, x.length = 193 := by
  intro x hx
  obtain ⟨y, hy, rfl⟩ := List.mem_map.1 hx
  exact length_wc y (h y hy).2.1
/-- The blocks of a disk. -/
def foot (D P : Nat) (uv ov : Value) (k : Nat) : Prop := k = D ∨ k = P ∨ uv.ownBlock = some k ∨ ov.ownBlock = some k
/-- The places' bytes, in a row's cells. -/
def Pls (cs : Array Value) (n : Nat) (pl : Nat → List Int) : Prop := cs.size = 192 * n ∧ ∀ i, i < n → ∀ j, j < 192 → cs[192 * i + j]? = some (.int .u8 ((pl i).getD j 0))
/-- A disk lies in memory, its head in block D. -/
structure At (w : World) (D P : Nat) (uv ov : Value) (d : Dk) : Prop where
  hd : w.heap[D]? = some (.cells #[.slice (some ⟨P, 0, none⟩) d.n d.n, uv, ov, .bool d.down, .bool d.st, .int .i64 d.left] 55 (0, 0))
  hp : ∃ cs, w.heap[P]? = some (.cells cs 123 (0, 0)) ∧ Pls cs d.n d.pl
  hpl : ∀ i, (d.pl i).length = 192 ∧ Byt (d.pl i)
  hn : 1 ≤ d.n ∧ d.n ≤ 4096
  hu : w.ownsRow 0 125 193 uv d.uw.length (wcs d.uw)
  huw : Good d.n d.uw
  ho : w.ownsRow 0 149 2 ov d.ops.length (ocs d.ops)
  neP : D ≠ P
  neU : uv.ownBlock ≠ some D ∧ uv.ownBlock ≠ some P
  neO : ov.ownBlock ≠ some D ∧ ov.ownBlock ≠ some P
  neUO : uv.ownBlock = none ∨ uv.ownBlock ≠ ov.ownBlock
/-- Nothing has turned but blocks of fp. -/
structure Turned (fp : Nat → Prop) (w w' : World) : Prop where
  os : w'.os = w.os
  tape : w'.tape = w.tape
  output : w'.output = w.output
  size : w.heap.size ≤ w'.heap.size
  block : ∀ k, k < w.heap.size → ¬ fp k → w'.heap[k]? = w.heap[k]?
/-- A disk d whose blocks are among those of fp. -/
def Is (w : World) (D : Nat) (fp : Nat → Prop) (d : Dk) : Prop := ∃ P uv ov, At w D P uv ov d ∧ ∀ k, foot D P uv ov k → fp k
/-- What a call leaves: a disk d', nothing but its blocks turned, no block of another's taken. -/
def Nx (D : Nat) (fp : Nat → Prop) (w w' : World) (d' : Dk) : Prop := ∃ fp', Is w' D fp' d' ∧ Turned fp w w' ∧ ∀ k, fp' k → fp k ∨ w.heap.size ≤ k
theorem Turned.refl (fp : Nat → Prop) (w : World) : Turned fp w w := ⟨rfl, rfl, rfl, Nat.le_refl _, fun _ _ _ => rfl⟩
theorem Turned.trans {fp fp' : Nat → Prop} {a b c : World} (h : Turned fp a b) (k : Turned fp' b c) (hs : ∀ k, fp' k → fp k ∨ a.heap.size ≤ k) : Turned fp a c :=
  ⟨k.os.trans h.os, k.tape.trans h.tape, k.output.trans h.output, Nat.le_trans h.size k.size, fun i hi hn =>
    (k.block i (Nat.lt_of_lt_of_le hi h.size) (fun hf => (hs i hf).elim hn (fun hle => by omega))).trans (h.block i hi hn)⟩
theorem Turned.of_below {fp : Nat → Prop} {w w' : World} (h : Below w.heap.size w w') : Turned fp w w' := ⟨h.os, h.tape, h.output, h.size, fun k hk _ => h.block k hk⟩
theorem Turned.below {fp : Nat → Prop} {w w' : World} {B : Nat} (h : Turned fp w w') (hB : B ≤ w.heap.size) (hf : ∀ k, fp k → B ≤ k) : Below B w w' :=
  ⟨h.os, h.tape, h.output, h.size, fun k hk => h.block k (by omega) (fun hfk => by have := hf k hfk; omega)⟩
theorem Turned.cell {fp : Nat → Prop} {w w' : World} (h : Turned fp w w') {a : Addr} {v : Value} (hc : w.cell? a = some v) (hn : ¬ fp a.block) : w'.cell? a = some v :=
  (World.cell?_of_block (h.block a.block (World.block_lt_of_cell? w a hc) hn)).trans hc
theorem own_same {w w' : World} {base n : Nat} {e : TypeId} {sz : Nat} {v : Value} {xs : List Value} (h : w.ownsRow base e sz v n xs) (hs : ∀ k, v.ownBlock = some k → w'.heap[k]? = w.heap[k]?) : w'.ownsRow base e sz v n xs := by
  refine ⟨h.1, ?_⟩
  rcases h.2 with hn | ⟨g, cap, cur, rfl, hb, hgg, rest⟩
  · exact .inl hn
  · exact .inr ⟨g, cap, cur, rfl, hb, by rw [hs g rfl]; exact hgg, rest⟩
theorem At.lt {w : World} {D P : Nat} {uv ov : Value} {d : Dk} (h : At w D P uv ov d) : ∀ k, foot D P uv ov k → k < w.heap.size := by
  rintro k (rfl | rfl | hk | hk)
  · exact (Array.getElem?_eq_some_iff.1 h.hd).1
  · obtain ⟨cs, h1, _⟩ := h.hp
    exact (Array.getElem?_eq_some_iff.1 h1).1
  · exact (h.hu.lt k hk).2
  · exact (h.ho.lt k hk).2
/-- A disk is as it was where none of its blocks has turned. -/
theorem At.same {w w' : World} {D P : Nat} {uv ov : Value} {d : Dk} (h : At w D P uv ov d) (hs : ∀ k, foot D P uv ov k → w'.heap[k]? = w.heap[k]?) : At w' D P uv ov d := by
  obtain ⟨cs, h1, h2⟩ := h.hp
  exact ⟨by rw [hs D (.inl rfl)]; exact h.hd, ⟨cs, by rw [hs P (.inr (.inl rfl))]; exact h1, h2⟩, h.hpl, h.hn, own_same h.hu (fun k hk => hs k (.inr (.inr (.inl hk)))), h.huw, own_same h.ho (fun k hk => hs k (.inr (.inr (.inr hk)))), h.neP, h.neU, h.neO, h.neUO⟩
theorem At.below {w w' : World} {D P : Nat} {uv ov : Value} {d : Dk} (h : At w D P uv ov d) (hb : Below w.heap.size w w') : At w' D P uv ov d := h.same (fun k hk => hb.block k (h.lt k hk))
theorem Is.below {w w' : World} {D : Nat} {fp : Nat → Prop} {d : Dk} (h : Is w D fp d) (hb : Below w.heap.size w w') : Is w' D fp d := by
  obtain ⟨P, uv, ov, h1, h2⟩ := h
  exact ⟨P, uv, ov, h1.below hb, h2⟩
theorem Is.same {w w' : World} {D : Nat} {fp : Nat → Prop} {d : Dk} (h : Is w D fp d) (hs : ∀ k, fp k → k < w.heap.size → w'.heap[k]? = w.heap[k]?) : Is w' D fp d := by
  obtain ⟨P, uv, ov, h1, h2⟩ := h
  exact ⟨P, uv, ov, h1.same (fun k hk => hs k (h2 k hk) (h1.lt k hk)), h2⟩
/-- A disk whose footprint is cut to its own blocks. -/
theorem Is.cut {w : World} {D : Nat} {fp : Nat → Prop} {d : Dk} (h : Is w D fp d) : Is w D (fun k => fp k ∧ k < w.heap.size) d := by
  obtain ⟨P, uv, ov, h1, h2⟩ := h
  exact ⟨P, uv, ov, h1, fun k hk => ⟨h2 k hk, h1.lt k hk⟩⟩
theorem Nx.same {D : Nat} {fp : Nat → Prop} {w : World} {d : Dk} (h : Is w D fp d) : Nx D fp w w d := ⟨fp, h, Turned.refl _ _, fun _ hk => .inl hk⟩
theorem Nx.trans {D : Nat} {fp fp' : Nat → Prop} {a b c : World} {d' d'' : Dk} (t : Turned fp a b) (s : ∀ k, fp' k → fp k ∨ a.heap.size ≤ k) (h : Nx D fp' b c d'') : Nx D fp a c d'' := by
  obtain ⟨fp2, i2, t2, s2⟩ := h
  refine ⟨fp2, i2, t.trans t2 s, fun k hk => ?_⟩
  rcases s2 k hk with h1 | h1
  · exact s k h1
  · exact .inr (Nat.le_trans t.size h1)
theorem Nx.below {D : Nat} {fp : Nat → Prop} {a b c : World} {d : Dk} (h : Nx D fp a b d) (hb : Below b.heap.size b c) : Nx D fp a c d := by
  obtain ⟨fp1, i1, t1, s1⟩ := h
  exact ⟨fp1, i1.below hb, ⟨hb.os.trans t1.os, hb.tape.trans t1.tape, hb.output.trans t1.output, Nat.le_trans t1.size hb.size, fun k hk hn => (hb.block k (Nat.lt_of_lt_of_le hk t1.size)).trans (t1.block k hk hn)⟩, s1⟩
/-- An operation whose value and world are known. -/
theorem wpList_run {ops : Array Oper} {rest : List Oper} {o : Oper} {a : Act} {w : World} {Q : Exit → Act → World → Prop} (hg : o.guard = none) (v : Value) (w' : World) (hr : (execOp a.eval o).run Tryz.prog w = .ok (.value v) w') (h : wpList Tryz.prog ops Q rest (a.put o.dst v) w') : wpList Tryz.prog ops Q (o :: rest) a w :=
  wpList_plain hg fun _ hK => by unfold Oper.wp; rw [hr]; exact hK _ _ h
theorem exec_alloc {o : Oper} {ρ : Operand → Value} {w : World} (t : TypeId) (ho : o.op = .alloc t) (Z : Array Value) (hz : (Tryz.prog.info? t).map (·.zero) = some (some (.agg Z))) :
    (execOp ρ o).run Tryz.prog w = .ok (.value (.pointer (some ⟨w.heap.size, 0, none⟩))) (w.alloc (.cells Z t)) := by
  cases hq : Tryz.prog.info? t with
  | none => simp [hq] at hz
  | some i =>
    have hs : i.zero = some (.agg Z) := by simpa [hq] using hz
    unfold execOp
    simp [ho, Instr.alloc, zeroValue, typeInfo, hq, hs, newVar, newRow, Value.cells, Sem.run_bind]
theorem zero79 : (Tryz.prog.info? 123).map (·.zero) = some (some (.agg (u8s (z192)))) := by kernel_rfl
theorem zero84 : (Tryz.prog.info? 125).map (·.zero) = some (some (.agg (wc (0, z192)).toArray)) := by kernel_rfl
theorem info79 : (Tryz.prog.info? 123).map (·.size) = some 192 := by kernel_rfl
theorem info84 : (Tryz.prog.info? 125).map (·.size) = some 193 := by kernel_rfl
/-- Appending to a row of one's own leaves it in its block, or in a new one. -/
theorem run_app {P : Program} (w : World) (t ty e : TypeId) (i : TypeInfo) (z : Value) (size bytes : Nat) (ht : P.underlying t = some (.slice e)) (hi : P.info? e = some i) (hz : i.zero = some z)
    (hsize : i.size = size) (hby : i.bytes = bytes) (hzs : z.cells.size = size) (hsz : 0 < size) (v : Value) (n : Nat) (xs : List Value) (hown : w.ownsRow 0 e size v n xs)
    (a : Addr) (m c : Nat) (news : List Value) (hl : news.length = m * size) (hnews : ∀ j u, news[j]? = some u → w.cell? (a.add j) = some u) (h1 : ∀ u ∈ news, u.oneCell' = true)
    (h63 : n + m ≤ maxLen) (hbytes : (n + m) * bytes ≤ 140737488355328) :
    ∃ v' w', (Builtin.append_ #[t, t] ty #[v, .slice (some a) m c]).run P w = .ok v' w' ∧ w'.ownsRow 0 e size v' (n + m) (xs ++ news) ∧ w.grownBy w' v.ownBlock ∧ ∀ k, v'.ownBlock = some k → v.ownBlock = some k ∨ w.heap.size ≤ k := by
  obtain ⟨v', w', hr, h2, h3, h4⟩ := run_append_own (P := P) w 0 t ty e i z size bytes ht hi hz hsize hby hzs hsz v n xs hown a m c news hl hnews h1 h63 hbytes (Nat.zero_le _)
  refine ⟨v', w', hr, h2, h3, ?_⟩
  rcases hown.2 with ⟨rfl, rfl⟩ | ⟨g, cap, cur, rfl, hbg, hg, hnc, hcm, hcs, htake⟩
  · have hx : xs = [] := List.eq_nil_of_length_eq_zero (by simpa using hown.1)
    subst hx
    obtain ⟨v2, w2, hr2, h22, _⟩ := run_append_own (P := P) w w.heap.size t ty e i z size bytes ht hi hz hsize hby hzs hsz _ 0 [] (World.ownsRow_nil w w.heap.size e size) a m c news hl hnews h1 h63 hbytes (Nat.le_refl _)
    rw [hr] at hr2
    simp only [Result.ok.injEq] at hr2
    obtain ⟨rfl, rfl⟩ := hr2
    exact fun k hk => .inr (h22.lt k hk).1
  · subst hsize
    subst hby
    by_cases hroom : n + m ≤ cap
    · have hfit : n * i.size + news.length ≤ cur.size := by rw [hl, hcs, ← Nat.add_mul]; exact Nat.mul_le_mul_right _ hroom
      have hr2 := run_append_room (P := P) w t ty e i ht hi g n cap cur hg a m c news hl hnews h1 hroom hfit
      rw [hr] at hr2
      simp only [Result.ok.injEq] at hr2
      obtain ⟨rfl, rfl⟩ := hr2
      exact fun k hk => .inl hk
    · have hsmall : n + m ≤ 9223372036854775807 := by simp only [maxLen] at h63; omega
      have holds : ∀ j u, xs[j]? = some u → w.cell? ((⟨g, 0, none⟩ : Addr).add j) = some u := hown.cells (g := g) rfl
      have hr2 := run_append_grow (P := P) w t ty e i z ht hi hz ⟨g, 0, none⟩ n cap xs hown.1 holds a m c news hl hnews (by omega) (by omega) (growslice_fits (by omega) hbytes)
      rw [hr] at hr2
      simp only [Result.ok.injEq] at hr2
      obtain ⟨rfl, rfl⟩ := hr2
      exact fun k hk => .inr (by simp [Value.ownBlock] at hk; omega)
theorem wp_app {P : Program} {o : Oper} {act : Act} {w : World} {K : Act → World → Prop} {Q : Exit → Act → World → Prop} (s x : Operand) (t : TypeId) (ho : o.op = .call { callee := .builtin .append, args := #[s, x], argTypes := #[t, t] })
    (e : TypeId) (size bytes : Nat) (z : Value) (ht : P.underlying t = some (.slice e)) (hi : (P.info? e).map (fun i => (i.zero, i.size, i.bytes)) = some (some z, size, bytes)) (hzs : z.cells.size = size) (hsz : 0 < size) (v : Value) (n : Nat) (xs : List Value) (hs : act.eval s = v) (hown : w.ownsRow 0 e size v n xs)
    (a : Addr) (m c : Nat) (news : List Value) (hx : act.eval x = .slice (some a) m c) (hl : news.length = m * size) (hnews : ∀ j u, news[j]? = some u → w.cell? (a.add j) = some u) (h1 : ∀ u ∈ news, u.oneCell' = true)
    (hbytes : (n + m) * bytes ≤ 140737488355328) (hb : 0 < bytes)
    (h : ∀ v' w', w'.ownsRow 0 e size v' (n + m) (xs ++ news) → w.grownBy w' v.ownBlock → (∀ k, v'.ownBlock = some k → v.ownBlock = some k ∨ w.heap.size ≤ k) → K (act.put o.dst v') w') : o.wp P act w K Q := by
  obtain ⟨i, hi, hz, hsize, hby⟩ := info_parts hi
  have h63 : n + m ≤ maxLen := by
    have : (n + m) * 1 ≤ (n + m) * bytes := Nat.mul_le_mul_left _ hb
    unfold maxLen
    omega
  obtain ⟨v', w', hr, h2, h3, h4⟩ := run_app (P := P) w t o.type e i z size bytes ht hi hz hsize hby hzs hsz v n xs hown a m c news hl hnews h1 h63 hbytes
  unfold Oper.wp execOp
  simp only [ho, resolve, invoke, builtin, Sem.run_bind, Sem.run_pure, Result.andThen_ok, List.map_toArray, List.map_cons, List.map_nil, hs, hx, hr]
  exact h v' w' h2 h3 h4
theorem wpList_app2 {P : Program} {ops : Array Oper} {rest : List Oper} {o : Oper} {act : Act} {w : World} {Q : Exit → Act → World → Prop} (hgd : o.guard = none) (s x : Operand) (t : TypeId) (ho : o.op = .call { callee := .builtin .append, args := #[s, x], argTypes := #[t, t] })
    (e : TypeId) (size bytes : Nat) (z : Value) (ht : P.underlying t = some (.slice e)) (hi : (P.info? e).map (fun i => (i.zero, i.size, i.bytes)) = some (some z, size, bytes)) (hzs : z.cells.size = size) (hsz : 0 < size) (v : Value) (n : Nat) (xs : List Value) (hs : act.eval s = v) (hown : w.ownsRow 0 e size v n xs)
    (a : Addr) (m c : Nat) (news : List Value) (hx : act.eval x = .slice (some a) m c) (hl : news.length = m * size) (hnews : ∀ j u, news[j]? = some u → w.cell? (a.add j) = some u) (h1 : ∀ u ∈ news, u.oneCell' = true)
    (hbytes : (n + m) * bytes ≤ 140737488355328) (hb : 0 < bytes)
    (h : ∀ v' w', w'.ownsRow 0 e size v' (n + m) (xs ++ news) → w.grownBy w' v.ownBlock → (∀ k, v'.ownBlock = some k → v.ownBlock = some k ∨ w.heap.size ≤ k) → wpList P ops Q rest (act.put o.dst v') w') : wpList P ops Q (o :: rest) act w :=
  wpList_plain hgd fun _ hK => wp_app s x t ho e size bytes z ht hi hzs hsz v n xs hs hown a m c news hx hl hnews h1 hbytes hb fun v' w' h2 h3 h4 => hK _ _ (h v' w' h2 h3 h4)
end Go.Proofs.YtmocfbglmahhjabGreatDoor.Disk
