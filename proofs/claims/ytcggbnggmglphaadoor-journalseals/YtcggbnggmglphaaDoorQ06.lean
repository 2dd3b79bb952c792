/-
  What the Go functions Pieces and Of of package digest answer, for all bytes. And what follows it.
-/
import Derived.Test.YtcggbnggmglphaaDoorQ05
import Derived.Laws.StructEq
import Derived.ChangeKeysEq
import Derived.BigFrame
import Derived.Test.YtcggbnggmglphaaDoorQ03
namespace Go.Proofs.YtcggbnggmglphaaDoor.Dig
set_option maxRecDepth 100000
set_option linter.unusedVariables false
open Go.RowKit Go.Proofs.YtcggbnggmglphaaDoor.Dig.Plain
def joinTo (C : Nat → List Int) : Nat → List Int
  | 0 => []
  | k + 1 => joinTo C k ++ C k
/-- Pieces stand, one behind the other, where a slice's address says. -/
def Pcs (w : World) (a : Option Addr) (n : Nat) (va : Nat → Option Addr) (vl vc : Nat → Nat) (C : Nat → List Int) : Prop :=
  (0 < n → ∃ b off, a = some ⟨b, off, none⟩ ∧ b < w.heap.size ∧ ∀ i, i < n → w.cell? ⟨b, off + i, none⟩ = some (.slice (va i) (vl i) (vc i))) ∧
  ∀ i, i < n → Bytes w (va i) (vl i) (C i) ∧ vl i ≤ vc i ∧ vc i ≤ 9223372036854775807
theorem joinTo_le (C : Nat → List Int) (k n : Nat) (h : k ≤ n) : (joinTo C k).length ≤ (joinTo C n).length := by
  induction n with
  | zero => rw [Nat.le_zero.1 h]; exact Nat.le_refl _
  | succ n ih =>
    by_cases e : k = n + 1
    · rw [e]; exact Nat.le_refl _
    · have := ih (by omega)
      rw [joinTo, List.length_append]; omega
theorem bytes_but {w w' : World} {G : Nat} {a : Option Addr} {len : Nat} {L : List Int} (h : Bytes w a len L) (hb : But G w w') (hn : w.heap.size ≤ G) : Bytes w' a len L := by
  refine ⟨h.1, h.2.1, fun hp => ?_⟩
  obtain ⟨b, off, e, hlt, hc⟩ := h.2.2 hp
  exact ⟨b, off, e, Nat.lt_of_lt_of_le hlt hb.size, fun i hi => (hb.cell hlt (by omega)).trans (hc i hi)⟩
theorem built47 : (Tryd.prog.built 137 [(0, .agg (u32s hh))]) = some (gc hh (List.replicate 64 0) 0 0).toArray := by kernel_rfl
theorem wpList_build47 {ops : Array Oper} {rest : List Oper} {o : Oper} {a : Act} {w : World} {Q : Exit → Act → World → Prop} (hg : o.guard = none) (x : Operand) (ho : o.op = .build 137 #[(0, x)]) (hx : a.eval x = .agg (u32s hh))
    (h : wpList Tryd.prog ops Q rest (a.put o.dst (.agg (gc hh (List.replicate 64 0) 0 0).toArray)) w) : wpList Tryd.prog ops Q (o :: rest) a w := by
  have e : Tryd.prog.built 137 ((#[(0, x)] : Array (Nat × Operand)).map fun (i, x) => (i, a.eval x)).toList = some (gc hh (List.replicate 64 0) 0 0).toArray := by
    simp only [List.map_toArray, List.map_cons, List.map_nil, hx]
    exact built47
  refine wpList_build hg 137 _ ho ?_ ?_
  · rw [e]; rfl
  · rw [e]; exact h
theorem zero47 (x : World) : (zeroValue 137).run Tryd.prog x = .ok (.agg (gc (List.replicate 8 0) (List.replicate 64 0) 0 0).toArray) x := by kernel_rfl
theorem gat_start {w : World} {G : Nat} (h : w.heap[G]? = some (.cells (gc hh (List.replicate 64 0) 0 0).toArray 137 (0, 0))) : Gat w G [] 0 := ⟨_, _, _, h, Inv.start⟩
set_option maxRecDepth 20000 in
set_option maxHeartbeats 400000 in
theorem pieces_any (a : Option Addr) (n cap : Nat) (va : Nat → Option Addr) (vl vc : Nat → Nat) (C : Nat → List Int) (w : World) (hT : Tabs w) (hP : Pcs w a n va vl vc C) (hl : (joinTo C n).length ≤ 900000) (hn : n ≤ maxLen) :
    Calls Tryd.prog 39 #[.slice a n cap] w fun e w' => e = .returned (.agg (u8s (sha (joinTo C n)))) ∧ Below w.heap.size w w' := by
  unfold maxLen at hn
  have HR0 : Hid (w.rangeAt 0 0 (hh.map (Value.int .u32))) := by
    intro j v hj
    have hj8 : j < 8 := by simpa [hh] using (List.getElem?_eq_some_iff.1 hj).1
    rw [Nat.zero_add, hT.2.1 j hj8, ← hj, List.getElem?_map, getD_of_lt hh j hj8]; rfl
  have h2 := hT.1
  go_enter Tryd.func39, Tryd.ntmps39
  have HZ : Hid ((gc hh (List.replicate 64 0) 0 0).toArray.size = 74 ∧ (gc hh (List.replicate 64 0) 0 0).toArray.all (·.oneCell') = true) := ⟨rfl, by kernel_rfl⟩
  obtain ⟨g0, HG0⟩ : ∃ g0, Box ((gc hh (List.replicate 64 0) 0 0).toArray = g0) := ⟨_, ⟨rfl⟩⟩
  obtain ⟨z0, HZ0⟩ : ∃ z0, Box ((gc (List.replicate 8 0) (List.replicate 64 0) 0 0).toArray = z0) := ⟨_, ⟨rfl⟩⟩
  have hz0 := zero47
  rw [HZ0.out] at hz0
  have hz0s : z0.size = 74 := by rw [← HZ0.out]; rfl
  have HZS : Hid _ := hz0s
  clear hz0s
  go_wp2_with (first | (refine wpList_load_mid rfl 134 _ rfl 0 0 rfl (hh.map (Value.int .u32)) _ (World.rangeAt_alloc HR0.out _) Tryd.underlying134 rfl (by kernel_rfl) ?_) | (refine wpList_build47 rfl (.tmp 6) rfl rfl ?_; rw [HG0.out]) | (refine wpList_store_row rfl 137 (.tmp 3) (.tmp 7) rfl (w.heap.size + 1) g0 rfl rfl 137 z0 (al_at (by simp)) (by rw [← HG0.out, HZ.out.1]; kernel_rfl) (by rw [← HG0.out, HZ.out.1]; exact HZS.out) (by rw [← HG0.out]; exact HZ.out.2) ?_))
  have HZ32 : Hid (fil8 [] 32 = #[.int .u8 0, .int .u8 0, .int .u8 0, .int .u8 0, .int .u8 0, .int .u8 0, .int .u8 0, .int .u8 0, .int .u8 0, .int .u8 0, .int .u8 0, .int .u8 0, .int .u8 0, .int .u8 0, .int .u8 0, .int .u8 0, .int .u8 0, .int .u8 0, .int .u8 0, .int .u8 0, .int .u8 0, .int .u8 0, .int .u8 0, .int .u8 0, .int .u8 0, .int .u8 0, .int .u8 0, .int .u8 0, .int .u8 0, .int .u8 0, .int .u8 0, .int .u8 0]) := rfl
  rw [← HZ32.out]
  have HX : Hid ((((w.alloc (.cells (fil8 [] 32) 23)).alloc (.cells z0 137)).setRow (w.heap.size + 1) g0).heap[w.heap.size]? = some (.cells (fil8 [] 32) 23 (0, 0)) ∧ Gat (((w.alloc (.cells (fil8 [] 32) 23)).alloc (.cells z0 137)).setRow (w.heap.size + 1) g0) (w.heap.size + 1) [] 0 ∧ But (w.heap.size + 1) w (((w.alloc (.cells (fil8 [] 32) 23)).alloc (.cells z0 137)).setRow (w.heap.size + 1) g0)) := by
    refine ⟨?_, gat_start ?_, ?_⟩
    · rw [setRow_other _ _ _ _ (by omega)]; exact al_old (al_at rfl)
    · rw [setRow_heap _ _ z0 _ 137 (0, 0) (al_at (by simp)), HG0.out]
    · exact (But.of_below (((Below.refl _ _).alloc (Nat.le_refl _) _).alloc (by simp) _)).setRow _
  generalize ((w.alloc (.cells (fil8 [] 32) 23)).alloc (.cells z0 137)).setRow (w.heap.size + 1) g0 = x0 at HX ⊢
  clear hz0 HZ0 HZS HG0 HZ HR0 HZ32
  go_loopw [10] (fun i wr => ∃ k : Nat, k ≤ n ∧ i = .int .i64 k ∧ Hid (wr.heap[w.heap.size]? = some (.cells (fil8 [] 32) 23 (0, 0)) ∧ Gat wr (w.heap.size + 1) (joinTo C k) (joinTo C k).length ∧ But (w.heap.size + 1) w wr)) (fun i _ => n - (intOf i).toNat)
  case atStart => exact ⟨0, by omega, rfl, HX⟩
  case round =>
    clear HX x0
    obtain ⟨k, hk, rfl, HWr⟩ := hrel
    obtain ⟨a1, a2, a3⟩ := HWr.out
    have hTr : Tabs wr := hT.below' a3 (by omega)
    by_cases hlt : k < n
    · obtain ⟨hp1, hp2⟩ := hP
      obtain ⟨b, off, rfl, hb, hc⟩ := hp1 (by omega)
      obtain ⟨hB, hv1, hv2⟩ := hp2 k hlt
      have hck : wr.cell? ⟨b, off + k, none⟩ = some (.slice (va k) (vl k) (vc k)) := (a3.cell hb (by omega)).trans (hc k hlt)
      have hjl := joinTo_le C (k + 1) n (by omega)
      have hjs : (joinTo C (k + 1)).length = (joinTo C k).length + vl k := by rw [joinTo, List.length_append, hB.1]
      have HADD : Hid (Calls Tryd.prog 59 #[.pointer (some ⟨w.heap.size + 1, 0, none⟩), .slice (va k) (vl k) (vc k)] wr fun e w' => e = .returned (.tuple #[]) ∧ Gat w' (w.heap.size + 1) (joinTo C (k + 1)) (joinTo C (k + 1)).length ∧ But (w.heap.size + 1) wr w') := by
        rw [hjs]
        refine add_any (w.heap.size + 1) (vl k) (vc k) (va k) (C k) (joinTo C k) wr hTr a2 (by omega) (bytes_but hB a3 (by omega)) (fun hv0 ad e => ?_) (by omega) hv1 hv2
        obtain ⟨b', off', e', hb', _⟩ := hB.2.2 hv0
        rw [e'] at e; cases e; show b' ≠ _; omega
      have HR : Hid (wr.heap[w.heap.size]? = some (.cells (fil8 [] 32) 23 (0, 0)) ∧ But (w.heap.size + 1) w wr) := ⟨a1, a3⟩
      clear hp1 hp2 hc hB hv1 hv2 hjs hjl a1 a2 a3 HWr
      go_wp2_with (go_at_call 59; refine Calls.mono HADD.out ?_; rintro e w3 ⟨rfl, hg3, hb3⟩; have HG3 : Hid _ := hg3; have HB3 : Hid _ := hb3; clear hg3 hb3)
      go_roundw
      case rel =>
        refine ⟨k + 1, by omega, by go_num, ?_, HG3.out, HR.out.2.trans HB3.out⟩
        rw [HB3.out.block _ (Array.getElem?_eq_some_iff.1 HR.out.1).1 (by omega)]; exact HR.out.1
      case measure => simp [intOf]; omega
    · obtain rfl : k = n := by omega
      have HEND : Hid _ := end_any (w.heap.size + 1) (joinTo C k) wr hTr a2 (by omega) hl
      obtain ⟨X, HX⟩ : ∃ X, Box (sha (joinTo C k) = X) := ⟨_, ⟨rfl⟩⟩
      have hXs : (u8s X).size = 32 := by rw [← HX.out, size_u8s, length_sha]
      have HEN : Box (Calls Tryd.prog 60 #[.pointer (some ⟨w.heap.size + 1, 0, none⟩)] wr fun e w' => e = .returned (.agg (u8s X)) ∧ But (w.heap.size + 1) wr w') := ⟨by rw [← HX.out]; exact HEND.out⟩
      have HR : Hid (wr.heap[w.heap.size]? = some (.cells (fil8 [] 32) 23 (0, 0)) ∧ But (w.heap.size + 1) w wr) := ⟨a1, a3⟩
      have HXs : Hid ((u8s X).size = 32) := hXs
      clear HEND a1 a2 a3 HWr hXs hP
      go_wp2_with (first | (go_at_call 60; refine Calls.mono HEN.out ?_; rintro e w3 ⟨rfl, hb3⟩; have HB3 : Hid _ := hb3; have HR3 : Hid (w3.heap[w.heap.size]? = some (.cells (fil8 [] 32) 23 (0, 0))) := (hb3.block _ (Array.getElem?_eq_some_iff.1 HR.out.1).1 (Nat.ne_of_lt (Nat.lt_succ_self _))).trans HR.out.1; clear hb3) | (refine wpList_store_row rfl 23 _ _ rfl w.heap.size (u8s X) rfl rfl 23 (fil8 [] 32) HR3.out (by rw [HXs.out]; kernel_rfl) (by rw [HXs.out]; rfl) (all_u8s X) ?_))
      (try simp only [Exit.inBlock, Exit.then])
      refine bodyPost_ret (results_cell_row (p := 2) (ty := 23) rfl _ _ w.heap.size 23 (u8s X) (0, 0) _ rfl (setRow_heap _ _ _ _ _ _ HR3.out) Tryd.underlying23 rfl (by rw [HXs.out]; kernel_rfl)) rfl ?_
      exact ⟨by rw [HX.out], below_setRow ((HR.out.2.trans HB3.out).below (by omega) (Nat.le_refl _)) (Nat.le_refl _) _⟩
/-- A piece: where it stands, how long it is, what it holds. -/
structure Pc where
  a : Option Addr
  l : Nat
  c : Nat
  b : List Int
def Pc.none : Pc := ⟨Option.none, 0, 0, []⟩
def Pc.val (p : Pc) : Value := .slice p.a p.l p.c
def Pc.ok (p : Pc) (w : World) : Prop := Bytes w p.a p.l p.b ∧ p.l ≤ p.c ∧ p.c ≤ 9223372036854775807
def pcv (P : List Pc) : Array Value := (P.map Pc.val).toArray
theorem pcs_list {w : World} {g : Nat} {t : TypeId} {fr : Nat × Nat} (P : List Pc) (hg : w.heap[g]? = some (.cells (pcv P) t fr)) (hP : ∀ p ∈ P, p.ok w) :
    Pcs w (some ⟨g, 0, Option.none⟩) P.length (fun i => (P.getD i Pc.none).a) (fun i => (P.getD i Pc.none).l) (fun i => (P.getD i Pc.none).c) (fun i => (P.getD i Pc.none).b) := by
  refine ⟨fun _ => ⟨g, 0, rfl, (Array.getElem?_eq_some_iff.1 hg).1, fun i hi => ?_⟩, fun i hi => ?_⟩
  · rw [cell_of_row _ _ _ _ _ _ hg, Nat.zero_add]
    simp [pcv, hi, Pc.val]
  · have := hP (P.getD i Pc.none) (by simp [hi])
    exact this
theorem Bytes.none (w : World) : Bytes w Option.none 0 [] := ⟨rfl, byt_nil, fun h => absurd h (by omega)⟩
theorem Pc.ok.below {p : Pc} {w w' : World} (h : p.ok w) (hb : Below w.heap.size w w') : p.ok w' := ⟨h.1.below hb, h.2⟩
/-- What Pieces answers for pieces that were just laid down in a block of their own. -/
theorem pieces_list (P : List Pc) (g n : Nat) (X : List Int) (t : TypeId) (fr : Nat × Nat) (w : World) (hT : Tabs w) (hg : w.heap[g]? = some (.cells (pcv P) t fr)) (hP : ∀ p ∈ P, p.ok w) (hn : P.length = n) (hn' : n ≤ 1000) (hX : joinTo (fun i => (P.getD i Pc.none).b) n = X) (hl : X.length ≤ 900000) :
    Calls Tryd.prog 39 #[.slice (some ⟨g, 0, Option.none⟩) n n] w fun e w' => e = .returned (.agg (u8s (sha X))) ∧ Below w.heap.size w w' := by
  subst hn
  subst hX
  exact pieces_any _ P.length P.length _ _ _ _ w hT (pcs_list P hg hP) hl (by unfold maxLen; omega)
end Go.Proofs.YtcggbnggmglphaaDoor.Dig
namespace Go.Proofs.YtcggbnggmglphaaDoor.Dig
set_option maxRecDepth 100000
set_option linter.unusedVariables false
open Go.RowKit Go.Proofs.YtcggbnggmglphaaDoor.Dig.Plain
theorem part5 (X : List Int) (i : Nat) (h : i < X.length) (w : World) : (part 5 (u8s X) (i * Tryd.prog.cellsOf 5)).run Tryd.prog w = .ok (.int .u8 (X.getD i 0)) w := by
  have hc : Tryd.prog.cellsOf 5 = 1 := by kernel_rfl
  have hagg : (isAgg 5).run Tryd.prog w = .ok false w := by kernel_rfl
  have hv : (u8s X)[i]? = some (.int .u8 (X.getD i 0)) := by simp [u8s, h]
  rw [hc, Nat.mul_one]
  simp [part, Sem.run_bind, hagg, hv]
theorem eq_items (X Y : List Int) (w : World) (hX : X.length = 32) (hY : Y.length = 32) : ∀ is : List Nat, (∀ i ∈ is, i < 32) → (Op.eqItems 9999 5 (Tryd.prog.cellsOf 5) (u8s X) (u8s Y) is).run Tryd.prog w = .ok (is.all fun i => X.getD i 0 == Y.getD i 0) w
  | [], _ => by simp [Op.eqItems]
  | i :: is, h => by
    have ih := eq_items X Y w hX hY is (fun j hj => h j (List.mem_cons_of_mem _ hj))
    have hi := h i List.mem_cons_self
    have e := run_equalIn_int (P := Tryd.prog) w 9998 5 .u8 .u8 (X.getD i 0) (Y.getD i 0) Tryd.underlying5
    simp only [Op.eqItems, Sem.run_bind, part5 X i (by omega), part5 Y i (by omega), Result.andThen_ok, e, List.all_cons]
    cases hq : (X.getD i 0 == Y.getD i 0)
    · simp
    · simpa using ih
theorem all_eq (X Y : List Int) (hX : X.length = 32) (hY : Y.length = 32) : ((List.range 32).all fun i => X.getD i 0 == Y.getD i 0) = decide (X = Y) := by
  rw [Bool.eq_iff_iff, List.all_eq_true, decide_eq_true_iff]
  constructor
  · intro h
    apply List.ext_getElem (by omega)
    intro i h1 h2
    have := h i (by simp; omega)
    simpa [List.getD, h1, h2] using this
  · rintro rfl i _
    simp
/-- In these blocks stand these digests. -/
def Stand (x : World) (l : List (Nat × List Int)) : Prop := ∀ p ∈ l, p.2.length = 32 ∧ x.heap[p.1]? = some (.cells (u8s p.2) 23 (0, 0))
theorem Stand.nil (x : World) : Stand x [] := fun p hp => by cases hp
theorem Stand.below {x y : World} {l : List (Nat × List Int)} (h : Stand x l) (hb : Below x.heap.size x y) : Stand y l := fun p hp =>
  ⟨(h p hp).1, (hb.block _ (Array.getElem?_eq_some_iff.1 (h p hp).2).1).trans (h p hp).2⟩
/-- What is known of a world on the way: what stands where, and that nothing that was there has turned. -/
def Way (w x : World) (l : List (Nat × List Int)) : Prop := Stand x l ∧ Below w.heap.size w x
theorem Way.on {w x y : World} {l : List (Nat × List Int)} (h : Way w x l) (hb : Below x.heap.size x y) : Way w y l := ⟨h.1.below hb, h.2.trans (hb.mono h.2.size)⟩
theorem below_to {w w1 w2 : World} (h : Below w.heap.size w w1) (k : Below w1.heap.size w1 w2) : Below w.heap.size w w2 := h.trans (k.mono h.size)
end Go.Proofs.YtcggbnggmglphaaDoor.Dig
namespace Go.Proofs.YtcggbnggmglphaaDoor.Dig
set_option maxRecDepth 100000
set_option linter.unusedVariables false
open Go.RowKit Go.Proofs.YtcggbnggmglphaaDoor.Dig.Plain
set_option maxRecDepth 20000 in
set_option maxHeartbeats 400000 in
theorem rounds_any (w : World) :
    Calls Tryd.prog 78 #[] w fun e w' => e = .returned (.agg (u32s kk)) ∧ Below w.heap.size w w' := by
  have HR : Hid ((w.alloc (.cells (fil [] 64) 154)).heap[w.heap.size]? = some (.cells (fil [] 64) 154 (0, 0)) ∧ Below w.heap.size w (w.alloc (.cells (fil [] 64) 154))) := ⟨al_at rfl, (Below.refl _ _).alloc (Nat.le_refl _) _⟩
  have HZ : Hid (fil [] 64 = #[.int .u32 0, .int .u32 0, .int .u32 0, .int .u32 0, .int .u32 0, .int .u32 0, .int .u32 0, .int .u32 0, .int .u32 0, .int .u32 0, .int .u32 0, .int .u32 0, .int .u32 0, .int .u32 0, .int .u32 0, .int .u32 0, .int .u32 0, .int .u32 0, .int .u32 0, .int .u32 0, .int .u32 0, .int .u32 0, .int .u32 0, .int .u32 0, .int .u32 0, .int .u32 0, .int .u32 0, .int .u32 0, .int .u32 0, .int .u32 0, .int .u32 0, .int .u32 0, .int .u32 0, .int .u32 0, .int .u32 0, .int .u32 0, .int .u32 0, .int .u32 0, .int .u32 0, .int .u32 0, .int .u32 0, .int .u32 0, .int .u32 0, .int .u32 0, .int .u32 0, .int .u32 0, .int .u32 0, .int .u32 0, .int .u32 0, .int .u32 0, .int .u32 0, .int .u32 0, .int .u32 0, .int .u32 0, .int .u32 0, .int .u32 0, .int .u32 0, .int .u32 0, .int .u32 0, .int .u32 0, .int .u32 0, .int .u32 0, .int .u32 0, .int .u32 0]) := rfl
  rw [HZ.out] at HR
  go_enter Tryd.func78, Tryd.ntmps78
  go_wp2_with (refine wpList_store_row rfl 154 (.tmp 0) (.tmp 1) rfl w.heap.size (u32s kk) rfl rfl 154 _ HR.out.1 (by kernel_rfl) (by rfl) (all_u32s kk) ?_)
  (try simp only [Exit.inBlock, Exit.then])
  refine bodyPost_ret (results_cell_row (p := 0) (ty := 154) rfl _ _ w.heap.size 154 (u32s kk) (0, 0) _ rfl (setRow_heap _ _ _ _ _ _ HR.out.1) Tryd.underlying154 rfl (by kernel_rfl)) rfl ?_
  exact ⟨rfl, below_setRow HR.out.2 (Nat.le_refl _) _⟩
end Go.Proofs.YtcggbnggmglphaaDoor.Dig
