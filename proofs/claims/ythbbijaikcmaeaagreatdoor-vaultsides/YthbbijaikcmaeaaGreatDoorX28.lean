/-
  What plan of package vault leaves: the items to write, by rising numbers, and what is known ahead of them.
-/
import Derived.Test.YthbbijaikcmaeaaGreatDoorX27
namespace Go.Proofs.YthbbijaikcmaeaaGreatDoor
set_option maxRecDepth 100000
set_option linter.unusedVariables false
set_option maxRecDepth 100000
open Go.RowKit Go.Shelf Plain Go.Proofs.YthbbijaikcmaeaaGreatDoor.Shap.Plain
theorem built_U (a b c : Nat) : Tryz.prog.built 90 [(1, .map (some a)), (2, .map (some b)), (3, .map (some c))] = some #[.slice none 0 0, .map (some a), .map (some b), .map (some c)] := by kernel_rfl
theorem atMk {P : Program} {ops : Array Oper} {Q : Exit → Act → World → Prop} {rest : List Oper} {a : Act} {w : World} (t : TypeId) {r : Option Operand} {d : Option Tmp} {ty : TypeId} {p : String} {af : Array Edge} {g : Option (Nat × Bool)} (h : wpList P ops Q ({ dst := d, op := .makeMap t r, type := ty, pos := p, after := af, guard := g } :: rest) a w) : wpList P ops Q ({ dst := d, op := .makeMap t r, type := ty, pos := p, after := af, guard := g } :: rest) a w := h
def pths (n : Nat) (M : List Im) : List Int := (M.map (fun m => pth (wid n) m.blk.toNat (wid n).length)).flatten
theorem pths_snoc (n : Nat) (M : List Im) (m : Im) : pths n (M ++ [m]) = pths n M ++ pth (wid n) m.blk.toNat (wid n).length := by simp [pths]
theorem length_pths (n : Nat) : ∀ M : List Im, (pths n M).length = M.length * (wid n).length
  | [] => by simp [pths]
  | m :: M => by
    have := length_pths n M
    simp only [pths, List.map_cons, List.flatten_cons, List.length_append, length_pth, List.length_cons] at this ⊢
    rw [this, Nat.succ_mul]
    omega
theorem pths_small (n : Nat) (M : List Im) (k len : Nat) (h1 : M.length ≤ 1000) (h2 : (wid n).length = len) (h3 : len ≤ 6) : (pths n (M.take k)).length + len ≤ 17592186044416 := by
  rw [length_pths, h2]
  have h4 : (M.take k).length ≤ 1000 := Nat.le_trans (List.length_take_le' _ _) h1
  have h5 : (M.take k).length * len ≤ 1000 * 6 := Nat.mul_le_mul h4 h3
  omega
def fB (M : List Im) : Int → Option Value := M.foldl (fun f m => fput f m.blk (.slice m.ba m.bl m.bc)) (fun _ => none)
theorem fB_snoc (M : List Im) (m : Im) : fB (M ++ [m]) = fput (fB M) m.blk (.slice m.ba m.bl m.bc) := by simp [fB]
structure Upd (x : World) (U bb nb kb base : Nat) (iv : Value) (cnt : Nat) (A : List Int) (fb : Int → Option Value) (fn fk : Int → Option Value) : Prop where
  un : x.heap[U]? = some (.cells #[iv, .map (some bb), .map (some nb), .map (some kb)] 90 (0, 0))
  own : x.ownsRow base 3 1 iv cnt (A.map (Value.int .i64))
  mb : Mp x bb fb
  mn : Mp x nb fn
  mkn : Mp x kb fk
theorem ownsB {x y : World} {base n : Nat} {v : Value} {xs : List Value} (h : x.ownsRow base 3 1 v n xs) (hb : ∀ k, v.ownBlock = some k → y.heap[k]? = x.heap[k]?) : y.ownsRow base 3 1 v n xs := Disk.own_same h hb
def PlanV (w : World) (n : Nat) (top : Rf) (M : List Im) (e : Ending) (w' : World) : Prop :=
  ∃ U bb nb kb base g cp, e = .returned (.pointer (some ⟨U, 0, none⟩)) ∧ Below w.heap.size w w' ∧ w.heap.size ≤ U ∧ w.heap.size ≤ bb ∧ w.heap.size ≤ nb ∧ w.heap.size ≤ kb ∧ w.heap.size ≤ base ∧ U < base ∧ bb < base ∧ nb < base ∧ kb < base ∧ bb ≠ nb ∧ bb ≠ kb ∧ nb ≠ kb ∧
      Upd w' U bb nb kb base (.slice (some ⟨g, 0, none⟩) (Lib.compact (srt (pths n M))).length cp) (Lib.compact (srt (pths n M))).length (Lib.compact (srt (pths n M))) (fB M) (fun _ => none) (fput (fun _ => none) (itm n (topL n) 0 : Nat) (.agg (ra top)))
set_option maxHeartbeats 4000000 in
theorem plan_v {w0 w : World} {V D : Nat} {fp : Nat → Prop} {v : Vt} {d : Disk.Dk} {sa : Option Addr} {sc : Nat} (C : VC w0 w V D fp v d sa sc) (a : Option Addr) (cap : Nat) (M : List Im) (hM : Imgs w a M) (hl : M.length ≤ 1000) (h0 : 0 < M.length) (hbk : ∀ m ∈ M, m.blk < (v.n : Int)) :
    Calls Tryz.prog 27 #[.pointer (some ⟨V, 0, none⟩), .slice a M.length cap] w fun e w' => PlanV w v.n v.top M e w' := by
  have h11 := C.ok.lo
  have h12 := C.ok.hi
  obtain ⟨hT1, hT2, hT3⟩ := topL_bd v.n h11 h12
  obtain ⟨len, hlen⟩ : ∃ len, (wid v.n).length = len := ⟨_, rfl⟩
  have hlb : 2 ≤ len ∧ len ≤ 6 := by omega
  have HM : Box (∀ x, Below w.heap.size w x → Imgs x a M) := ⟨fun x hx => hM.below hx⟩
  have CK : Box (∀ x, Below w.heap.size w x → Calls Tryz.prog 40 #[.pointer (some ⟨V, 0, none⟩)] x fun e w' => ∃ kb, e = .returned (.map (some kb)) ∧ Mp w' kb (fput (fun _ => none) (itm v.n (topL v.n) 0 : Nat) (.agg (ra v.top))) ∧ Below x.heap.size x w' ∧ x.heap.size ≤ kb) := ⟨fun x hx => known_v (C.below hx)⟩
  have CP : Box (∀ x (q : Nat), Below w.heap.size w x → q < v.n → Calls Tryz.prog 39 #[.pointer (some ⟨V, 0, none⟩), .int .u64 (q : Int)] x fun e w' => ∃ a cap, e = .returned (.slice a len cap) ∧ Shap.Ints w' a len (pth (wid v.n) q len) ∧ Below x.heap.size x w' ∧ len ≤ cap ∧ cap ≤ maxLen ∧ ∀ ad, a = some ad → x.heap.size ≤ ad.block) := ⟨fun x q hx hq => by
    have := path_v (C.below hx) q hq
    rw [hlen] at this
    exact this⟩
  have HI0 : Box (∀ q : Nat, (pth (wid v.n) q len).getD 0 0 = (q : Int)) := ⟨fun q => by
    have := pth_itm v.n h11 h12 q len 0 (by omega) (by omega)
    rw [this]
    simp [itm, off]⟩
  have HBK : Box (∀ m ∈ M, m.blk < (v.n : Int)) := ⟨hbk⟩
  have HMN : Box (0 < M.length ∧ M.length ≤ 1000 ∧ (wid v.n).length = len ∧ 2 ≤ len ∧ len ≤ 6) := ⟨h0, hl, hlen, hlb.1, hlb.2⟩
  obtain ⟨w1, hw1⟩ : ∃ w1, w.alloc (.map #[] 0) = w1 := ⟨_, rfl⟩
  obtain ⟨w2, hw2⟩ : ∃ w2, w1.alloc (.map #[] 0) = w2 := ⟨_, rfl⟩
  have hb1 : Below w.heap.size w w1 := by rw [← hw1]; exact (Below.refl _ _).alloc (Nat.le_refl _) _
  have hb2 : Below w1.heap.size w1 w2 := by rw [← hw2]; exact (Below.refl _ _).alloc (Nat.le_refl _) _
  have hs1 : w1.heap.size = w.heap.size + 1 := by rw [← hw1]; simp
  have hs2 : w2.heap.size = w.heap.size + 2 := by rw [← hw2]; simp [hs1]
  have HW : Box (Below w.heap.size w w2 ∧ Mp w2 w.heap.size (fun _ => none) ∧ Mp w2 w1.heap.size (fun _ => none) ∧ w1.heap.size = w.heap.size + 1 ∧ w2.heap.size = w.heap.size + 2) := ⟨below_to hb1 hb2, (by have h := mp_new w; rw [hw1] at h; exact h.same (hb2.block _ (by omega))), (by have h := mp_new w1; rw [hw2] at h; exact h), hs1, hs2⟩
  clear hM C hb1 hb2 hs1 hs2 hT1 hT2 hT3 h11 h12 hlen hlb hbk h0
  go_enter Tryz.func27, Tryz.ntmps27
  go_upto_region 2 with (first
    | (refine atMk 85 ?_; refine wpList_run rfl _ _ (exec_mkmap rfl) ?_)
    | (refine atMk 86 ?_; refine wpList_run rfl _ _ (exec_mkmap rfl) ?_)
    | (go_at_call 40; refine Calls.mono (CK.out w2 HW.out.1) ?_; rintro e x1 ⟨kb, rfl, k1, k2, k3⟩; have HK : Box (Mp x1 kb (fput (fun _ => none) (itm v.n (topL v.n) 0 : Nat) (.agg (ra v.top))) ∧ Below w2.heap.size w2 x1 ∧ w2.heap.size ≤ kb) := ⟨k1, k2, k3⟩; clear k1 k2 k3)
    | (refine atBuild _ ?_; refine wpList_run rfl _ _ (exec_built 90 [(1, .tmp 9), (2, .tmp 10), (3, .tmp 12)] rfl _ rfl _ (built_U _ _ _)) ?_))
  obtain ⟨x0, hx0⟩ : ∃ x0, x1.alloc (.cells #[.slice none 0 0, .map (some w.heap.size), .map (some w1.heap.size), .map (some kb)] 90) = x0 := ⟨_, rfl⟩
  obtain ⟨U, hU⟩ : ∃ U, x1.heap.size = U := ⟨_, rfl⟩
  obtain ⟨bb, hbb⟩ : ∃ bb, w.heap.size = bb := ⟨_, rfl⟩
  obtain ⟨nb, hnb⟩ : ∃ nb, w1.heap.size = nb := ⟨_, rfl⟩
  have hb01 : Below x1.heap.size x1 x0 := by rw [← hx0]; exact (Below.refl _ _).alloc (Nat.le_refl _) _
  have hs0 : x0.heap.size = U + 1 := by rw [← hx0, ← hU]; simp
  obtain ⟨q1, q2, q3, q4, q5⟩ := HW.out
  obtain ⟨r1, r2, r3⟩ := HK.out
  have hr2 := r2.size
  have hkl := r1.lt
  have HU : Box (Upd x0 U bb nb kb x0.heap.size (.slice none 0 0) 0 [] (fun _ => none) (fun _ => none) (fput (fun _ => none) (itm v.n (topL v.n) 0 : Nat) (.agg (ra v.top))) ∧ Below w.heap.size w x0) := ⟨⟨by rw [← hx0, ← hU, ← hbb, ← hnb]; exact al_at rfl, World.ownsRow_nil _ _ _ _, by rw [← hbb]; exact (q2.same (r2.block _ (by omega))).same (hb01.block _ (by omega)), by rw [← hnb]; exact (q3.same (r2.block _ (by omega))).same (hb01.block _ (by omega)), r1.same (hb01.block _ hkl)⟩, below_to q1 (below_to r2 hb01)⟩
  have HNN : Box (w.heap.size = bb ∧ nb = bb + 1 ∧ bb + 2 ≤ kb ∧ kb < U ∧ x0.heap.size = U + 1) := ⟨by omega⟩
  simp only [hx0]
  simp only [hU, hnb, hbb]
  clear hb01 hs0 q1 q2 q3 q4 q5 r1 r2 r3 hr2 hkl HW HK hx0 hU hbb hnb hw1 hw2 CK
  go_wp2
  go_loopw [17] (fun i wr => ∃ k : Nat, k ≤ M.length ∧ i = .int .i64 (k : Int) ∧ ∃ iv, Box (Upd wr U bb nb kb x0.heap.size iv (pths v.n (M.take k)).length (pths v.n (M.take k)) (fB (M.take k)) (fun _ => none) (fput (fun _ => none) (itm v.n (topL v.n) 0 : Nat) (.agg (ra v.top))) ∧ Below w.heap.size w wr ∧ x0.heap.size ≤ wr.heap.size)) (fun i _ => M.length - (intOf i).toNat)
  case atStart => exact ⟨0, Nat.zero_le _, rfl, _, ⟨HU.out.1, HU.out.2, Nat.le_refl _⟩⟩
  case round =>
    clear HU
    obtain ⟨k, hk, rfl, iv, HB⟩ := hrel
    by_cases hlt : k < M.length
    · have hlt1 : decide ((k : Int) < (M.length : Int)) = true := by simp; omega
      have hm := HM.out wr HB.out.2.1
      obtain ⟨b, o, e, hbl, hr⟩ := hm.row (by omega)
      subst e
      have hrk := hr k hlt
      have hbk := hm.byt M[k] (List.getElem_mem hlt)
      have hbn := HBK.out M[k] (List.getElem_mem hlt)
      have HR : Box (wr.rangeAt b (o + k * 2) (imc M[k]) ∧ b < wr.heap.size) := ⟨hrk, hbl⟩
      have hw4 : IntKind.i64.wrap ((k : Int) + 1) = ((k + 1 : Nat) : Int) := by rw [IntKind.wrap_i64]; omega
      have HML : Box (k < M.length) := ⟨hlt⟩
      obtain ⟨m, hmm⟩ : ∃ m, M[k] = m := ⟨_, rfl⟩
      rw [hmm] at hbk hbn
      simp only [hmm] at HR
      have hsn : M.take (k + 1) = M.take k ++ [m] := by rw [List.take_succ_eq_append_getElem hlt, hmm]
      obtain ⟨q, hq⟩ : ∃ q : Nat, m.blk = (q : Int) := ⟨m.blk.toNat, by omega⟩
      have hqn : q < v.n := by omega
      have HSN : Box (M.take (k + 1) = M.take k ++ [m] ∧ m.blk = (q : Int) ∧ q < v.n) := ⟨hsn, hq, hqn⟩
      have himc : imc m = [.int .u64 (q : Int), .slice m.ba m.bl m.bc] := by rw [imc, hq]
      rw [himc] at HR
      clear hr hrk hbl hm hbk hmm hbn hsn hqn himc
      go_upto_region 6 with (first
        | (refine atIdx _ ?_; refine wpList_run rfl _ _ (exec_idxIm (.tmp 15) (.tmp 17) rfl b o M.length cap k rfl rfl HML.out) ?_)
        | (refine atLoad 41 ?_; refine wpList_ldMid rfl 41 _ _ rfl Tryz.underlying41 rfl b (o + k * 2) rfl [.int .u64 (q : Int), .slice m.ba m.bl m.bc] infoIm HR.out.1 ?_)
        | (refine atAlloc _ ?_; refine wpList_run rfl _ _ (exec_alloc 41 rfl _ zeroIm) ?_)
        | (refine atStore _ ?_; refine wpList_newRow wr #[.int .u64 0, .slice none 0 0] #[.int .u64 (q : Int), .slice m.ba m.bl m.bc] infoIm rfl (by simp [Value.oneCell']) rfl _ _ rfl rfl rfl rfl ?_; intro x2 h1 hb1; have c0 : x2.cell? ⟨wr.heap.size, 0, none⟩ = some (.int .u64 (q : Int)) := (by rw [cell_of_row _ _ _ _ _ _ h1]; rfl); have HX : Box (Below wr.heap.size wr x2 ∧ x2.heap[wr.heap.size]? = some (.cells #[.int .u64 (q : Int), .slice m.ba m.bl m.bc] 41 (0, 0))) := ⟨hb1, h1⟩; clear h1 hb1)
        | (go_at_call 39; refine Calls.mono (CP.out x2 q (below_to HB.out.2.1 HX.out.1) HSN.out.2.2) ?_; rintro e x3 ⟨pa, pcp, rfl, p1, p2, p3, p4, p5⟩; have HP : Box (Shap.Ints x3 pa len (pth (wid v.n) q len) ∧ Below x2.heap.size x2 x3 ∧ len ≤ pcp ∧ pcp ≤ maxLen ∧ ∀ ad, pa = some ad → x2.heap.size ≤ ad.block) := ⟨p1, p2, p3, p4, p5⟩; clear p1 p2 p3 p4 p5))
      obtain ⟨u1, u2, u3, u4, u5⟩ := HB.out.1
      have hn := HNN.out
      have hmn := HMN.out
      have hsx := HB.out.2.2
      obtain ⟨hb12, hBi⟩ := HX.out
      obtain ⟨p1, p2, p3, p4, p5⟩ := HP.out
      have b13 : Below wr.heap.size wr x3 := below_to hb12 p2
      obtain ⟨pb, po, epa, hpl, hpc⟩ := p1.2 (by omega)
      subst epa
      have hpb := p5 _ rfl
      have hs12 := hb12.size
      have hs23 := p2.size
      have hBil : wr.heap.size < x2.heap.size := (Array.getElem?_eq_some_iff.1 hBi).1
      dsimp only at hpb
      have u13 : x3.heap[U]? = some (.cells #[iv, .map (some bb), .map (some nb), .map (some kb)] 90 (0, 0)) := (b13.block U (by omega)).trans u1
      have hBi3 : x3.heap[wr.heap.size]? = some (.cells #[.int .u64 (q : Int), .slice m.ba m.bl m.bc] 41 (0, 0)) := (p2.block _ hBil).trans hBi
      have hpc0 := hpc 0 (by omega)
      rw [Nat.add_zero, HI0.out q] at hpc0
      have GB : Box (x3.drew.cell? ⟨U, 1, none⟩ = some (.map (some bb)) ∧ U ≠ bb) := ⟨by show x3.cell? _ = _; rw [cell_of_row _ _ _ _ _ _ u13]; rfl, by omega⟩
      have GP : Box (x3.drew.cell? ⟨pb, po, none⟩ = some (.int .i64 (m.blk)) ∧ pb ≠ bb) := ⟨by show x3.cell? _ = _; rw [HSN.out.2.1]; exact hpc0, by omega⟩
      have GI : Box (x3.drew.cell? ⟨wr.heap.size, 1, none⟩ = some (.slice m.ba m.bl m.bc) ∧ wr.heap.size ≠ bb) := ⟨by show x3.cell? _ = _; rw [cell_of_row _ _ _ _ _ _ hBi3]; rfl, by omega⟩
      have GM : Box (Mp x3.drew bb (fB (M.take k))) := ⟨(u3.same (b13.block bb (by omega))).same rfl⟩
      have HX3 : Box (Below wr.heap.size wr x3 ∧ Shap.Ints x3 (some ⟨pb, po, none⟩) len (pth (wid v.n) q len) ∧ x2.heap.size ≤ pb ∧ wr.heap.size < x2.heap.size ∧ x2.heap.size ≤ x3.heap.size) := ⟨b13, p1, hpb, hBil, hs23⟩
      have hl2 : 0 < len := by omega
      clear u1 u2 u3 u4 u5 hn hmn hsx hb12 hBi p1 p2 p3 p4 p5 b13 hpl hpc hpb hs12 hs23 hBil u13 hBi3 hpc0 HP HX hq
      refine Disk.begin_but bb (by kernel_rfl) (fun wd hwd => ?_)
      subst hwd
      refine Disk.take_but (i := 0) (v := ?_) rfl (by kernel_rfl) (by kernel_rfl) (by kernel_rfl) (fun _ _ _ h => h) (by rfl) ?_ ?_
      rotate_left
      · intro w' hB; clear hB; go_simp <;> with_reducible rfl
      try simp only [Act.put, List.setIfInBounds_toArray, List.set_cons_zero, List.set_cons_succ, List.getElem_toArray, List.getElem_cons_zero]
      refine Disk.take_but (i := 1) (v := ?_) rfl (by kernel_rfl) (by kernel_rfl) (by kernel_rfl) (fun _ _ _ h => h) (by rfl) ?_ ?_
      rotate_left
      · intro w' hB; clear hB; go_simp <;> with_reducible rfl
      try simp only [Act.put, List.setIfInBounds_toArray, List.set_cons_zero, List.set_cons_succ, List.getElem_toArray, List.getElem_cons_zero, List.getElem_cons_succ]
      refine Disk.take_but (i := 2) (v := ?_) rfl (by kernel_rfl) (by kernel_rfl) (by kernel_rfl) (fun _ _ _ h => h) (by rfl) ?_ ?_
      rotate_left
      · intro w' hB; clear hB; go_simp <;> with_reducible rfl
      try simp only [Act.put, List.setIfInBounds_toArray, List.set_cons_zero, List.set_cons_succ, List.getElem_toArray, List.getElem_cons_zero, List.getElem_cons_succ]
      refine Disk.take_but (i := 3) (v := .map (some bb)) rfl (by kernel_rfl) (by kernel_rfl) (by kernel_rfl) (fun _ _ _ h => h) (by rfl) (fun w' hB => Disk.exec_load1 85 _ _ rfl Tryz.underlying85 rfl _ rfl _ (Disk.but_cell hB GB.out.1 GB.out.2)) ?_
      try simp only [Act.put, List.setIfInBounds_toArray, List.set_cons_zero, List.set_cons_succ, List.getElem_toArray, List.getElem_cons_zero, List.getElem_cons_succ]
      refine Disk.take_but (i := 4) (v := ?_) rfl (by kernel_rfl) (by kernel_rfl) (by kernel_rfl) (fun _ _ _ h => h) (by rfl) ?_ ?_
      rotate_left
      · intro w' hB; clear hB; go_simp <;> with_reducible rfl
      try simp only [Act.put, List.setIfInBounds_toArray, List.set_cons_zero, List.set_cons_succ, List.getElem_toArray, List.getElem_cons_zero, List.getElem_cons_succ]
      refine Disk.take_but (i := 5) (v := .pointer (some ⟨pb, po, none⟩)) rfl (by kernel_rfl) (by kernel_rfl) (by kernel_rfl) (fun _ _ _ h => h) (by rfl) (fun w' hB => exec_idx0 (.tmp 29) rfl pb po len pcp rfl rfl (by omega)) ?_
      try simp only [Act.put, List.setIfInBounds_toArray, List.set_cons_zero, List.set_cons_succ, List.getElem_toArray, List.getElem_cons_zero, List.getElem_cons_succ]
      refine Disk.take_but (i := 6) (v := .int .i64 (m.blk)) rfl (by kernel_rfl) (by kernel_rfl) (by kernel_rfl) (fun _ _ _ h => h) (by rfl) (fun w' hB => Disk.exec_load1 3 _ _ rfl Tryz.underlying3 rfl _ rfl _ (Disk.but_cell hB GP.out.1 GP.out.2)) ?_
      try simp only [Act.put, List.setIfInBounds_toArray, List.set_cons_zero, List.set_cons_succ, List.getElem_toArray, List.getElem_cons_zero, List.getElem_cons_succ]
      refine Disk.take_but (i := 7) (v := ?_) rfl (by kernel_rfl) (by kernel_rfl) (by kernel_rfl) (fun _ _ _ h => h) (by rfl) ?_ ?_
      rotate_left
      · intro w' hB; clear hB; go_simp <;> with_reducible rfl
      try simp only [Act.put, List.setIfInBounds_toArray, List.set_cons_zero, List.set_cons_succ, List.getElem_toArray, List.getElem_cons_zero, List.getElem_cons_succ]
      refine Disk.take_but (i := 8) (v := .slice m.ba m.bl m.bc) rfl (by kernel_rfl) (by kernel_rfl) (by kernel_rfl) (fun _ _ _ h => h) (by rfl) (fun w' hB => Disk.exec_load1 38 _ _ rfl Tryz.underlying38 rfl _ rfl _ (Disk.but_cell hB GI.out.1 GI.out.2)) ?_
      try simp only [Act.put, List.setIfInBounds_toArray, List.set_cons_zero, List.set_cons_succ, List.getElem_toArray, List.getElem_cons_zero, List.getElem_cons_succ]
      refine last_map (i := 9) rfl (by kernel_rfl) (by rfl) (by kernel_rfl) (.tmp 28) (.tmp 31) (.tmp 33) (.inl rfl) Tryz.underlying85 Tryz.underlying3 _ rfl GM.out _ rfl _ rfl (fun x5 hM5 hB5 hz5 => ?_)
      have hB5' : But bb x3 x5 := ⟨hB5.os, hB5.tape, hB5.output, hB5.size, hB5.block⟩
      obtain ⟨u1, u2, u3, u4, u5⟩ := HB.out.1
      obtain ⟨d1, d2, d3, d4, d5⟩ := HX3.out
      have hn := HNN.out
      have hsx := HB.out.2.2
      have hz : x5.heap.size = x3.heap.size := hz5
      have key : ∀ j, j < wr.heap.size → j ≠ bb → x5.heap[j]? = wr.heap[j]? := fun j h1 h2 => (hB5'.block j (by omega) h2).trans (d1.block j h1)
      have H5 : Box (x5.ownsRow x0.heap.size 3 1 iv (pths v.n (M.take k)).length ((pths v.n (M.take k)).map (Value.int .i64)) ∧ Shap.Ints x5 (some ⟨pb, po, none⟩) len (pth (wid v.n) q len) ∧ x5.heap[U]? = some (.cells #[iv, .map (some bb), .map (some nb), .map (some kb)] 90 (0, 0)) ∧ Mp x5 bb (fB (M.take (k + 1))) ∧ Mp x5 nb (fun _ => none) ∧ Mp x5 kb (fput (fun _ => none) (itm v.n (topL v.n) 0 : Nat) (.agg (ra v.top))) ∧ x0.heap.size ≤ x5.heap.size ∧ Below w.heap.size w x5) := ⟨ownsB u2 (fun j hj => by have := u2.lt j hj; exact key j this.2 (by omega)), ints_same d2 (fun ad e => by cases e; exact hB5'.block pb (World.block_lt_of_cell? _ _ GP.out.1) GP.out.2) hB5'.size, (key U (by omega) (by omega)).trans u1, by rw [HSN.out.1, fB_snoc]; exact hM5, u4.same (key nb (by omega) (by omega)), u5.same (key kb (by omega) (by omega)), by omega, ⟨hB5'.os.trans (d1.os.trans HB.out.2.1.os), hB5'.tape.trans (d1.tape.trans HB.out.2.1.tape), hB5'.output.trans (d1.output.trans HB.out.2.1.output), by have := HB.out.2.1.size; omega, fun j hj => (key j (by have := HB.out.2.1.size; omega) (by omega)).trans (HB.out.2.1.block j hj)⟩⟩
      have cU : x5.cell? ⟨U, 0, none⟩ = some iv := by rw [cell_of_row _ _ _ _ _ _ H5.out.2.2.1]; rfl
      have HPL : Box ((pths v.n (M.take k)).length + len ≤ 17592186044416) := ⟨pths_small v.n M k len HMN.out.2.1 HMN.out.2.2.1 HMN.out.2.2.2.2⟩
      clear u1 u2 u3 u4 u5 d1 d2 d3 d4 d5 hn hsx hz key hB5 hB5' hM5 hz5
      go_wp2_with (first
        | (at_builtin; refine Shap.wpList_iapp rfl (.tmp 38) (.tmp 39) rfl x0.heap.size (pths v.n (M.take k)).length len pcp iv (pths v.n (M.take k)) (pth (wid v.n) q len) ⟨pb, po, none⟩ x5 rfl rfl H5.out.1 H5.out.2.1 HPL.out (Below.refl _ _) H5.out.2.2.2.2.2.2.1 ?_; intro iv' x6 H6; obtain ⟨ia, ic, rfl⟩ := Shap.iown_form H6.out.1; have cU6 : x6.cell? ⟨U, 0, none⟩ = some iv := (by rw [cell_of_row _ _ _ _ _ _ ((H6.out.2.1.block U (by have := HNN.out; omega)).trans H5.out.2.2.1)]; rfl); have fU6 : x6.frozen? ⟨U, 0, none⟩ = false := frozen_of_row _ _ _ _ _ ((H6.out.2.1.block U (by have := HNN.out; omega)).trans H5.out.2.2.1)))
      go_roundw
      case rel =>
        have hn := HNN.out
        obtain ⟨e1, e2, e3, e4, e5, e6, e7, e8⟩ := H5.out
        obtain ⟨f1, f2, f3⟩ := H6.out
        have hU6 := (f2.block U (by omega)).trans e3
        have hl' : (pths v.n (M.take (k + 1))).length = (pths v.n (M.take k)).length + len := by
          rw [HSN.out.1, pths_snoc, List.length_append, length_pth, HMN.out.2.2.1]
        have hp' : pths v.n (M.take (k + 1)) = pths v.n (M.take k) ++ pth (wid v.n) q len := by
          rw [HSN.out.1, pths_snoc, HSN.out.2.1, Int.toNat_natCast, HMN.out.2.2.1]
        have hot : ∀ j, j ≠ U → (x6.setCell ⟨U, 0, none⟩ (.slice ia ((pths v.n (M.take k)).length + len) ic)).heap[j]? = x6.heap[j]? := fun j hj => heap_setCell_other x6 ⟨U, 0, none⟩ j _ hj
        refine ⟨k + 1, HML.out, rfl, .slice ia ((pths v.n (M.take k)).length + len) ic, ⟨⟨?_, ?_, ?_, ?_, ?_⟩, ?_, ?_⟩⟩
        · exact heap_setCell_same x6 U 0 _ _ _ hU6
        · rw [hl', hp']
          exact ownsB f1 (fun j hj => hot j (by have := (f1.lt j hj).1; omega))
        · exact (e4.same (f2.block bb (by omega))).same (hot bb (by omega))
        · exact (e5.same (f2.block nb (by omega))).same (hot nb (by omega))
        · exact (e6.same (f2.block kb (by omega))).same (hot kb (by omega))
        · exact below_set (e8.trans (f2.mono (by have := e8.size; omega))) (by omega) _
        · simpa using f3
      case measure => simp [intOf]; have := HML.out; omega
    · obtain rfl : k = M.length := by omega
      have hlt1 : decide ((M.length : Int) < (M.length : Int)) = false := by simp
      obtain ⟨u1, u2, u3, u4, u5⟩ := HB.out.1
      rw [List.take_length] at u2 u3
      have hne : iv ≠ .slice none 0 0 := fun e => by
        rcases u2.2 with ⟨_, h0⟩ | ⟨g, cp, cur, h1, _⟩
        · have hm := HMN.out
          rw [length_pths, hm.2.2.1] at h0
          have : 0 < M.length * len := Nat.mul_pos hm.1 (by omega)
          omega
        · rw [e] at h1
          cases h1
      have hsm := pths_small v.n M M.length len HMN.out.2.1 HMN.out.2.2.1 HMN.out.2.2.2.2
      rw [List.take_length] at hsm
      have CS : Box _ := ⟨sort_v wr x0.heap.size iv _ (pths v.n M) u2 hne (by omega)⟩
      have CC : Box (∀ x, x.ownsRow x0.heap.size 3 1 iv (pths v.n M).length ((srt (pths v.n M)).map (Value.int .i64)) → Calls Tryz.prog 48 #[iv] x fun e w' => ∃ g cap, iv = .slice (some ⟨g, 0, none⟩) (pths v.n M).length cap ∧ e = .returned (.slice (some ⟨g, 0, none⟩) (Lib.compact (srt (pths v.n M))).length cap) ∧ w'.ownsRow x0.heap.size 3 1 (.slice (some ⟨g, 0, none⟩) (Lib.compact (srt (pths v.n M))).length cap) (Lib.compact (srt (pths v.n M))).length ((Lib.compact (srt (pths v.n M))).map (Value.int .i64)) ∧ x.grownBy w' iv.ownBlock) := ⟨fun x hx => compact_v x x0.heap.size iv _ (srt (pths v.n M)) hx hne⟩
      have cU : wr.cell? ⟨U, 0, none⟩ = some iv := by rw [cell_of_row _ _ _ _ _ _ u1]; rfl
      have HUU : Box (wr.heap[U]? = some (.cells #[iv, .map (some bb), .map (some nb), .map (some kb)] 90 (0, 0)) ∧ Mp wr bb (fB M) ∧ Mp wr nb (fun _ => none) ∧ Mp wr kb (fput (fun _ => none) (itm v.n (topL v.n) 0 : Nat) (.agg (ra v.top))) ∧ ∀ j, iv.ownBlock = some j → x0.heap.size ≤ j) := ⟨u1, u3, u4, u5, fun j hj => (u2.lt j hj).1⟩
      clear u1 u2 u3 u4 u5 hne hsm
      go_wp2_with (first
        | (go_at_call 47; refine Calls.mono CS.out ?_; rintro e x2 ⟨rfl, s1, s2⟩; have HS2 : Box (x2.ownsRow x0.heap.size 3 1 iv (pths v.n M).length ((srt (pths v.n M)).map (Value.int .i64)) ∧ wr.grownBy x2 iv.ownBlock) := ⟨s1, s2⟩; have cU2 : x2.cell? ⟨U, 0, none⟩ = some iv := ((World.cell?_of_block (show x2.heap[U]? = wr.heap[U]? from s2.block U (World.block_lt_of_cell? _ _ cU) (fun e => by have h1 := HUU.out.2.2.2.2 U e.symm; have h2 := HNN.out; omega))).trans cU); clear s1 s2)
        | (go_at_call 48; refine Calls.mono (CC.out x2 HS2.out.1) ?_; rintro e x3 ⟨g, cp, hiv, rfl, s1, s2⟩; have HS3 : Box (iv = .slice (some ⟨g, 0, none⟩) (pths v.n M).length cp ∧ x3.ownsRow x0.heap.size 3 1 (.slice (some ⟨g, 0, none⟩) (Lib.compact (srt (pths v.n M))).length cp) (Lib.compact (srt (pths v.n M))).length ((Lib.compact (srt (pths v.n M))).map (Value.int .i64)) ∧ x2.grownBy x3 iv.ownBlock) := ⟨hiv, s1, s2⟩; have cU3 : x3.cell? ⟨U, 0, none⟩ = some iv := ((World.cell?_of_block (show x3.heap[U]? = x2.heap[U]? from s2.block U (World.block_lt_of_cell? _ _ cU2) (fun e => by have h1 := HUU.out.2.2.2.2 U e.symm; have h2 := HNN.out; omega))).trans cU2); have hU3 : x3.heap[U]? = wr.heap[U]? := ((s2.block U (World.block_lt_of_cell? _ _ cU2) (fun e => by have h1 := HUU.out.2.2.2.2 U e.symm; have h2 := HNN.out; omega)).trans (HS2.out.2.block U (World.block_lt_of_cell? _ _ cU) (fun e => by have h1 := HUU.out.2.2.2.2 U e.symm; have h2 := HNN.out; omega))); have fU3 : x3.frozen? ⟨U, 0, none⟩ = false := frozen_of_row _ _ _ _ _ (hU3.trans HUU.out.1); have HU3 : Box (x3.heap[U]? = wr.heap[U]?) := ⟨hU3⟩; clear hU3 hiv s1 s2))
      go_ret
      obtain ⟨t1, t2, t3, t4, t5⟩ := HUU.out
      have hn := HNN.out
      have hbw := HB.out.2.1
      have hbz := HB.out.2.2
      have g2 := HS2.out.2
      have g3 := HS3.out.2.2
      have key : ∀ j, j < wr.heap.size → j < x0.heap.size → x3.heap[j]? = wr.heap[j]? := fun j h1 h2 => (g3.block j (Nat.lt_of_lt_of_le h1 g2.size) (fun e => by have := t5 j e.symm; omega)).trans (g2.block j h1 (fun e => by have := t5 j e.symm; omega))
      have hot : ∀ j u, j ≠ U → (x3.setCell ⟨U, 0, none⟩ u).heap[j]? = x3.heap[j]? := fun j u hj => heap_setCell_other x3 ⟨U, 0, none⟩ j _ hj
      have hb3 : Below w.heap.size w x3 := ⟨g3.os.trans (g2.os.trans hbw.os), g3.tape.trans (g2.tape.trans hbw.tape), g3.output.trans (g2.output.trans hbw.output), Nat.le_trans hbw.size (Nat.le_trans g2.size g3.size), fun j hj => (key j (by have := hbw.size; omega) (by omega)).trans (hbw.block j hj)⟩
      refine ⟨U, bb, nb, kb, x0.heap.size, g, cp, rfl, below_set hb3 (by omega) _, by omega, by omega, by omega, by omega, by omega, by omega, by omega, by omega, by omega, by omega, by omega, by omega, ⟨?_, ?_, ?_, ?_, ?_⟩⟩
      · exact heap_setCell_same x3 U 0 _ _ _ (HU3.out.trans t1)
      · exact ownsB HS3.out.2.1 (fun j hj => hot j _ (by have := (HS3.out.2.1.lt j hj).1; omega))
      · exact (t2.same (key bb (by omega) (by omega))).same (hot bb _ (by omega))
      · exact (t3.same (key nb (by omega) (by omega))).same (hot nb _ (by omega))
      · exact (t4.same (key kb (by omega) (by omega))).same (hot kb _ (by omega))
end Go.Proofs.YthbbijaikcmaeaaGreatDoor
