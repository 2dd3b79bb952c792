/-
  The walk of LayoutGets: a first block that was put is got; with any byte turned, or cut, it is what the reference says: the law returns true.
-/
import Derived.Test.YtniminalkjhfbaaLU
import Derived.Test.YtniminalkjhfbaaLT
namespace Go.Proofs.Ytniminalkjhfbaa
set_option linter.unusedVariables false
open Go.RowKit Plain

theorem exec_nez {o : Oper} {ρ : Operand → Value} {w' : World} (x y : Operand) (ty : TypeId) (ho : o.op = .binOp .neq 25 x y ty) (n : Int) (b : Bool) (hb : (n != 0) = b) (hx : ρ x = .int .i64 n) (hy : ρ y = .int .i64 0) : (execOp ρ o).run Try.prog w' = .ok (.value (.bool b)) w' := by
  subst hb
  unfold execOp
  simp [ho, hx, hy, eqGuard, binOp, Op.intCmp]
theorem bytes_take {w : World} {a : Option Addr} {len : Nat} {L : List Int} (h : Bytes w a len L) (p : Nat) (hp : p ≤ len) : Bytes w a p (L.take p) := by
  refine ⟨by rw [List.length_take, h.1]; omega, byt_take L p h.2.1, fun h0 => ?_⟩
  obtain ⟨b, off, e, hlt, hc⟩ := h.2.2 (by omega)
  refine ⟨b, off, e, hlt, fun i hi => ?_⟩
  rw [hc i (by omega)]
  simp [List.getD, hi]
/-- What was got, by the code and by the reference, beside the bytes. -/
def Tri (w x : World) (X Y : Nat) (b i t d : Int) (g n : Nat) (B : List Int) : Prop := Lay x X b i t d ∧ Lay' x Y b i t d ∧ Below w.heap.size w x ∧ Bytes x (some ⟨g, 0, none⟩) n B
theorem Tri.on {w x y : World} {X Y : Nat} {b i t d : Int} {g n : Nat} {B : List Int} (h : Tri w x X Y b i t d g n B) (hb : Below x.heap.size x y) : Tri w y X Y b i t d g n B := ⟨h.1.below hb, h.2.1.below hb, below_to h.2.2.1 hb, h.2.2.2.below hb⟩
theorem put_row {w x y : World} {B : List Int} {g k : Nat} (v : Int) (h : Out x y (some ⟨g, 0, none⟩) 160 160 B) (hB : Byt B) (hb : Below w.heap.size w x) (hk : k < 160) (hv : 0 ≤ v ∧ v ≤ 255) :
    y.cell? ⟨g, k, none⟩ = some (.int .u8 (B.getD k 0)) ∧ y.frozen? ⟨g, k, none⟩ = false ∧ Bytes (y.setCell ⟨g, k, none⟩ (.int .u8 v)) (some ⟨g, 0, none⟩) 160 (B.set k v) ∧ Below w.heap.size w (y.setCell ⟨g, k, none⟩ (.int .u8 v)) := by
  obtain ⟨g', cap, cur, e1, e2, e3, e4, _, _, e7⟩ := own_block h.2.1 (by omega)
  simp only [Value.slice.injEq, Option.some.injEq, Addr.mk.injEq, and_true, true_and] at e1
  obtain ⟨rfl, _⟩ := e1
  refine ⟨?_, frozen_of_row y g _ cur 5 e3, own_set e3 e4 e7 h.1 hB hv hk, below_set (below_to hb h.2.2) (Nat.le_trans hb.size e2) _⟩
  rw [cell_of_row _ _ _ _ _ _ e3, e7 k hk]

set_option maxRecDepth 20000 in
set_option maxHeartbeats 4000000 in
theorem gets_no (bl il a ov : Int) (cut : Bool) (b i t d e : Int) (w : World) (h1 : Box (e = 1))
    (CN : Box (∀ x, Calls Try.prog 9 #[.int .i64 bl, .int .i64 il] x fun r w' => r = .returned (.tuple #[.agg (lc b i t d), .int .i64 e]) ∧ Below x.heap.size x w')) :
    Calls Try.prog 4 #[.int .i64 bl, .int .i64 il, .int .u8 a, .int .u8 ov, .bool cut] w fun e w' => e = .returned (.bool true) ∧ Below w.heap.size w w' := by
  have CA : Box (∀ x, Calls Try.prog 8 #[] x fun e w' => e = .returned (.bool true) ∧ Below x.heap.size x w') := ⟨awake_any⟩
  go_enter Try.func4, Try.ntmps4
  go_upto_region 5 with (first
    | (refine wpList_newL w2 b i t d rfl _ _ rfl rfl rfl rfl ?_; intro z2 hz hb3; have H2 : Box (Lay z2 w2.heap.size b i t d ∧ Below w.heap.size w z2) := ⟨hz, below_to (below_to H1.out hb2) hb3⟩; clear hz hb3 hb2)
    | (go_at_call 9; refine Calls.mono (CN.out w1) ?_; rintro e0 w2 ⟨rfl, hb2⟩)
    | (go_at_call 8; refine Calls.mono (CA.out w) ?_; rintro e0 w1 ⟨rfl, hb1⟩; have H1 : Box (Below w.heap.size w w1) := ⟨hb1⟩; clear hb1))
  generalize w2.heap.size = S at H2 ⊢
  clear CA CN H1
  have g1 : (e != 0) = true := by simp [h1.out]
  go_wp2
  go_ret
  exact ⟨rfl, H2.out.2⟩

set_option maxRecDepth 20000 in
set_option maxHeartbeats 8000000 in
theorem gets_false_0 (bl il a ov D u z v : Int) (k : Nat) (B1 B2 : List Int) (b i t d e : Int) (w : World) (ha : 0 ≤ a ∧ a ≤ 255) (ho : 0 ≤ ov ∧ ov ≤ 255) (hu : Box (u = 0)) (h1 : Box (e = 0)) (hl0 : 0 ≤ bl ∧ bl ≤ 1024) (hl1 : 0 ≤ il ∧ il ≤ 500)
    (tk : a.tmod 160 = (k : Int)) (hk : k < 160) (hz : Box ((lb bl il).getD k 0 = z)) (hz2 : 0 ≤ z ∧ z ≤ 255) (hv : Box (bits .xor .u8 z ov = v)) (hv2 : 0 ≤ v ∧ v ≤ 255) (hB1 : Box ((lb bl il).set k v = B1)) (hB2 : Box (B1.take 160 = B2)) (hbb : 0 ≤ b ∧ b ≤ 1024) (hii : 0 ≤ i ∧ i ≤ 500) (hL : Box (B2 = lb b i)) (hBB : Byt B2)
    (CN : Box (∀ x, Calls Try.prog 9 #[.int .i64 bl, .int .i64 il] x fun r w' => r = .returned (.tuple #[.agg (lc bl il 3 D), .int .i64 u]) ∧ Below x.heap.size x w'))
    (CG : Box (∀ x p c, Bytes x p 160 (lb bl il) → Calls Try.prog 16 #[.slice p 160 c] x fun r w' => r = .returned (.tuple #[.agg (lc bl il 3 D), .int .i64 u]) ∧ Below x.heap.size x w'))
    (CG2 : Box (∀ x p c, Bytes x p 160 B2 → Calls Try.prog 16 #[.slice p 160 c] x fun r w' => r = .returned (.tuple #[.agg (lc b i t d), .int .i64 e]) ∧ Below x.heap.size x w'))
    (CR2 : Box (∀ x, Calls Try.prog 17 #[.string (strOfNums B2)] x fun r w' => r = .returned (.tuple #[.agg (lc b i t d), .int .i64 e]) ∧ Below x.heap.size x w')) :
    Calls Try.prog 4 #[.int .i64 bl, .int .i64 il, .int .u8 a, .int .u8 ov, .bool false] w fun e w' => e = .returned (.bool true) ∧ Below w.heap.size w w' := by
  obtain ⟨nn, hnn⟩ : ∃ nn : Nat, Box (nn = 160) := ⟨_, ⟨rfl⟩⟩
  have CA : Box (∀ x, Calls Try.prog 8 #[] x fun e w' => e = .returned (.bool true) ∧ Below x.heap.size x w') := ⟨awake_any⟩
  go_enter Try.func4, Try.ntmps4
  go_upto_region 5 with (first
    | (refine wpList_newL w2 bl il 3 D rfl _ _ rfl rfl rfl rfl ?_; intro z2 hz hb3; have H2 : Box (Lay z2 w2.heap.size bl il 3 D ∧ Below w.heap.size w z2) := ⟨hz, below_to (below_to H1.out hb2) hb3⟩; clear hz hb3 hb2)
    | (go_at_call 9; refine Calls.mono (CN.out w1) ?_; rintro e0 w2 ⟨rfl, hb2⟩)
    | (go_at_call 8; refine Calls.mono (CA.out w) ?_; rintro e0 w1 ⟨rfl, hb1⟩; have H1 : Box (Below w.heap.size w w1) := ⟨hb1⟩; clear hb1))
  generalize w2.heap.size = S at H2 ⊢
  clear CA CN H1
  have g1 : (u != 0) = false := by simp [hu.out]
  go_upto_region 8 with (first
    | (refine wpList_ldL rfl _ rfl S bl il 3 D rfl H2.out.1 ?_)
    | (refine wpList_newL w4 bl il 3 D rfl _ _ rfl rfl rfl rfl ?_; intro z4 hzz hb2; have H4 : Box (Lay z4 S bl il 3 D ∧ Lay z4 w4.heap.size bl il 3 D ∧ Below w.heap.size w z4) := ⟨H9.out.1.below hb2, hzz, below_to H9.out.2 hb2⟩; clear hzz hb2 H9)
    | (go_at_call 14; refine Calls.mono (lput_any bl il 3 D z2 hl0 hl1) ?_; rintro e0 w3 ⟨g, rfl, hO⟩; have H3 : Box (Lay w3 S bl il 3 D ∧ Below w.heap.size w w3 ∧ Bytes w3 (some ⟨g, 0, none⟩) 160 (lb bl il)) := ⟨H2.out.1.below hO.2.2, below_to H2.out.2 hO.2.2, hO.bytes (byt_lb bl il)⟩; clear hO)
    | (go_at_call 16; refine Calls.mono (CG.out w3 _ 160 H3.out.2.2) ?_; rintro e0 w4 ⟨rfl, hb⟩; have H9 : Box (Lay w4 S bl il 3 D ∧ Below w.heap.size w w4) := ⟨H3.out.1.below hb, below_to H3.out.2.1 hb⟩; clear hb H3 H2))
  generalize w4.heap.size = T at H4 ⊢
  clear CG
  go_upto_region 10 with (first
    | (refine wpList_run rfl _ _ (exec_ldL _ rfl T bl il 3 D rfl H4.out.2.1) ?_)
    | (refine wpList_run rfl _ _ (exec_ldL _ rfl S bl il 3 D rfl H4.out.1) ?_)
    | (refine wpList_run rfl _ _ (exec_neL _ _ _ rfl bl il 3 D bl il 3 D true (by simp) rfl rfl) ?_))
  clear g1 hu
  go_upto_region 11 with (first
    | (refine wpList_ldL rfl _ rfl S bl il 3 D rfl H4.out.1 ?_)
    | (go_at_call 14; refine Calls.mono (lput_any bl il 3 D z4 hl0 hl1) ?_; rintro e0 w5 ⟨g, rfl, hO⟩; have HQ := put_row (k := k) v hO (byt_lb bl il) H4.out.2.2 hk hv2; clear hO))
  obtain ⟨q1, q2, q3, q4⟩ := HQ
  rw [hz.out] at q1
  rw [hB1.out] at q3
  have H6 : Box (Bytes (w5.setCell ⟨g, k, none⟩ (.int .u8 v)) (some ⟨g, 0, none⟩) 160 B2 ∧ Below w.heap.size w (w5.setCell ⟨g, k, none⟩ (.int .u8 v))) := ⟨by rw [← hB2.out]; exact bytes_take q3 160 (by omega), q4⟩
  have hv1 := hv.out
  clear q3 q4 H4 hz hB1 hB2 hl0 hl1
  go_upto_region 14 with fail
  clear q1 q2 hv1 hv tk hk hz2
  generalize w5.setCell ⟨g, k, none⟩ (.int .u8 v) = w6 at H6 ⊢
  go_upto_region 15 with (first
    | (refine wpList_newL w7 b i t d rfl _ _ rfl rfl rfl rfl ?_; intro z7 hzz hb2; have H7 : Box (Lay z7 w7.heap.size b i t d ∧ Below w.heap.size w z7 ∧ Bytes z7 (some ⟨g, 0, none⟩) 160 B2) := ⟨hzz, below_to H9.out.1 hb2, H9.out.2.below hb2⟩; clear hzz hb2 H9)
    | (go_at_call 16; refine Calls.mono (CG2.out w6 _ 160 H6.out.1) ?_; rintro e0 w7 ⟨rfl, hb⟩; have H9 : Box (Below w.heap.size w w7 ∧ Bytes w7 (some ⟨g, 0, none⟩) 160 B2) := ⟨below_to H6.out.2 hb, H6.out.1.below hb⟩; clear hb H6))
  generalize w7.heap.size = X at H7 ⊢
  clear CG2
  go_upto_region 16 with (first
    | (refine wpList_run rfl _ _ (exec_conv (.tmp 70) rfl rfl H7.out.2.2) ?_)
    | (refine wpList_newM w8 b i t d rfl _ _ rfl rfl rfl rfl ?_; intro z8 hzz hb2; have H8 : Box (Tri w z8 X w8.heap.size b i t d g 160 B2) := ⟨H9.out.1.below hb2, hzz, below_to H9.out.2.1 hb2, H9.out.2.2.below hb2⟩; clear hzz hb2 H9)
    | (go_at_call 17; refine Calls.mono (CR2.out z7) ?_; rintro e0 w8 ⟨rfl, hb⟩; have H9 : Box (Lay w8 X b i t d ∧ Below w.heap.size w w8 ∧ Bytes w8 (some ⟨g, 0, none⟩) 160 B2) := ⟨H7.out.1.below hb, below_to H7.out.2.1 hb, H7.out.2.2.below hb⟩; clear hb H7))
  generalize w8.heap.size = Y at H8 ⊢
  clear CR2
  refine Seq.begin_any (by kernel_rfl) (fun wd hd => ?_)
  refine Seq.take_lat (i := 0) (v := .agg (lc b i t d)) rfl (by kernel_rfl) (by kernel_rfl) (by kernel_rfl) (fun _ _ _ h => h) (by rfl) (fun w' hLat => exec_ldL _ rfl X b i t d rfl ((H8.out.on hd).on hLat).1) ?_
  try simp only [Act.put, List.setIfInBounds_toArray, List.set_cons_zero, List.set_cons_succ, List.getElem_toArray, List.getElem_cons_zero]
  refine Seq.take_lat (i := 2) (v := .agg (lc b i t d)) rfl (by kernel_rfl) (by kernel_rfl) (by kernel_rfl) (fun _ _ _ h => h) (by rfl) (fun w' hLat => exec_ldM _ rfl Y b i t d rfl ((H8.out.on hd).on hLat).2.1) ?_
  try simp only [Act.put, List.setIfInBounds_toArray, List.set_cons_zero, List.set_cons_succ, List.getElem_toArray, List.getElem_cons_zero, List.getElem_cons_succ]
  refine Seq.only_lat (i := 1) rfl (by kernel_rfl) (fun KK hK => ?_)
  rw [if_pos (by rfl)]
  go_simp
  refine Calls.mono (model_any b i t d wd) ?_
  rintro e0 w9 ⟨rfl, hb⟩
  have H9 : Box (Tri w w9 X Y b i t d g 160 B2) := ⟨(H8.out.on hd).on hb⟩
  refine hK.out _ _ hb ?_
  clear hb
  clear hK KK
  try simp only [Act.put, List.setIfInBounds_toArray, List.set_cons_zero, List.set_cons_succ, List.getElem_toArray, List.getElem_cons_zero, List.getElem_cons_succ]
  refine Seq.take_lat (i := 3) (v := .bool true) rfl (by kernel_rfl) (by kernel_rfl) (by kernel_rfl) (fun _ _ _ h => h) (by rfl) (fun w' hLat => exec_eqM _ _ _ rfl b i t d b i t d true (by simp) rfl rfl) ?_
  try simp only [Act.put, List.setIfInBounds_toArray, List.set_cons_zero, List.set_cons_succ, List.getElem_toArray, List.getElem_cons_zero, List.getElem_cons_succ]
  refine Seq.take_lat (i := 4) (v := ?_) rfl (by kernel_rfl) (by kernel_rfl) (by kernel_rfl) (fun _ _ _ h => h) (by rfl) ?_ ?_
  rotate_left
  · intro w' hLat; change Below _ _ _ at hLat; go_simp <;> with_reducible rfl
  try simp only [Act.put, List.setIfInBounds_toArray, List.set_cons_zero, List.set_cons_succ, List.getElem_toArray, List.getElem_cons_zero, List.getElem_cons_succ]
  refine Seq.take_lat (i := 5) (v := ?_) rfl (by kernel_rfl) (by kernel_rfl) (by kernel_rfl) (fun _ _ _ h => h) (by rfl) ?_ ?_
  rotate_left
  · intro w' hLat; change Below _ _ _ at hLat; go_simp <;> with_reducible rfl
  try simp only [Act.put, List.setIfInBounds_toArray, List.set_cons_zero, List.set_cons_succ, List.getElem_toArray, List.getElem_cons_zero, List.getElem_cons_succ]
  refine Seq.take_lat (i := 6) (v := ?_) rfl (by kernel_rfl) (by kernel_rfl) (by kernel_rfl) (fun _ _ _ h => h) (by rfl) ?_ ?_
  rotate_left
  · intro w' hLat; change Below _ _ _ at hLat; go_simp <;> with_reducible rfl
  try simp only [Act.put, List.setIfInBounds_toArray, List.set_cons_zero, List.set_cons_succ, List.getElem_toArray, List.getElem_cons_zero, List.getElem_cons_succ]
  refine Seq.take_lat (i := 7) (v := .bool true) rfl (by kernel_rfl) (by kernel_rfl) (by kernel_rfl) (fun _ _ _ h => h) (by rfl) (fun w' hLat => exec_eqe _ _ _ rfl e rfl rfl) ?_
  try simp only [Act.put, List.setIfInBounds_toArray, List.set_cons_zero, List.set_cons_succ, List.getElem_toArray, List.getElem_cons_zero, List.getElem_cons_succ]
  refine Seq.take_lat (i := 8) (v := ?_) rfl (by kernel_rfl) (by kernel_rfl) (by kernel_rfl) (fun _ _ _ h => h) (by rfl) ?_ ?_
  rotate_left
  · intro w' hLat; change Below _ _ _ at hLat; go_simp <;> with_reducible rfl
  try simp only [Act.put, List.setIfInBounds_toArray, List.set_cons_zero, List.set_cons_succ, List.getElem_toArray, List.getElem_cons_zero, List.getElem_cons_succ]
  refine Seq.take_lat (i := 9) (v := ?_) rfl (by kernel_rfl) (by kernel_rfl) (by kernel_rfl) (fun _ _ _ h => h) (by rfl) ?_ ?_
  rotate_left
  · intro w' hLat; change Below _ _ _ at hLat; go_simp <;> with_reducible rfl
  try simp only [Act.put, List.setIfInBounds_toArray, List.set_cons_zero, List.set_cons_succ, List.getElem_toArray, List.getElem_cons_zero, List.getElem_cons_succ]
  refine Seq.take_lat (i := 10) (v := ?_) rfl (by kernel_rfl) (by kernel_rfl) (by kernel_rfl) (fun _ _ _ h => h) (by rfl) ?_ ?_
  rotate_left
  · intro w' hLat; change Below _ _ _ at hLat; go_simp <;> with_reducible rfl
  try simp only [Act.put, List.setIfInBounds_toArray, List.set_cons_zero, List.set_cons_succ, List.getElem_toArray, List.getElem_cons_zero, List.getElem_cons_succ]
  refine Seq.take_lat (i := 11) (v := .bool false) rfl (by kernel_rfl) (by kernel_rfl) (by kernel_rfl) (fun _ _ _ h => h) (by rfl) (fun w' hLat => exec_nez _ _ _ rfl e _ (by simp [h1.out]) rfl rfl) ?_
  try simp only [Act.put, List.setIfInBounds_toArray, List.set_cons_zero, List.set_cons_succ, List.getElem_toArray, List.getElem_cons_zero, List.getElem_cons_succ]
  refine Seq.take_lat (i := 12) (v := ?_) rfl (by kernel_rfl) (by kernel_rfl) (by kernel_rfl) (fun _ _ _ h => h) (by rfl) ?_ ?_
  rotate_left
  · intro w' hLat; change Below _ _ _ at hLat; go_simp <;> with_reducible rfl
  try simp only [Act.put, List.setIfInBounds_toArray, List.set_cons_zero, List.set_cons_succ, List.getElem_toArray, List.getElem_cons_zero, List.getElem_cons_succ]
  refine Seq.take_lat (i := 13) (v := .agg (lc b i t d)) rfl (by kernel_rfl) (by kernel_rfl) (by kernel_rfl) (fun _ _ _ h => h) (by rfl) (fun w' hLat => exec_ldL _ rfl X b i t d rfl (H9.out.on hLat).1) ?_
  try simp only [Act.put, List.setIfInBounds_toArray, List.set_cons_zero, List.set_cons_succ, List.getElem_toArray, List.getElem_cons_zero, List.getElem_cons_succ]
  refine Seq.take_lat (i := 16) (v := ?_) rfl (by kernel_rfl) (by kernel_rfl) (by kernel_rfl) (fun _ _ _ h => h) (by rfl) ?_ ?_
  rotate_left
  · intro w' hLat; change Below _ _ _ at hLat; go_simp <;> with_reducible rfl
  try simp only [Act.put, List.setIfInBounds_toArray, List.set_cons_zero, List.set_cons_succ, List.getElem_toArray, List.getElem_cons_zero, List.getElem_cons_succ]
  refine Seq.take_lat (i := 17) (v := .string (strOfNums B2)) rfl (by kernel_rfl) (by kernel_rfl) (by kernel_rfl) (fun _ _ _ h => h) (by rfl) (fun w' hLat => exec_conv (.tmp 91) rfl rfl (H9.out.on hLat).2.2.2) ?_
  try simp only [Act.put, List.setIfInBounds_toArray, List.set_cons_zero, List.set_cons_succ, List.getElem_toArray, List.getElem_cons_zero, List.getElem_cons_succ]
  refine Seq.only_lat (i := 14) rfl (by kernel_rfl) (fun KK hK => ?_)
  rw [if_pos (by rfl)]
  go_simp
  refine Calls.mono (lput_any b i t d w9 hbb hii) ?_
  rintro e0 w10 ⟨g2, rfl, hO⟩
  have H10 : Box (Tri w w10 X Y b i t d g 160 B2) := ⟨H9.out.on hO.2.2⟩
  have HO : Box (Bytes w10 (some ⟨g2, 0, none⟩) 160 B2) := ⟨by rw [hL.out]; exact hO.bytes (byt_lb b i)⟩
  refine hK.out _ _ hO.2.2 ?_
  clear hO
  clear hK KK
  try simp only [Act.put, List.setIfInBounds_toArray, List.set_cons_zero, List.set_cons_succ, List.getElem_toArray, List.getElem_cons_zero, List.getElem_cons_succ]
  refine Seq.take_lat (i := 15) (v := .string (strOfNums B2)) rfl (by kernel_rfl) (by kernel_rfl) (by kernel_rfl) (fun _ _ _ h => h) (by rfl) (fun w' hLat => exec_conv (.tmp 89) rfl rfl (HO.out.below hLat)) ?_
  try simp only [Act.put, List.setIfInBounds_toArray, List.set_cons_zero, List.set_cons_succ, List.getElem_toArray, List.getElem_cons_zero, List.getElem_cons_succ]
  refine Seq.take_lat (i := 18) (v := .bool true) rfl (by kernel_rfl) (by kernel_rfl) (by kernel_rfl) (fun _ _ _ h => h) (by rfl) (fun w' hLat => exec_strT _ _ _ rfl B2 hBB rfl rfl) ?_
  try simp only [Act.put, List.setIfInBounds_toArray, List.set_cons_zero, List.set_cons_succ, List.getElem_toArray, List.getElem_cons_zero, List.getElem_cons_succ]
  refine Seq.take_lat (i := 19) (v := ?_) rfl (by kernel_rfl) (by kernel_rfl) (by kernel_rfl) (fun _ _ _ h => h) (by rfl) ?_ ?_
  rotate_left
  · intro w' hLat; change Below _ _ _ at hLat; go_simp <;> with_reducible rfl
  try simp only [Act.put, List.setIfInBounds_toArray, List.set_cons_zero, List.set_cons_succ, List.getElem_toArray, List.getElem_cons_zero, List.getElem_cons_succ]
  refine Seq.take_lat (i := 20) (v := ?_) rfl (by kernel_rfl) (by kernel_rfl) (by kernel_rfl) (fun _ _ _ h => h) (by rfl) ?_ ?_
  rotate_left
  · intro w' hLat; change Below _ _ _ at hLat; go_simp <;> with_reducible rfl
  try simp only [Act.put, List.setIfInBounds_toArray, List.set_cons_zero, List.set_cons_succ, List.getElem_toArray, List.getElem_cons_zero, List.getElem_cons_succ]
  refine Seq.take_lat (i := 21) (v := ?_) rfl (by kernel_rfl) (by kernel_rfl) (by kernel_rfl) (fun _ _ _ h => h) (by rfl) ?_ ?_
  rotate_left
  · intro w' hLat; change Below _ _ _ at hLat; go_simp <;> with_reducible rfl
  try simp only [Act.put, List.setIfInBounds_toArray, List.set_cons_zero, List.set_cons_succ, List.getElem_toArray, List.getElem_cons_zero, List.getElem_cons_succ]
  refine wpAnyH_done (by kernel_rfl) ?_ _
  go_wp2
  go_ret
  exact ⟨rfl, H10.out.2.2.1⟩

set_option maxRecDepth 20000 in
set_option maxHeartbeats 8000000 in
theorem gets_false_11 (bl il a ov D u z v : Int) (k : Nat) (B1 B2 : List Int) (b i t d e : Int) (w : World) (ha : 0 ≤ a ∧ a ≤ 255) (ho : 0 ≤ ov ∧ ov ≤ 255) (hu : Box (u = 0)) (h1 : Box (e = 11)) (hl0 : 0 ≤ bl ∧ bl ≤ 1024) (hl1 : 0 ≤ il ∧ il ≤ 500)
    (tk : a.tmod 160 = (k : Int)) (hk : k < 160) (hz : Box ((lb bl il).getD k 0 = z)) (hz2 : 0 ≤ z ∧ z ≤ 255) (hv : Box (bits .xor .u8 z ov = v)) (hv2 : 0 ≤ v ∧ v ≤ 255) (hB1 : Box ((lb bl il).set k v = B1)) (hB2 : Box (B1.take 160 = B2))
    (CN : Box (∀ x, Calls Try.prog 9 #[.int .i64 bl, .int .i64 il] x fun r w' => r = .returned (.tuple #[.agg (lc bl il 3 D), .int .i64 u]) ∧ Below x.heap.size x w'))
    (CG : Box (∀ x p c, Bytes x p 160 (lb bl il) → Calls Try.prog 16 #[.slice p 160 c] x fun r w' => r = .returned (.tuple #[.agg (lc bl il 3 D), .int .i64 u]) ∧ Below x.heap.size x w'))
    (CG2 : Box (∀ x p c, Bytes x p 160 B2 → Calls Try.prog 16 #[.slice p 160 c] x fun r w' => r = .returned (.tuple #[.agg (lc b i t d), .int .i64 e]) ∧ Below x.heap.size x w'))
    (CR2 : Box (∀ x, Calls Try.prog 17 #[.string (strOfNums B2)] x fun r w' => r = .returned (.tuple #[.agg (lc b i t d), .int .i64 e]) ∧ Below x.heap.size x w')) :
    Calls Try.prog 4 #[.int .i64 bl, .int .i64 il, .int .u8 a, .int .u8 ov, .bool false] w fun e w' => e = .returned (.bool true) ∧ Below w.heap.size w w' := by
  obtain ⟨nn, hnn⟩ : ∃ nn : Nat, Box (nn = 160) := ⟨_, ⟨rfl⟩⟩
  have CA : Box (∀ x, Calls Try.prog 8 #[] x fun e w' => e = .returned (.bool true) ∧ Below x.heap.size x w') := ⟨awake_any⟩
  go_enter Try.func4, Try.ntmps4
  go_upto_region 5 with (first
    | (refine wpList_newL w2 bl il 3 D rfl _ _ rfl rfl rfl rfl ?_; intro z2 hz hb3; have H2 : Box (Lay z2 w2.heap.size bl il 3 D ∧ Below w.heap.size w z2) := ⟨hz, below_to (below_to H1.out hb2) hb3⟩; clear hz hb3 hb2)
    | (go_at_call 9; refine Calls.mono (CN.out w1) ?_; rintro e0 w2 ⟨rfl, hb2⟩)
    | (go_at_call 8; refine Calls.mono (CA.out w) ?_; rintro e0 w1 ⟨rfl, hb1⟩; have H1 : Box (Below w.heap.size w w1) := ⟨hb1⟩; clear hb1))
  generalize w2.heap.size = S at H2 ⊢
  clear CA CN H1
  have g1 : (u != 0) = false := by simp [hu.out]
  go_upto_region 8 with (first
    | (refine wpList_ldL rfl _ rfl S bl il 3 D rfl H2.out.1 ?_)
    | (refine wpList_newL w4 bl il 3 D rfl _ _ rfl rfl rfl rfl ?_; intro z4 hzz hb2; have H4 : Box (Lay z4 S bl il 3 D ∧ Lay z4 w4.heap.size bl il 3 D ∧ Below w.heap.size w z4) := ⟨H9.out.1.below hb2, hzz, below_to H9.out.2 hb2⟩; clear hzz hb2 H9)
    | (go_at_call 14; refine Calls.mono (lput_any bl il 3 D z2 hl0 hl1) ?_; rintro e0 w3 ⟨g, rfl, hO⟩; have H3 : Box (Lay w3 S bl il 3 D ∧ Below w.heap.size w w3 ∧ Bytes w3 (some ⟨g, 0, none⟩) 160 (lb bl il)) := ⟨H2.out.1.below hO.2.2, below_to H2.out.2 hO.2.2, hO.bytes (byt_lb bl il)⟩; clear hO)
    | (go_at_call 16; refine Calls.mono (CG.out w3 _ 160 H3.out.2.2) ?_; rintro e0 w4 ⟨rfl, hb⟩; have H9 : Box (Lay w4 S bl il 3 D ∧ Below w.heap.size w w4) := ⟨H3.out.1.below hb, below_to H3.out.2.1 hb⟩; clear hb H3 H2))
  generalize w4.heap.size = T at H4 ⊢
  clear CG
  go_upto_region 10 with (first
    | (refine wpList_run rfl _ _ (exec_ldL _ rfl T bl il 3 D rfl H4.out.2.1) ?_)
    | (refine wpList_run rfl _ _ (exec_ldL _ rfl S bl il 3 D rfl H4.out.1) ?_)
    | (refine wpList_run rfl _ _ (exec_neL _ _ _ rfl bl il 3 D bl il 3 D true (by simp) rfl rfl) ?_))
  clear g1 hu
  go_upto_region 11 with (first
    | (refine wpList_ldL rfl _ rfl S bl il 3 D rfl H4.out.1 ?_)
    | (go_at_call 14; refine Calls.mono (lput_any bl il 3 D z4 hl0 hl1) ?_; rintro e0 w5 ⟨g, rfl, hO⟩; have HQ := put_row (k := k) v hO (byt_lb bl il) H4.out.2.2 hk hv2; clear hO))
  obtain ⟨q1, q2, q3, q4⟩ := HQ
  rw [hz.out] at q1
  rw [hB1.out] at q3
  have H6 : Box (Bytes (w5.setCell ⟨g, k, none⟩ (.int .u8 v)) (some ⟨g, 0, none⟩) 160 B2 ∧ Below w.heap.size w (w5.setCell ⟨g, k, none⟩ (.int .u8 v))) := ⟨by rw [← hB2.out]; exact bytes_take q3 160 (by omega), q4⟩
  have hv1 := hv.out
  clear q3 q4 H4 hz hB1 hB2 hl0 hl1
  go_upto_region 14 with fail
  clear q1 q2 hv1 hv tk hk hz2
  generalize w5.setCell ⟨g, k, none⟩ (.int .u8 v) = w6 at H6 ⊢
  go_upto_region 15 with (first
    | (refine wpList_newL w7 b i t d rfl _ _ rfl rfl rfl rfl ?_; intro z7 hzz hb2; have H7 : Box (Lay z7 w7.heap.size b i t d ∧ Below w.heap.size w z7 ∧ Bytes z7 (some ⟨g, 0, none⟩) 160 B2) := ⟨hzz, below_to H9.out.1 hb2, H9.out.2.below hb2⟩; clear hzz hb2 H9)
    | (go_at_call 16; refine Calls.mono (CG2.out w6 _ 160 H6.out.1) ?_; rintro e0 w7 ⟨rfl, hb⟩; have H9 : Box (Below w.heap.size w w7 ∧ Bytes w7 (some ⟨g, 0, none⟩) 160 B2) := ⟨below_to H6.out.2 hb, H6.out.1.below hb⟩; clear hb H6))
  generalize w7.heap.size = X at H7 ⊢
  clear CG2
  go_upto_region 16 with (first
    | (refine wpList_run rfl _ _ (exec_conv (.tmp 70) rfl rfl H7.out.2.2) ?_)
    | (refine wpList_newM w8 b i t d rfl _ _ rfl rfl rfl rfl ?_; intro z8 hzz hb2; have H8 : Box (Tri w z8 X w8.heap.size b i t d g 160 B2) := ⟨H9.out.1.below hb2, hzz, below_to H9.out.2.1 hb2, H9.out.2.2.below hb2⟩; clear hzz hb2 H9)
    | (go_at_call 17; refine Calls.mono (CR2.out z7) ?_; rintro e0 w8 ⟨rfl, hb⟩; have H9 : Box (Lay w8 X b i t d ∧ Below w.heap.size w w8 ∧ Bytes w8 (some ⟨g, 0, none⟩) 160 B2) := ⟨H7.out.1.below hb, below_to H7.out.2.1 hb, H7.out.2.2.below hb⟩; clear hb H7))
  generalize w8.heap.size = Y at H8 ⊢
  clear CR2
  refine Seq.begin_any (by kernel_rfl) (fun wd hd => ?_)
  refine Seq.take_lat (i := 0) (v := .agg (lc b i t d)) rfl (by kernel_rfl) (by kernel_rfl) (by kernel_rfl) (fun _ _ _ h => h) (by rfl) (fun w' hLat => exec_ldL _ rfl X b i t d rfl ((H8.out.on hd).on hLat).1) ?_
  try simp only [Act.put, List.setIfInBounds_toArray, List.set_cons_zero, List.set_cons_succ, List.getElem_toArray, List.getElem_cons_zero]
  refine Seq.take_lat (i := 2) (v := .agg (lc b i t d)) rfl (by kernel_rfl) (by kernel_rfl) (by kernel_rfl) (fun _ _ _ h => h) (by rfl) (fun w' hLat => exec_ldM _ rfl Y b i t d rfl ((H8.out.on hd).on hLat).2.1) ?_
  try simp only [Act.put, List.setIfInBounds_toArray, List.set_cons_zero, List.set_cons_succ, List.getElem_toArray, List.getElem_cons_zero, List.getElem_cons_succ]
  refine Seq.only_lat (i := 1) rfl (by kernel_rfl) (fun KK hK => ?_)
  rw [if_pos (by rfl)]
  go_simp
  refine Calls.mono (model_any b i t d wd) ?_
  rintro e0 w9 ⟨rfl, hb⟩
  have H9 : Box (Tri w w9 X Y b i t d g 160 B2) := ⟨(H8.out.on hd).on hb⟩
  refine hK.out _ _ hb ?_
  clear hb
  clear hK KK
  try simp only [Act.put, List.setIfInBounds_toArray, List.set_cons_zero, List.set_cons_succ, List.getElem_toArray, List.getElem_cons_zero, List.getElem_cons_succ]
  refine Seq.take_lat (i := 3) (v := .bool true) rfl (by kernel_rfl) (by kernel_rfl) (by kernel_rfl) (fun _ _ _ h => h) (by rfl) (fun w' hLat => exec_eqM _ _ _ rfl b i t d b i t d true (by simp) rfl rfl) ?_
  try simp only [Act.put, List.setIfInBounds_toArray, List.set_cons_zero, List.set_cons_succ, List.getElem_toArray, List.getElem_cons_zero, List.getElem_cons_succ]
  refine Seq.take_lat (i := 4) (v := ?_) rfl (by kernel_rfl) (by kernel_rfl) (by kernel_rfl) (fun _ _ _ h => h) (by rfl) ?_ ?_
  rotate_left
  · intro w' hLat; change Below _ _ _ at hLat; go_simp <;> with_reducible rfl
  try simp only [Act.put, List.setIfInBounds_toArray, List.set_cons_zero, List.set_cons_succ, List.getElem_toArray, List.getElem_cons_zero, List.getElem_cons_succ]
  refine Seq.take_lat (i := 5) (v := ?_) rfl (by kernel_rfl) (by kernel_rfl) (by kernel_rfl) (fun _ _ _ h => h) (by rfl) ?_ ?_
  rotate_left
  · intro w' hLat; change Below _ _ _ at hLat; go_simp <;> with_reducible rfl
  try simp only [Act.put, List.setIfInBounds_toArray, List.set_cons_zero, List.set_cons_succ, List.getElem_toArray, List.getElem_cons_zero, List.getElem_cons_succ]
  refine Seq.take_lat (i := 6) (v := ?_) rfl (by kernel_rfl) (by kernel_rfl) (by kernel_rfl) (fun _ _ _ h => h) (by rfl) ?_ ?_
  rotate_left
  · intro w' hLat; change Below _ _ _ at hLat; go_simp <;> with_reducible rfl
  try simp only [Act.put, List.setIfInBounds_toArray, List.set_cons_zero, List.set_cons_succ, List.getElem_toArray, List.getElem_cons_zero, List.getElem_cons_succ]
  refine Seq.take_lat (i := 7) (v := .bool true) rfl (by kernel_rfl) (by kernel_rfl) (by kernel_rfl) (fun _ _ _ h => h) (by rfl) (fun w' hLat => exec_eqe _ _ _ rfl e rfl rfl) ?_
  try simp only [Act.put, List.setIfInBounds_toArray, List.set_cons_zero, List.set_cons_succ, List.getElem_toArray, List.getElem_cons_zero, List.getElem_cons_succ]
  refine Seq.take_lat (i := 8) (v := ?_) rfl (by kernel_rfl) (by kernel_rfl) (by kernel_rfl) (fun _ _ _ h => h) (by rfl) ?_ ?_
  rotate_left
  · intro w' hLat; change Below _ _ _ at hLat; go_simp <;> with_reducible rfl
  try simp only [Act.put, List.setIfInBounds_toArray, List.set_cons_zero, List.set_cons_succ, List.getElem_toArray, List.getElem_cons_zero, List.getElem_cons_succ]
  refine Seq.take_lat (i := 9) (v := ?_) rfl (by kernel_rfl) (by kernel_rfl) (by kernel_rfl) (fun _ _ _ h => h) (by rfl) ?_ ?_
  rotate_left
  · intro w' hLat; change Below _ _ _ at hLat; go_simp <;> with_reducible rfl
  try simp only [Act.put, List.setIfInBounds_toArray, List.set_cons_zero, List.set_cons_succ, List.getElem_toArray, List.getElem_cons_zero, List.getElem_cons_succ]
  refine Seq.take_lat (i := 10) (v := ?_) rfl (by kernel_rfl) (by kernel_rfl) (by kernel_rfl) (fun _ _ _ h => h) (by rfl) ?_ ?_
  rotate_left
  · intro w' hLat; change Below _ _ _ at hLat; go_simp <;> with_reducible rfl
  try simp only [Act.put, List.setIfInBounds_toArray, List.set_cons_zero, List.set_cons_succ, List.getElem_toArray, List.getElem_cons_zero, List.getElem_cons_succ]
  refine Seq.take_lat (i := 11) (v := .bool true) rfl (by kernel_rfl) (by kernel_rfl) (by kernel_rfl) (fun _ _ _ h => h) (by rfl) (fun w' hLat => exec_nez _ _ _ rfl e _ (by simp [h1.out]) rfl rfl) ?_
  try simp only [Act.put, List.setIfInBounds_toArray, List.set_cons_zero, List.set_cons_succ, List.getElem_toArray, List.getElem_cons_zero, List.getElem_cons_succ]
  refine Seq.take_lat (i := 12) (v := ?_) rfl (by kernel_rfl) (by kernel_rfl) (by kernel_rfl) (fun _ _ _ h => h) (by rfl) ?_ ?_
  rotate_left
  · intro w' hLat; change Below _ _ _ at hLat; go_simp <;> with_reducible rfl
  try simp only [Act.put, List.setIfInBounds_toArray, List.set_cons_zero, List.set_cons_succ, List.getElem_toArray, List.getElem_cons_zero, List.getElem_cons_succ]
  refine Seq.pass_lat (i := 13) rfl (by kernel_rfl) (by kernel_rfl) (by kernel_rfl) (fun _ _ _ h => h) (by rfl) ?_
  try simp only [Act.put, List.setIfInBounds_toArray, List.set_cons_zero, List.set_cons_succ, List.getElem_toArray, List.getElem_cons_zero, List.getElem_cons_succ]
  refine Seq.pass_lat (i := 14) rfl (by kernel_rfl) (by kernel_rfl) (by kernel_rfl) (fun _ _ _ h => h) (by rfl) ?_
  try simp only [Act.put, List.setIfInBounds_toArray, List.set_cons_zero, List.set_cons_succ, List.getElem_toArray, List.getElem_cons_zero, List.getElem_cons_succ]
  refine Seq.pass_lat (i := 15) rfl (by kernel_rfl) (by kernel_rfl) (by kernel_rfl) (fun _ _ _ h => h) (by rfl) ?_
  try simp only [Act.put, List.setIfInBounds_toArray, List.set_cons_zero, List.set_cons_succ, List.getElem_toArray, List.getElem_cons_zero, List.getElem_cons_succ]
  refine Seq.pass_lat (i := 16) rfl (by kernel_rfl) (by kernel_rfl) (by kernel_rfl) (fun _ _ _ h => h) (by rfl) ?_
  try simp only [Act.put, List.setIfInBounds_toArray, List.set_cons_zero, List.set_cons_succ, List.getElem_toArray, List.getElem_cons_zero, List.getElem_cons_succ]
  refine Seq.pass_lat (i := 17) rfl (by kernel_rfl) (by kernel_rfl) (by kernel_rfl) (fun _ _ _ h => h) (by rfl) ?_
  try simp only [Act.put, List.setIfInBounds_toArray, List.set_cons_zero, List.set_cons_succ, List.getElem_toArray, List.getElem_cons_zero, List.getElem_cons_succ]
  refine Seq.pass_lat (i := 18) rfl (by kernel_rfl) (by kernel_rfl) (by kernel_rfl) (fun _ _ _ h => h) (by rfl) ?_
  try simp only [Act.put, List.setIfInBounds_toArray, List.set_cons_zero, List.set_cons_succ, List.getElem_toArray, List.getElem_cons_zero, List.getElem_cons_succ]
  refine Seq.take_lat (i := 19) (v := ?_) rfl (by kernel_rfl) (by kernel_rfl) (by kernel_rfl) (fun _ _ _ h => h) (by rfl) ?_ ?_
  rotate_left
  · intro w' hLat; change Below _ _ _ at hLat; go_simp <;> with_reducible rfl
  try simp only [Act.put, List.setIfInBounds_toArray, List.set_cons_zero, List.set_cons_succ, List.getElem_toArray, List.getElem_cons_zero, List.getElem_cons_succ]
  refine Seq.take_lat (i := 20) (v := ?_) rfl (by kernel_rfl) (by kernel_rfl) (by kernel_rfl) (fun _ _ _ h => h) (by rfl) ?_ ?_
  rotate_left
  · intro w' hLat; change Below _ _ _ at hLat; go_simp <;> with_reducible rfl
  try simp only [Act.put, List.setIfInBounds_toArray, List.set_cons_zero, List.set_cons_succ, List.getElem_toArray, List.getElem_cons_zero, List.getElem_cons_succ]
  refine Seq.take_lat (i := 21) (v := ?_) rfl (by kernel_rfl) (by kernel_rfl) (by kernel_rfl) (fun _ _ _ h => h) (by rfl) ?_ ?_
  rotate_left
  · intro w' hLat; change Below _ _ _ at hLat; go_simp <;> with_reducible rfl
  try simp only [Act.put, List.setIfInBounds_toArray, List.set_cons_zero, List.set_cons_succ, List.getElem_toArray, List.getElem_cons_zero, List.getElem_cons_succ]
  refine wpAnyH_done (by kernel_rfl) ?_ _
  go_wp2
  go_ret
  exact ⟨rfl, H9.out.2.2.1⟩

set_option maxRecDepth 20000 in
set_option maxHeartbeats 8000000 in
theorem gets_true_11 (bl il a ov D u z v : Int) (k : Nat) (B1 B2 : List Int) (b i t d e : Int) (w : World) (ha : 0 ≤ a ∧ a ≤ 255) (ho : 0 ≤ ov ∧ ov ≤ 255) (hu : Box (u = 0)) (h1 : Box (e = 11)) (hl0 : 0 ≤ bl ∧ bl ≤ 1024) (hl1 : 0 ≤ il ∧ il ≤ 500)
    (tk : a.tmod 160 = (k : Int)) (hk : k < 160) (hz : Box ((lb bl il).getD k 0 = z)) (hz2 : 0 ≤ z ∧ z ≤ 255) (hv : Box (bits .xor .u8 z ov = v)) (hv2 : 0 ≤ v ∧ v ≤ 255) (hB1 : Box ((lb bl il).set k v = B1)) (hB2 : Box (B1.take 159 = B2))
    (CN : Box (∀ x, Calls Try.prog 9 #[.int .i64 bl, .int .i64 il] x fun r w' => r = .returned (.tuple #[.agg (lc bl il 3 D), .int .i64 u]) ∧ Below x.heap.size x w'))
    (CG : Box (∀ x p c, Bytes x p 160 (lb bl il) → Calls Try.prog 16 #[.slice p 160 c] x fun r w' => r = .returned (.tuple #[.agg (lc bl il 3 D), .int .i64 u]) ∧ Below x.heap.size x w'))
    (CG2 : Box (∀ x p c, Bytes x p 159 B2 → Calls Try.prog 16 #[.slice p 159 c] x fun r w' => r = .returned (.tuple #[.agg (lc b i t d), .int .i64 e]) ∧ Below x.heap.size x w'))
    (CR2 : Box (∀ x, Calls Try.prog 17 #[.string (strOfNums B2)] x fun r w' => r = .returned (.tuple #[.agg (lc b i t d), .int .i64 e]) ∧ Below x.heap.size x w')) :
    Calls Try.prog 4 #[.int .i64 bl, .int .i64 il, .int .u8 a, .int .u8 ov, .bool true] w fun e w' => e = .returned (.bool true) ∧ Below w.heap.size w w' := by
  obtain ⟨nn, hnn⟩ : ∃ nn : Nat, Box (nn = 159) := ⟨_, ⟨rfl⟩⟩
  have CA : Box (∀ x, Calls Try.prog 8 #[] x fun e w' => e = .returned (.bool true) ∧ Below x.heap.size x w') := ⟨awake_any⟩
  go_enter Try.func4, Try.ntmps4
  go_upto_region 5 with (first
    | (refine wpList_newL w2 bl il 3 D rfl _ _ rfl rfl rfl rfl ?_; intro z2 hz hb3; have H2 : Box (Lay z2 w2.heap.size bl il 3 D ∧ Below w.heap.size w z2) := ⟨hz, below_to (below_to H1.out hb2) hb3⟩; clear hz hb3 hb2)
    | (go_at_call 9; refine Calls.mono (CN.out w1) ?_; rintro e0 w2 ⟨rfl, hb2⟩)
    | (go_at_call 8; refine Calls.mono (CA.out w) ?_; rintro e0 w1 ⟨rfl, hb1⟩; have H1 : Box (Below w.heap.size w w1) := ⟨hb1⟩; clear hb1))
  generalize w2.heap.size = S at H2 ⊢
  clear CA CN H1
  have g1 : (u != 0) = false := by simp [hu.out]
  go_upto_region 8 with (first
    | (refine wpList_ldL rfl _ rfl S bl il 3 D rfl H2.out.1 ?_)
    | (refine wpList_newL w4 bl il 3 D rfl _ _ rfl rfl rfl rfl ?_; intro z4 hzz hb2; have H4 : Box (Lay z4 S bl il 3 D ∧ Lay z4 w4.heap.size bl il 3 D ∧ Below w.heap.size w z4) := ⟨H9.out.1.below hb2, hzz, below_to H9.out.2 hb2⟩; clear hzz hb2 H9)
    | (go_at_call 14; refine Calls.mono (lput_any bl il 3 D z2 hl0 hl1) ?_; rintro e0 w3 ⟨g, rfl, hO⟩; have H3 : Box (Lay w3 S bl il 3 D ∧ Below w.heap.size w w3 ∧ Bytes w3 (some ⟨g, 0, none⟩) 160 (lb bl il)) := ⟨H2.out.1.below hO.2.2, below_to H2.out.2 hO.2.2, hO.bytes (byt_lb bl il)⟩; clear hO)
    | (go_at_call 16; refine Calls.mono (CG.out w3 _ 160 H3.out.2.2) ?_; rintro e0 w4 ⟨rfl, hb⟩; have H9 : Box (Lay w4 S bl il 3 D ∧ Below w.heap.size w w4) := ⟨H3.out.1.below hb, below_to H3.out.2.1 hb⟩; clear hb H3 H2))
  generalize w4.heap.size = T at H4 ⊢
  clear CG
  go_upto_region 10 with (first
    | (refine wpList_run rfl _ _ (exec_ldL _ rfl T bl il 3 D rfl H4.out.2.1) ?_)
    | (refine wpList_run rfl _ _ (exec_ldL _ rfl S bl il 3 D rfl H4.out.1) ?_)
    | (refine wpList_run rfl _ _ (exec_neL _ _ _ rfl bl il 3 D bl il 3 D true (by simp) rfl rfl) ?_))
  clear g1 hu
  go_upto_region 11 with (first
    | (refine wpList_ldL rfl _ rfl S bl il 3 D rfl H4.out.1 ?_)
    | (go_at_call 14; refine Calls.mono (lput_any bl il 3 D z4 hl0 hl1) ?_; rintro e0 w5 ⟨g, rfl, hO⟩; have HQ := put_row (k := k) v hO (byt_lb bl il) H4.out.2.2 hk hv2; clear hO))
  obtain ⟨q1, q2, q3, q4⟩ := HQ
  rw [hz.out] at q1
  rw [hB1.out] at q3
  have H6 : Box (Bytes (w5.setCell ⟨g, k, none⟩ (.int .u8 v)) (some ⟨g, 0, none⟩) 159 B2 ∧ Below w.heap.size w (w5.setCell ⟨g, k, none⟩ (.int .u8 v))) := ⟨by rw [← hB2.out]; exact bytes_take q3 159 (by omega), q4⟩
  have hv1 := hv.out
  clear q3 q4 H4 hz hB1 hB2 hl0 hl1
  go_upto_region 14 with fail
  clear q1 q2 hv1 hv tk hk hz2
  generalize w5.setCell ⟨g, k, none⟩ (.int .u8 v) = w6 at H6 ⊢
  go_upto_region 15 with (first
    | (refine wpList_newL w7 b i t d rfl _ _ rfl rfl rfl rfl ?_; intro z7 hzz hb2; have H7 : Box (Lay z7 w7.heap.size b i t d ∧ Below w.heap.size w z7 ∧ Bytes z7 (some ⟨g, 0, none⟩) 159 B2) := ⟨hzz, below_to H9.out.1 hb2, H9.out.2.below hb2⟩; clear hzz hb2 H9)
    | (go_at_call 16; refine Calls.mono (CG2.out w6 _ 160 H6.out.1) ?_; rintro e0 w7 ⟨rfl, hb⟩; have H9 : Box (Below w.heap.size w w7 ∧ Bytes w7 (some ⟨g, 0, none⟩) 159 B2) := ⟨below_to H6.out.2 hb, H6.out.1.below hb⟩; clear hb H6))
  generalize w7.heap.size = X at H7 ⊢
  clear CG2
  go_upto_region 16 with (first
    | (refine wpList_run rfl _ _ (exec_conv (.tmp 70) rfl rfl H7.out.2.2) ?_)
    | (refine wpList_newM w8 b i t d rfl _ _ rfl rfl rfl rfl ?_; intro z8 hzz hb2; have H8 : Box (Tri w z8 X w8.heap.size b i t d g 159 B2) := ⟨H9.out.1.below hb2, hzz, below_to H9.out.2.1 hb2, H9.out.2.2.below hb2⟩; clear hzz hb2 H9)
    | (go_at_call 17; refine Calls.mono (CR2.out z7) ?_; rintro e0 w8 ⟨rfl, hb⟩; have H9 : Box (Lay w8 X b i t d ∧ Below w.heap.size w w8 ∧ Bytes w8 (some ⟨g, 0, none⟩) 159 B2) := ⟨H7.out.1.below hb, below_to H7.out.2.1 hb, H7.out.2.2.below hb⟩; clear hb H7))
  generalize w8.heap.size = Y at H8 ⊢
  clear CR2
  refine Seq.begin_any (by kernel_rfl) (fun wd hd => ?_)
  refine Seq.take_lat (i := 0) (v := .agg (lc b i t d)) rfl (by kernel_rfl) (by kernel_rfl) (by kernel_rfl) (fun _ _ _ h => h) (by rfl) (fun w' hLat => exec_ldL _ rfl X b i t d rfl ((H8.out.on hd).on hLat).1) ?_
  try simp only [Act.put, List.setIfInBounds_toArray, List.set_cons_zero, List.set_cons_succ, List.getElem_toArray, List.getElem_cons_zero]
  refine Seq.take_lat (i := 2) (v := .agg (lc b i t d)) rfl (by kernel_rfl) (by kernel_rfl) (by kernel_rfl) (fun _ _ _ h => h) (by rfl) (fun w' hLat => exec_ldM _ rfl Y b i t d rfl ((H8.out.on hd).on hLat).2.1) ?_
  try simp only [Act.put, List.setIfInBounds_toArray, List.set_cons_zero, List.set_cons_succ, List.getElem_toArray, List.getElem_cons_zero, List.getElem_cons_succ]
  refine Seq.only_lat (i := 1) rfl (by kernel_rfl) (fun KK hK => ?_)
  rw [if_pos (by rfl)]
  go_simp
  refine Calls.mono (model_any b i t d wd) ?_
  rintro e0 w9 ⟨rfl, hb⟩
  have H9 : Box (Tri w w9 X Y b i t d g 159 B2) := ⟨(H8.out.on hd).on hb⟩
  refine hK.out _ _ hb ?_
  clear hb
  clear hK KK
  try simp only [Act.put, List.setIfInBounds_toArray, List.set_cons_zero, List.set_cons_succ, List.getElem_toArray, List.getElem_cons_zero, List.getElem_cons_succ]
  refine Seq.take_lat (i := 3) (v := .bool true) rfl (by kernel_rfl) (by kernel_rfl) (by kernel_rfl) (fun _ _ _ h => h) (by rfl) (fun w' hLat => exec_eqM _ _ _ rfl b i t d b i t d true (by simp) rfl rfl) ?_
  try simp only [Act.put, List.setIfInBounds_toArray, List.set_cons_zero, List.set_cons_succ, List.getElem_toArray, List.getElem_cons_zero, List.getElem_cons_succ]
  refine Seq.take_lat (i := 4) (v := ?_) rfl (by kernel_rfl) (by kernel_rfl) (by kernel_rfl) (fun _ _ _ h => h) (by rfl) ?_ ?_
  rotate_left
  · intro w' hLat; change Below _ _ _ at hLat; go_simp <;> with_reducible rfl
  try simp only [Act.put, List.setIfInBounds_toArray, List.set_cons_zero, List.set_cons_succ, List.getElem_toArray, List.getElem_cons_zero, List.getElem_cons_succ]
  refine Seq.take_lat (i := 5) (v := ?_) rfl (by kernel_rfl) (by kernel_rfl) (by kernel_rfl) (fun _ _ _ h => h) (by rfl) ?_ ?_
  rotate_left
  · intro w' hLat; change Below _ _ _ at hLat; go_simp <;> with_reducible rfl
  try simp only [Act.put, List.setIfInBounds_toArray, List.set_cons_zero, List.set_cons_succ, List.getElem_toArray, List.getElem_cons_zero, List.getElem_cons_succ]
  refine Seq.take_lat (i := 6) (v := ?_) rfl (by kernel_rfl) (by kernel_rfl) (by kernel_rfl) (fun _ _ _ h => h) (by rfl) ?_ ?_
  rotate_left
  · intro w' hLat; change Below _ _ _ at hLat; go_simp <;> with_reducible rfl
  try simp only [Act.put, List.setIfInBounds_toArray, List.set_cons_zero, List.set_cons_succ, List.getElem_toArray, List.getElem_cons_zero, List.getElem_cons_succ]
  refine Seq.take_lat (i := 7) (v := .bool true) rfl (by kernel_rfl) (by kernel_rfl) (by kernel_rfl) (fun _ _ _ h => h) (by rfl) (fun w' hLat => exec_eqe _ _ _ rfl e rfl rfl) ?_
  try simp only [Act.put, List.setIfInBounds_toArray, List.set_cons_zero, List.set_cons_succ, List.getElem_toArray, List.getElem_cons_zero, List.getElem_cons_succ]
  refine Seq.take_lat (i := 8) (v := ?_) rfl (by kernel_rfl) (by kernel_rfl) (by kernel_rfl) (fun _ _ _ h => h) (by rfl) ?_ ?_
  rotate_left
  · intro w' hLat; change Below _ _ _ at hLat; go_simp <;> with_reducible rfl
  try simp only [Act.put, List.setIfInBounds_toArray, List.set_cons_zero, List.set_cons_succ, List.getElem_toArray, List.getElem_cons_zero, List.getElem_cons_succ]
  refine Seq.take_lat (i := 9) (v := ?_) rfl (by kernel_rfl) (by kernel_rfl) (by kernel_rfl) (fun _ _ _ h => h) (by rfl) ?_ ?_
  rotate_left
  · intro w' hLat; change Below _ _ _ at hLat; go_simp <;> with_reducible rfl
  try simp only [Act.put, List.setIfInBounds_toArray, List.set_cons_zero, List.set_cons_succ, List.getElem_toArray, List.getElem_cons_zero, List.getElem_cons_succ]
  refine Seq.take_lat (i := 10) (v := ?_) rfl (by kernel_rfl) (by kernel_rfl) (by kernel_rfl) (fun _ _ _ h => h) (by rfl) ?_ ?_
  rotate_left
  · intro w' hLat; change Below _ _ _ at hLat; go_simp <;> with_reducible rfl
  try simp only [Act.put, List.setIfInBounds_toArray, List.set_cons_zero, List.set_cons_succ, List.getElem_toArray, List.getElem_cons_zero, List.getElem_cons_succ]
  refine Seq.take_lat (i := 11) (v := .bool true) rfl (by kernel_rfl) (by kernel_rfl) (by kernel_rfl) (fun _ _ _ h => h) (by rfl) (fun w' hLat => exec_nez _ _ _ rfl e _ (by simp [h1.out]) rfl rfl) ?_
  try simp only [Act.put, List.setIfInBounds_toArray, List.set_cons_zero, List.set_cons_succ, List.getElem_toArray, List.getElem_cons_zero, List.getElem_cons_succ]
  refine Seq.take_lat (i := 12) (v := ?_) rfl (by kernel_rfl) (by kernel_rfl) (by kernel_rfl) (fun _ _ _ h => h) (by rfl) ?_ ?_
  rotate_left
  · intro w' hLat; change Below _ _ _ at hLat; go_simp <;> with_reducible rfl
  try simp only [Act.put, List.setIfInBounds_toArray, List.set_cons_zero, List.set_cons_succ, List.getElem_toArray, List.getElem_cons_zero, List.getElem_cons_succ]
  refine Seq.pass_lat (i := 13) rfl (by kernel_rfl) (by kernel_rfl) (by kernel_rfl) (fun _ _ _ h => h) (by rfl) ?_
  try simp only [Act.put, List.setIfInBounds_toArray, List.set_cons_zero, List.set_cons_succ, List.getElem_toArray, List.getElem_cons_zero, List.getElem_cons_succ]
  refine Seq.pass_lat (i := 14) rfl (by kernel_rfl) (by kernel_rfl) (by kernel_rfl) (fun _ _ _ h => h) (by rfl) ?_
  try simp only [Act.put, List.setIfInBounds_toArray, List.set_cons_zero, List.set_cons_succ, List.getElem_toArray, List.getElem_cons_zero, List.getElem_cons_succ]
  refine Seq.pass_lat (i := 15) rfl (by kernel_rfl) (by kernel_rfl) (by kernel_rfl) (fun _ _ _ h => h) (by rfl) ?_
  try simp only [Act.put, List.setIfInBounds_toArray, List.set_cons_zero, List.set_cons_succ, List.getElem_toArray, List.getElem_cons_zero, List.getElem_cons_succ]
  refine Seq.pass_lat (i := 16) rfl (by kernel_rfl) (by kernel_rfl) (by kernel_rfl) (fun _ _ _ h => h) (by rfl) ?_
  try simp only [Act.put, List.setIfInBounds_toArray, List.set_cons_zero, List.set_cons_succ, List.getElem_toArray, List.getElem_cons_zero, List.getElem_cons_succ]
  refine Seq.pass_lat (i := 17) rfl (by kernel_rfl) (by kernel_rfl) (by kernel_rfl) (fun _ _ _ h => h) (by rfl) ?_
  try simp only [Act.put, List.setIfInBounds_toArray, List.set_cons_zero, List.set_cons_succ, List.getElem_toArray, List.getElem_cons_zero, List.getElem_cons_succ]
  refine Seq.pass_lat (i := 18) rfl (by kernel_rfl) (by kernel_rfl) (by kernel_rfl) (fun _ _ _ h => h) (by rfl) ?_
  try simp only [Act.put, List.setIfInBounds_toArray, List.set_cons_zero, List.set_cons_succ, List.getElem_toArray, List.getElem_cons_zero, List.getElem_cons_succ]
  refine Seq.take_lat (i := 19) (v := ?_) rfl (by kernel_rfl) (by kernel_rfl) (by kernel_rfl) (fun _ _ _ h => h) (by rfl) ?_ ?_
  rotate_left
  · intro w' hLat; change Below _ _ _ at hLat; go_simp <;> with_reducible rfl
  try simp only [Act.put, List.setIfInBounds_toArray, List.set_cons_zero, List.set_cons_succ, List.getElem_toArray, List.getElem_cons_zero, List.getElem_cons_succ]
  refine Seq.take_lat (i := 20) (v := ?_) rfl (by kernel_rfl) (by kernel_rfl) (by kernel_rfl) (fun _ _ _ h => h) (by rfl) ?_ ?_
  rotate_left
  · intro w' hLat; change Below _ _ _ at hLat; go_simp <;> with_reducible rfl
  try simp only [Act.put, List.setIfInBounds_toArray, List.set_cons_zero, List.set_cons_succ, List.getElem_toArray, List.getElem_cons_zero, List.getElem_cons_succ]
  refine Seq.take_lat (i := 21) (v := ?_) rfl (by kernel_rfl) (by kernel_rfl) (by kernel_rfl) (fun _ _ _ h => h) (by rfl) ?_ ?_
  rotate_left
  · intro w' hLat; change Below _ _ _ at hLat; go_simp <;> with_reducible rfl
  try simp only [Act.put, List.setIfInBounds_toArray, List.set_cons_zero, List.set_cons_succ, List.getElem_toArray, List.getElem_cons_zero, List.getElem_cons_succ]
  refine wpAnyH_done (by kernel_rfl) ?_ _
  go_wp2
  go_ret
  exact ⟨rfl, H9.out.2.2.1⟩

theorem getV_cases (B : List Int) : (∃ b i d, getV B = .tuple #[.agg (lc b i 3 d), .int .i64 0] ∧ 0 ≤ b ∧ b ≤ 1024 ∧ 0 ≤ i ∧ i ≤ 500 ∧ B = lb b i) ∨ getV B = .tuple #[.agg (lc 0 0 0 0), .int .i64 11] := by
  by_cases h : B.length = 160 ∧ okL (num B 4 4) (num B 8 4) ∧ B = lb (num B 4 4) (num B 8 4)
  · have h' := h.2.1
    unfold okL at h'
    exact .inl ⟨_, _, _, getV_ok B h, by omega, by omega, by omega, by omega, h.2.2⟩
  · exact .inr (getV_not B h)
theorem layoutGets_walk (bl il a ov : Int) (cut : Bool) (w : World) (h1 : (Lit.int .i64 bl).wf = true) (h2 : (Lit.int .i64 il).wf = true) (h3 : (Lit.int .u8 a).wf = true) (h4 : (Lit.int .u8 ov).wf = true) :
    Calls Try.prog 4 #[.int .i64 bl, .int .i64 il, .int .u8 a, .int .u8 ov, .bool cut] w fun e w' => e = .returned (.bool true) ∧ Below w.heap.size w w' := by
  have b3 := bounds_u8 h3
  have b4 := bounds_u8 h4
  by_cases h : okL bl il
  · have h' := h
    unfold okL at h'
    obtain ⟨k, tk, hk⟩ : ∃ k : Nat, a.tmod 160 = (k : Int) ∧ k < 160 := ⟨(a % 160).toNat, by rw [Int.tmod_eq_emod_of_nonneg b3.1]; omega, by omega⟩
    have hz := byt_lb bl il k
    have hv := bits_u8 .xor ((lb bl il).getD k 0) ov
    have CN : Box (∀ x, Calls Try.prog 9 #[.int .i64 bl, .int .i64 il] x fun r w' => r = .returned (.tuple #[.agg (lc bl il 3 (3 + (il + 4) / 5)), .int .i64 0]) ∧ Below x.heap.size x w') := ⟨fun z => by have := new_any bl il z; rwa [newV_ok h] at this⟩
    have CG : Box (∀ x p c, Bytes x p 160 (lb bl il) → Calls Try.prog 16 #[.slice p 160 c] x fun r w' => r = .returned (.tuple #[.agg (lc bl il 3 (3 + (il + 4) / 5)), .int .i64 0]) ∧ Below x.heap.size x w') := ⟨fun x p c hp => get_is p 160 c _ bl il 3 _ 0 x hp (getV_lb bl il h)⟩
    have hB1 := byt_set (lb bl il) k _ (byt_lb bl il) hv
    have ll := length_lb bl il
    have CG2 : ∀ m b i t d e, getV (((lb bl il).set k (bits .xor .u8 ((lb bl il).getD k 0) ov)).take m) = .tuple #[.agg (lc b i t d), .int .i64 e] → Box (∀ x p c, Bytes x p m (((lb bl il).set k (bits .xor .u8 ((lb bl il).getD k 0) ov)).take m) → Calls Try.prog 16 #[.slice p m c] x fun r w' => r = .returned (.tuple #[.agg (lc b i t d), .int .i64 e]) ∧ Below x.heap.size x w') := fun m b i t d e hg => ⟨fun x p c hp => get_is p m c _ b i t d e x hp hg⟩
    have CR2 : ∀ m b i t d e, getV (((lb bl il).set k (bits .xor .u8 ((lb bl il).getD k 0) ov)).take m) = .tuple #[.agg (lc b i t d), .int .i64 e] → Box (∀ x, Calls Try.prog 17 #[.string (strOfNums (((lb bl il).set k (bits .xor .u8 ((lb bl il).getD k 0) ov)).take m))] x fun r w' => r = .returned (.tuple #[.agg (lc b i t d), .int .i64 e]) ∧ Below x.heap.size x w') := fun m b i t d e hg => ⟨fun x => by have := rlget_any _ x (byt_take _ m hB1); rwa [hg] at this⟩
    cases cut
    · rcases getV_cases (((lb bl il).set k (bits .xor .u8 ((lb bl il).getD k 0) ov)).take 160) with ⟨b, i, d, hg, c1, c2, c3, c4, c5⟩ | hg
      · exact gets_false_0 bl il a ov _ 0 _ _ k _ _ b i 3 d 0 w b3 b4 ⟨rfl⟩ ⟨rfl⟩ (by omega) (by omega) tk hk ⟨rfl⟩ hz ⟨rfl⟩ hv ⟨rfl⟩ ⟨rfl⟩ ⟨c1, c2⟩ ⟨c3, c4⟩ ⟨c5⟩ (byt_take _ 160 hB1) CN CG (CG2 160 _ _ _ _ _ hg) (CR2 160 _ _ _ _ _ hg)
      · exact gets_false_11 bl il a ov _ 0 _ _ k _ _ 0 0 0 0 11 w b3 b4 ⟨rfl⟩ ⟨rfl⟩ (by omega) (by omega) tk hk ⟨rfl⟩ hz ⟨rfl⟩ hv ⟨rfl⟩ ⟨rfl⟩ CN CG (CG2 160 _ _ _ _ _ hg) (CR2 160 _ _ _ _ _ hg)
    · have hg : getV (((lb bl il).set k (bits .xor .u8 ((lb bl il).getD k 0) ov)).take 159) = .tuple #[.agg (lc 0 0 0 0), .int .i64 11] := getV_not _ (fun hh => by have := hh.1; simp [ll] at this)
      exact gets_true_11 bl il a ov _ 0 _ _ k _ _ 0 0 0 0 11 w b3 b4 ⟨rfl⟩ ⟨rfl⟩ (by omega) (by omega) tk hk ⟨rfl⟩ hz ⟨rfl⟩ hv ⟨rfl⟩ ⟨rfl⟩ CN CG (CG2 159 _ _ _ _ _ hg) (CR2 159 _ _ _ _ _ hg)
  · refine gets_no bl il a ov cut 0 0 0 0 1 w ⟨rfl⟩ ⟨fun z => ?_⟩
    have := new_any bl il z; rwa [newV_no h] at this
end Go.Proofs.Ytniminalkjhfbaa
