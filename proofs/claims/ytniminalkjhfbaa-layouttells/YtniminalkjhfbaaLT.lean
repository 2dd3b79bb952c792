/-
  The walk of LayoutTells: the layout of any numbers, and where any inode stands, are told alike by the code and by the reference: the law returns true.
-/
import Derived.Test.YtniminalkjhfbaaLF
namespace Go.Proofs.Ytniminalkjhfbaa
set_option linter.unusedVariables false
open Go.RowKit Plain

/-- The code's layout and the reference's beside one another. -/
def Two (w x : World) (S T : Nat) (b i t d : Int) : Prop := Lay x S b i t d ∧ Lay' x T b i t d ∧ Below w.heap.size w x
theorem Two.on {w x y : World} {S T : Nat} {b i t d : Int} (h : Two w x S T b i t d) (hb : Below x.heap.size x y) : Two w y S T b i t d := ⟨h.1.below hb, h.2.1.below hb, below_to h.2.2 hb⟩
theorem exec_eqn {o : Oper} {ρ : Operand → Value} {w' : World} (x y : Operand) (ty : TypeId) (ho : o.op = .binOp .eql 3 x y ty) (n : Int) (hx : ρ x = .int .i64 n) (hy : ρ y = .int .i64 n) : (execOp ρ o).run Try.prog w' = .ok (.value (.bool true)) w' := by
  unfold execOp
  simp [ho, hx, hy, eqGuard, binOp, Op.intCmp]
theorem exec_eqe {o : Oper} {ρ : Operand → Value} {w' : World} (x y : Operand) (ty : TypeId) (ho : o.op = .binOp .eql 25 x y ty) (n : Int) (hx : ρ x = .int .i64 n) (hy : ρ y = .int .i64 n) : (execOp ρ o).run Try.prog w' = .ok (.value (.bool true)) w' := by
  unfold execOp
  simp [ho, hx, hy, eqGuard, binOp, Op.intCmp]
theorem exec_nee {o : Oper} {ρ : Operand → Value} {w' : World} (x y : Operand) (ty : TypeId) (ho : o.op = .binOp .neq 25 x y ty) (n : Int) (hx : ρ x = .int .i64 n) (hy : ρ y = .int .i64 n) : (execOp ρ o).run Try.prog w' = .ok (.value (.bool false)) w' := by
  unfold execOp
  simp [ho, hx, hy, eqGuard, binOp, Op.intCmp]
theorem exec_strT {o : Oper} {ρ : Operand → Value} {w' : World} (x y : Operand) (ty : TypeId) (ho : o.op = .binOp .eql 9 x y ty) (A : List Int) (hA : Byt A) (hx : ρ x = .string (strOfNums A)) (hy : ρ y = .string (strOfNums A)) : (execOp ρ o).run Try.prog w' = .ok (.value (.bool true)) w' := by
  have := exec_str (w' := w') x y ty ho A A hA hA hx hy
  simpa using this

set_option maxRecDepth 20000 in
set_option maxHeartbeats 4000000 in
theorem tells_no (bl il n b i t d e : Int) (w : World) (h1 : Box (e = 1))
    (CN : Box (∀ x, Calls Try.prog 9 #[.int .i64 bl, .int .i64 il] x fun r w' => r = .returned (.tuple #[.agg (lc b i t d), .int .i64 e]) ∧ Below x.heap.size x w'))
    (CR : Box (∀ x, Calls Try.prog 10 #[.int .i64 bl, .int .i64 il] x fun r w' => r = .returned (.tuple #[.agg (lc b i t d), .int .i64 e]) ∧ Below x.heap.size x w')) :
    Calls Try.prog 3 #[.int .i64 bl, .int .i64 il, .int .i64 n] w fun e w' => e = .returned (.bool true) ∧ Below w.heap.size w w' := by
  have CA : Box (∀ x, Calls Try.prog 8 #[] x fun e w' => e = .returned (.bool true) ∧ Below x.heap.size x w') := ⟨awake_any⟩
  go_enter Try.func3, Try.ntmps3
  go_upto_region 5 with (first
    | (refine wpList_newL w2 b i t d rfl _ _ rfl rfl rfl rfl ?_; intro z2 hz hb3; have H2 : Box (Lay z2 w2.heap.size b i t d ∧ Below w.heap.size w z2) := ⟨hz, below_to (below_to H1.out hb2) hb3⟩; clear hz hb3 hb2)
    | (go_at_call 9; refine Calls.mono (CN.out w1) ?_; rintro e0 w2 ⟨rfl, hb2⟩)
    | (go_at_call 8; refine Calls.mono (CA.out w) ?_; rintro e0 w1 ⟨rfl, hb1⟩; have H1 : Box (Below w.heap.size w w1) := ⟨hb1⟩; clear hb1))
  generalize w2.heap.size = S at H2 ⊢
  clear CA CN H1
  go_upto_region 6 with (first
    | (refine wpList_newM w4 b i t d rfl _ _ rfl rfl rfl rfl ?_; intro w5 hz hb3; have H5 : Box (Two w w5 S w4.heap.size b i t d) := ⟨(H2.out.1.below hb2).below hb3, hz, below_to (below_to H2.out.2 hb2) hb3⟩; clear hz hb3 hb2)
    | (go_at_call 10; refine Calls.mono (CR.out z2) ?_; rintro e0 w4 ⟨rfl, hb2⟩))
  generalize w4.heap.size = T at H5 ⊢
  clear CR H2
  refine Seq.begin_any (by kernel_rfl) (fun wd hd => ?_)
  refine Seq.take_lat (i := 0) (v := ?_) rfl (by kernel_rfl) (by kernel_rfl) (by kernel_rfl) (fun _ _ _ h => h) (by rfl) ?_ ?_
  rotate_left
  · intro w' hLat; change Below _ _ _ at hLat; go_simp <;> with_reducible rfl
  try simp only [Act.put, List.setIfInBounds_toArray, List.set_cons_zero, List.set_cons_succ, List.getElem_toArray, List.getElem_cons_zero]
  refine Seq.take_lat (i := 1) (v := ?_) rfl (by kernel_rfl) (by kernel_rfl) (by kernel_rfl) (fun _ _ _ h => h) (by rfl) ?_ ?_
  rotate_left
  · intro w' hLat; change Below _ _ _ at hLat; go_simp <;> with_reducible rfl
  try simp only [Act.put, List.setIfInBounds_toArray, List.set_cons_zero, List.set_cons_succ, List.getElem_toArray, List.getElem_cons_zero, List.getElem_cons_succ]
  refine Seq.take_lat (i := 2) (v := .bool false) rfl (by kernel_rfl) (by kernel_rfl) (by kernel_rfl) (fun _ _ _ h => h) (by rfl) (fun w' hLat => exec_nee _ _ _ rfl e rfl rfl) ?_
  try simp only [Act.put, List.setIfInBounds_toArray, List.set_cons_zero, List.set_cons_succ, List.getElem_toArray, List.getElem_cons_zero, List.getElem_cons_succ]
  refine Seq.take_lat (i := 3) (v := ?_) rfl (by kernel_rfl) (by kernel_rfl) (by kernel_rfl) (fun _ _ _ h => h) (by rfl) ?_ ?_
  rotate_left
  · intro w' hLat; change Below _ _ _ at hLat; go_simp <;> with_reducible rfl
  try simp only [Act.put, List.setIfInBounds_toArray, List.set_cons_zero, List.set_cons_succ, List.getElem_toArray, List.getElem_cons_zero, List.getElem_cons_succ]
  refine Seq.take_lat (i := 4) (v := .agg (lc b i t d)) rfl (by kernel_rfl) (by kernel_rfl) (by kernel_rfl) (fun _ _ _ h => h) (by rfl) (fun w' hLat => exec_ldL _ rfl S b i t d rfl ((H5.out.on hd).on hLat).1) ?_
  try simp only [Act.put, List.setIfInBounds_toArray, List.set_cons_zero, List.set_cons_succ, List.getElem_toArray, List.getElem_cons_zero, List.getElem_cons_succ]
  refine Seq.take_lat (i := 6) (v := .agg (lc b i t d)) rfl (by kernel_rfl) (by kernel_rfl) (by kernel_rfl) (fun _ _ _ h => h) (by rfl) (fun w' hLat => exec_ldM _ rfl T b i t d rfl ((H5.out.on hd).on hLat).2.1) ?_
  try simp only [Act.put, List.setIfInBounds_toArray, List.set_cons_zero, List.set_cons_succ, List.getElem_toArray, List.getElem_cons_zero, List.getElem_cons_succ]
  refine Seq.only_lat (i := 5) rfl (by kernel_rfl) (fun KK hK => ?_)
  rw [if_pos (by rfl)]
  go_simp
  refine Calls.mono (model_any b i t d wd) ?_
  rintro e0 w6 ⟨rfl, hb⟩
  have H6 : Box (Two w w6 S T b i t d) := ⟨(H5.out.on hd).on hb⟩
  refine hK.out _ _ hb ?_
  clear hb
  clear hK KK
  try simp only [Act.put, List.setIfInBounds_toArray, List.set_cons_zero, List.set_cons_succ, List.getElem_toArray, List.getElem_cons_zero, List.getElem_cons_succ]
  refine Seq.take_lat (i := 7) (v := .bool false) rfl (by kernel_rfl) (by kernel_rfl) (by kernel_rfl) (fun _ _ _ h => h) (by rfl) (fun w' hLat => exec_neM _ _ _ rfl b i t d b i t d true (by simp) rfl rfl) ?_
  try simp only [Act.put, List.setIfInBounds_toArray, List.set_cons_zero, List.set_cons_succ, List.getElem_toArray, List.getElem_cons_zero, List.getElem_cons_succ]
  refine Seq.take_lat (i := 8) (v := ?_) rfl (by kernel_rfl) (by kernel_rfl) (by kernel_rfl) (fun _ _ _ h => h) (by rfl) ?_ ?_
  rotate_left
  · intro w' hLat; change Below _ _ _ at hLat; go_simp <;> with_reducible rfl
  try simp only [Act.put, List.setIfInBounds_toArray, List.set_cons_zero, List.set_cons_succ, List.getElem_toArray, List.getElem_cons_zero, List.getElem_cons_succ]
  refine wpAnyH_done (by kernel_rfl) ?_ _
  have g1 : (e != 0) = true := by simp [h1.out]
  clear H5 h1
  go_wp2
  go_ret
  exact ⟨rfl, H6.out.2.2⟩

set_option maxRecDepth 20000 in
set_option maxHeartbeats 4000000 in
theorem tells_ok (bl il n b i t d e x y c : Int) (w : World) (h1 : Box (e = 0)) (HT : Box (t = 3)) (hbb : 0 ≤ b ∧ b ≤ 1024) (hii : 0 ≤ i ∧ i ≤ 500)
    (CN : Box (∀ x, Calls Try.prog 9 #[.int .i64 bl, .int .i64 il] x fun r w' => r = .returned (.tuple #[.agg (lc b i t d), .int .i64 e]) ∧ Below x.heap.size x w'))
    (CR : Box (∀ x, Calls Try.prog 10 #[.int .i64 bl, .int .i64 il] x fun r w' => r = .returned (.tuple #[.agg (lc b i t d), .int .i64 e]) ∧ Below x.heap.size x w'))
    (CI : Box (∀ z, Calls Try.prog 12 #[.agg (lc b i 3 d), .int .i64 n] z fun r w' => r = .returned (.tuple #[.int .i64 x, .int .i64 y, .int .i64 c]) ∧ Below z.heap.size z w'))
    (CJ : Box (∀ z, Calls Try.prog 13 #[.agg (lc b i 3 d), .int .i64 n] z fun r w' => r = .returned (.tuple #[.int .i64 x, .int .i64 y, .int .i64 c]) ∧ Below z.heap.size z w')) :
    Calls Try.prog 3 #[.int .i64 bl, .int .i64 il, .int .i64 n] w fun e w' => e = .returned (.bool true) ∧ Below w.heap.size w w' := by
  have CA : Box (∀ x, Calls Try.prog 8 #[] x fun e w' => e = .returned (.bool true) ∧ Below x.heap.size x w') := ⟨awake_any⟩
  go_enter Try.func3, Try.ntmps3
  go_upto_region 5 with (first
    | (refine wpList_newL w2 b i t d rfl _ _ rfl rfl rfl rfl ?_; intro z2 hz hb3; have H2 : Box (Lay z2 w2.heap.size b i t d ∧ Below w.heap.size w z2) := ⟨hz, below_to (below_to H1.out hb2) hb3⟩; clear hz hb3 hb2)
    | (go_at_call 9; refine Calls.mono (CN.out w1) ?_; rintro e0 w2 ⟨rfl, hb2⟩)
    | (go_at_call 8; refine Calls.mono (CA.out w) ?_; rintro e0 w1 ⟨rfl, hb1⟩; have H1 : Box (Below w.heap.size w w1) := ⟨hb1⟩; clear hb1))
  generalize w2.heap.size = S at H2 ⊢
  clear CA CN H1
  go_upto_region 6 with (first
    | (refine wpList_newM w4 b i t d rfl _ _ rfl rfl rfl rfl ?_; intro w5 hz hb3; have H5 : Box (Two w w5 S w4.heap.size b i t d) := ⟨(H2.out.1.below hb2).below hb3, hz, below_to (below_to H2.out.2 hb2) hb3⟩; clear hz hb3 hb2)
    | (go_at_call 10; refine Calls.mono (CR.out z2) ?_; rintro e0 w4 ⟨rfl, hb2⟩))
  generalize w4.heap.size = T at H5 ⊢
  clear CR H2
  refine Seq.begin_any (by kernel_rfl) (fun wd hd => ?_)
  refine Seq.take_lat (i := 0) (v := ?_) rfl (by kernel_rfl) (by kernel_rfl) (by kernel_rfl) (fun _ _ _ h => h) (by rfl) ?_ ?_
  rotate_left
  · intro w' hLat; change Below _ _ _ at hLat; go_simp <;> with_reducible rfl
  try simp only [Act.put, List.setIfInBounds_toArray, List.set_cons_zero, List.set_cons_succ, List.getElem_toArray, List.getElem_cons_zero]
  refine Seq.take_lat (i := 1) (v := ?_) rfl (by kernel_rfl) (by kernel_rfl) (by kernel_rfl) (fun _ _ _ h => h) (by rfl) ?_ ?_
  rotate_left
  · intro w' hLat; change Below _ _ _ at hLat; go_simp <;> with_reducible rfl
  try simp only [Act.put, List.setIfInBounds_toArray, List.set_cons_zero, List.set_cons_succ, List.getElem_toArray, List.getElem_cons_zero, List.getElem_cons_succ]
  refine Seq.take_lat (i := 2) (v := .bool false) rfl (by kernel_rfl) (by kernel_rfl) (by kernel_rfl) (fun _ _ _ h => h) (by rfl) (fun w' hLat => exec_nee _ _ _ rfl e rfl rfl) ?_
  try simp only [Act.put, List.setIfInBounds_toArray, List.set_cons_zero, List.set_cons_succ, List.getElem_toArray, List.getElem_cons_zero, List.getElem_cons_succ]
  refine Seq.take_lat (i := 3) (v := ?_) rfl (by kernel_rfl) (by kernel_rfl) (by kernel_rfl) (fun _ _ _ h => h) (by rfl) ?_ ?_
  rotate_left
  · intro w' hLat; change Below _ _ _ at hLat; go_simp <;> with_reducible rfl
  try simp only [Act.put, List.setIfInBounds_toArray, List.set_cons_zero, List.set_cons_succ, List.getElem_toArray, List.getElem_cons_zero, List.getElem_cons_succ]
  refine Seq.take_lat (i := 4) (v := .agg (lc b i t d)) rfl (by kernel_rfl) (by kernel_rfl) (by kernel_rfl) (fun _ _ _ h => h) (by rfl) (fun w' hLat => exec_ldL _ rfl S b i t d rfl ((H5.out.on hd).on hLat).1) ?_
  try simp only [Act.put, List.setIfInBounds_toArray, List.set_cons_zero, List.set_cons_succ, List.getElem_toArray, List.getElem_cons_zero, List.getElem_cons_succ]
  refine Seq.take_lat (i := 6) (v := .agg (lc b i t d)) rfl (by kernel_rfl) (by kernel_rfl) (by kernel_rfl) (fun _ _ _ h => h) (by rfl) (fun w' hLat => exec_ldM _ rfl T b i t d rfl ((H5.out.on hd).on hLat).2.1) ?_
  try simp only [Act.put, List.setIfInBounds_toArray, List.set_cons_zero, List.set_cons_succ, List.getElem_toArray, List.getElem_cons_zero, List.getElem_cons_succ]
  refine Seq.only_lat (i := 5) rfl (by kernel_rfl) (fun KK hK => ?_)
  rw [if_pos (by rfl)]
  go_simp
  refine Calls.mono (model_any b i t d wd) ?_
  rintro e0 w6 ⟨rfl, hb⟩
  have H6 : Box (Two w w6 S T b i t d) := ⟨(H5.out.on hd).on hb⟩
  refine hK.out _ _ hb ?_
  clear hb
  clear hK KK
  try simp only [Act.put, List.setIfInBounds_toArray, List.set_cons_zero, List.set_cons_succ, List.getElem_toArray, List.getElem_cons_zero, List.getElem_cons_succ]
  refine Seq.take_lat (i := 7) (v := .bool false) rfl (by kernel_rfl) (by kernel_rfl) (by kernel_rfl) (fun _ _ _ h => h) (by rfl) (fun w' hLat => exec_neM _ _ _ rfl b i t d b i t d true (by simp) rfl rfl) ?_
  try simp only [Act.put, List.setIfInBounds_toArray, List.set_cons_zero, List.set_cons_succ, List.getElem_toArray, List.getElem_cons_zero, List.getElem_cons_succ]
  refine Seq.take_lat (i := 8) (v := ?_) rfl (by kernel_rfl) (by kernel_rfl) (by kernel_rfl) (fun _ _ _ h => h) (by rfl) ?_ ?_
  rotate_left
  · intro w' hLat; change Below _ _ _ at hLat; go_simp <;> with_reducible rfl
  try simp only [Act.put, List.setIfInBounds_toArray, List.set_cons_zero, List.set_cons_succ, List.getElem_toArray, List.getElem_cons_zero, List.getElem_cons_succ]
  refine wpAnyH_done (by kernel_rfl) ?_ _
  have g1 : (e != 0) = false := by simp [h1.out]
  clear H5 h1
  rw [HT.out] at H6
  go_upto_region 11 with (first
    | (refine wpList_ldL rfl _ rfl S b i 3 d rfl H6.out.1 ?_)
    | (go_at_call 12; refine Calls.mono (CI.out w6) ?_; rintro e0 w7 ⟨rfl, hb⟩; have H7 : Box (Two w w7 S T b i 3 d) := ⟨H6.out.on hb⟩; clear hb))
  clear H6 CI g1
  go_upto_region 12 with (first
    | (refine wpList_ldM rfl _ rfl T b i 3 d rfl H7.out.2.1 ?_)
    | (go_at_call 13; refine Calls.mono (CJ.out w7) ?_; rintro e0 w8 ⟨rfl, hb⟩; have H8 : Box (Two w w8 S T b i 3 d) := ⟨H7.out.on hb⟩; clear hb))
  clear H7 CJ
  refine Seq.begin_any (by kernel_rfl) (fun wd hd => ?_)
  refine Seq.take_lat (i := 0) (v := ?_) rfl (by kernel_rfl) (by kernel_rfl) (by kernel_rfl) (fun _ _ _ h => h) (by rfl) ?_ ?_
  rotate_left
  · intro w' hLat; change Below _ _ _ at hLat; go_simp <;> with_reducible rfl
  try simp only [Act.put, List.setIfInBounds_toArray, List.set_cons_zero, List.set_cons_succ, List.getElem_toArray, List.getElem_cons_zero]
  refine Seq.take_lat (i := 1) (v := ?_) rfl (by kernel_rfl) (by kernel_rfl) (by kernel_rfl) (fun _ _ _ h => h) (by rfl) ?_ ?_
  rotate_left
  · intro w' hLat; change Below _ _ _ at hLat; go_simp <;> with_reducible rfl
  try simp only [Act.put, List.setIfInBounds_toArray, List.set_cons_zero, List.set_cons_succ, List.getElem_toArray, List.getElem_cons_zero, List.getElem_cons_succ]
  refine Seq.take_lat (i := 2) (v := .bool true) rfl (by kernel_rfl) (by kernel_rfl) (by kernel_rfl) (fun _ _ _ h => h) (by rfl) (fun w' hLat => exec_eqn _ _ _ rfl x rfl rfl) ?_
  try simp only [Act.put, List.setIfInBounds_toArray, List.set_cons_zero, List.set_cons_succ, List.getElem_toArray, List.getElem_cons_zero, List.getElem_cons_succ]
  refine Seq.take_lat (i := 3) (v := ?_) rfl (by kernel_rfl) (by kernel_rfl) (by kernel_rfl) (fun _ _ _ h => h) (by rfl) ?_ ?_
  rotate_left
  · intro w' hLat; change Below _ _ _ at hLat; go_simp <;> with_reducible rfl
  try simp only [Act.put, List.setIfInBounds_toArray, List.set_cons_zero, List.set_cons_succ, List.getElem_toArray, List.getElem_cons_zero, List.getElem_cons_succ]
  refine Seq.take_lat (i := 4) (v := ?_) rfl (by kernel_rfl) (by kernel_rfl) (by kernel_rfl) (fun _ _ _ h => h) (by rfl) ?_ ?_
  rotate_left
  · intro w' hLat; change Below _ _ _ at hLat; go_simp <;> with_reducible rfl
  try simp only [Act.put, List.setIfInBounds_toArray, List.set_cons_zero, List.set_cons_succ, List.getElem_toArray, List.getElem_cons_zero, List.getElem_cons_succ]
  refine Seq.take_lat (i := 5) (v := ?_) rfl (by kernel_rfl) (by kernel_rfl) (by kernel_rfl) (fun _ _ _ h => h) (by rfl) ?_ ?_
  rotate_left
  · intro w' hLat; change Below _ _ _ at hLat; go_simp <;> with_reducible rfl
  try simp only [Act.put, List.setIfInBounds_toArray, List.set_cons_zero, List.set_cons_succ, List.getElem_toArray, List.getElem_cons_zero, List.getElem_cons_succ]
  refine Seq.take_lat (i := 6) (v := .bool true) rfl (by kernel_rfl) (by kernel_rfl) (by kernel_rfl) (fun _ _ _ h => h) (by rfl) (fun w' hLat => exec_eqn _ _ _ rfl y rfl rfl) ?_
  try simp only [Act.put, List.setIfInBounds_toArray, List.set_cons_zero, List.set_cons_succ, List.getElem_toArray, List.getElem_cons_zero, List.getElem_cons_succ]
  refine Seq.take_lat (i := 7) (v := ?_) rfl (by kernel_rfl) (by kernel_rfl) (by kernel_rfl) (fun _ _ _ h => h) (by rfl) ?_ ?_
  rotate_left
  · intro w' hLat; change Below _ _ _ at hLat; go_simp <;> with_reducible rfl
  try simp only [Act.put, List.setIfInBounds_toArray, List.set_cons_zero, List.set_cons_succ, List.getElem_toArray, List.getElem_cons_zero, List.getElem_cons_succ]
  refine Seq.take_lat (i := 8) (v := ?_) rfl (by kernel_rfl) (by kernel_rfl) (by kernel_rfl) (fun _ _ _ h => h) (by rfl) ?_ ?_
  rotate_left
  · intro w' hLat; change Below _ _ _ at hLat; go_simp <;> with_reducible rfl
  try simp only [Act.put, List.setIfInBounds_toArray, List.set_cons_zero, List.set_cons_succ, List.getElem_toArray, List.getElem_cons_zero, List.getElem_cons_succ]
  refine Seq.take_lat (i := 9) (v := ?_) rfl (by kernel_rfl) (by kernel_rfl) (by kernel_rfl) (fun _ _ _ h => h) (by rfl) ?_ ?_
  rotate_left
  · intro w' hLat; change Below _ _ _ at hLat; go_simp <;> with_reducible rfl
  try simp only [Act.put, List.setIfInBounds_toArray, List.set_cons_zero, List.set_cons_succ, List.getElem_toArray, List.getElem_cons_zero, List.getElem_cons_succ]
  refine Seq.take_lat (i := 10) (v := ?_) rfl (by kernel_rfl) (by kernel_rfl) (by kernel_rfl) (fun _ _ _ h => h) (by rfl) ?_ ?_
  rotate_left
  · intro w' hLat; change Below _ _ _ at hLat; go_simp <;> with_reducible rfl
  try simp only [Act.put, List.setIfInBounds_toArray, List.set_cons_zero, List.set_cons_succ, List.getElem_toArray, List.getElem_cons_zero, List.getElem_cons_succ]
  refine Seq.take_lat (i := 11) (v := .bool true) rfl (by kernel_rfl) (by kernel_rfl) (by kernel_rfl) (fun _ _ _ h => h) (by rfl) (fun w' hLat => exec_eqe _ _ _ rfl c rfl rfl) ?_
  try simp only [Act.put, List.setIfInBounds_toArray, List.set_cons_zero, List.set_cons_succ, List.getElem_toArray, List.getElem_cons_zero, List.getElem_cons_succ]
  refine Seq.take_lat (i := 12) (v := ?_) rfl (by kernel_rfl) (by kernel_rfl) (by kernel_rfl) (fun _ _ _ h => h) (by rfl) ?_ ?_
  rotate_left
  · intro w' hLat; change Below _ _ _ at hLat; go_simp <;> with_reducible rfl
  try simp only [Act.put, List.setIfInBounds_toArray, List.set_cons_zero, List.set_cons_succ, List.getElem_toArray, List.getElem_cons_zero, List.getElem_cons_succ]
  refine Seq.take_lat (i := 13) (v := ?_) rfl (by kernel_rfl) (by kernel_rfl) (by kernel_rfl) (fun _ _ _ h => h) (by rfl) ?_ ?_
  rotate_left
  · intro w' hLat; change Below _ _ _ at hLat; go_simp <;> with_reducible rfl
  try simp only [Act.put, List.setIfInBounds_toArray, List.set_cons_zero, List.set_cons_succ, List.getElem_toArray, List.getElem_cons_zero, List.getElem_cons_succ]
  refine Seq.take_lat (i := 14) (v := .agg (lc b i 3 d)) rfl (by kernel_rfl) (by kernel_rfl) (by kernel_rfl) (fun _ _ _ h => h) (by rfl) (fun w' hLat => exec_ldL _ rfl S b i 3 d rfl ((H8.out.on hd).on hLat).1) ?_
  try simp only [Act.put, List.setIfInBounds_toArray, List.set_cons_zero, List.set_cons_succ, List.getElem_toArray, List.getElem_cons_zero, List.getElem_cons_succ]
  refine Seq.take_lat (i := 17) (v := .agg (lc b i 3 d)) rfl (by kernel_rfl) (by kernel_rfl) (by kernel_rfl) (fun _ _ _ h => h) (by rfl) (fun w' hLat => exec_ldM _ rfl T b i 3 d rfl ((H8.out.on hd).on hLat).2.1) ?_
  try simp only [Act.put, List.setIfInBounds_toArray, List.set_cons_zero, List.set_cons_succ, List.getElem_toArray, List.getElem_cons_zero, List.getElem_cons_succ]
  refine Seq.only_lat (i := 15) rfl (by kernel_rfl) (fun KK hK => ?_)
  rw [if_pos (by rfl)]
  go_simp
  refine Calls.mono (lput_any b i 3 d wd hbb hii) ?_
  rintro e0 w9 ⟨g, rfl, hO⟩
  have H9 : Box (Two w w9 S T b i 3 d) := ⟨(H8.out.on hd).on hO.2.2⟩
  have HO : Box (Bytes w9 (some ⟨g, 0, none⟩) 160 (lb b i)) := ⟨hO.bytes (byt_lb b i)⟩
  refine hK.out _ _ hO.2.2 ?_
  clear hO
  clear hK KK
  try simp only [Act.put, List.setIfInBounds_toArray, List.set_cons_zero, List.set_cons_succ, List.getElem_toArray, List.getElem_cons_zero, List.getElem_cons_succ]
  refine Seq.take_lat (i := 16) (v := .string (strOfNums (lb b i))) rfl (by kernel_rfl) (by kernel_rfl) (by kernel_rfl) (fun _ _ _ h => h) (by rfl) (fun w' hLat => exec_conv (.tmp 73) rfl rfl (HO.out.below hLat)) ?_
  try simp only [Act.put, List.setIfInBounds_toArray, List.set_cons_zero, List.set_cons_succ, List.getElem_toArray, List.getElem_cons_zero, List.getElem_cons_succ]
  refine Seq.only_lat (i := 18) rfl (by kernel_rfl) (fun KK hK => ?_)
  rw [if_pos (by rfl)]
  go_simp
  refine Calls.mono (rlput_any b i 3 d w9 hbb hii) ?_
  rintro e0 w10 ⟨rfl, hb⟩
  have H10 : Box (Two w w10 S T b i 3 d) := ⟨H9.out.on hb⟩
  refine hK.out _ _ hb ?_
  clear hb
  clear hK KK
  try simp only [Act.put, List.setIfInBounds_toArray, List.set_cons_zero, List.set_cons_succ, List.getElem_toArray, List.getElem_cons_zero, List.getElem_cons_succ]
  refine Seq.take_lat (i := 19) (v := .bool true) rfl (by kernel_rfl) (by kernel_rfl) (by kernel_rfl) (fun _ _ _ h => h) (by rfl) (fun w' hLat => exec_strT _ _ _ rfl (lb b i) (byt_lb b i) rfl rfl) ?_
  try simp only [Act.put, List.setIfInBounds_toArray, List.set_cons_zero, List.set_cons_succ, List.getElem_toArray, List.getElem_cons_zero, List.getElem_cons_succ]
  refine Seq.take_lat (i := 20) (v := ?_) rfl (by kernel_rfl) (by kernel_rfl) (by kernel_rfl) (fun _ _ _ h => h) (by rfl) ?_ ?_
  rotate_left
  · intro w' hLat; change Below _ _ _ at hLat; go_simp <;> with_reducible rfl
  try simp only [Act.put, List.setIfInBounds_toArray, List.set_cons_zero, List.set_cons_succ, List.getElem_toArray, List.getElem_cons_zero, List.getElem_cons_succ]
  refine Seq.take_lat (i := 21) (v := ?_) rfl (by kernel_rfl) (by kernel_rfl) (by kernel_rfl) (fun _ _ _ h => h) (by rfl) ?_ ?_
  rotate_left
  · intro w' hLat; change Below _ _ _ at hLat; go_simp <;> with_reducible rfl
  try simp only [Act.put, List.setIfInBounds_toArray, List.set_cons_zero, List.set_cons_succ, List.getElem_toArray, List.getElem_cons_zero, List.getElem_cons_succ]
  refine wpAnyH_done (by kernel_rfl) ?_ _
  go_wp2
  go_ret
  exact ⟨rfl, H10.out.2.2⟩

theorem ino_any (i n : Int) : ∃ x y c, inoV i n = .tuple #[.int .i64 x, .int .i64 y, .int .i64 c] := by
  unfold inoV
  split
  · exact ⟨_, _, _, rfl⟩
  · exact ⟨_, _, _, rfl⟩
theorem layoutTells_walk (bl il n : Int) (w : World) (h1 : (Lit.int .i64 bl).wf = true) (h2 : (Lit.int .i64 il).wf = true) (h3 : (Lit.int .i64 n).wf = true) :
    Calls Try.prog 3 #[.int .i64 bl, .int .i64 il, .int .i64 n] w fun e w' => e = .returned (.bool true) ∧ Below w.heap.size w w' := by
  by_cases h : okL bl il
  · have h' := h
    unfold okL at h'
    obtain ⟨x, y, c, hi⟩ := ino_any il n
    refine tells_ok bl il n bl il 3 (3 + (il + 4) / 5) 0 x y c w ⟨rfl⟩ ⟨rfl⟩ (by omega) (by omega) ⟨fun z => ?_⟩ ⟨fun z => ?_⟩ ⟨fun z => ?_⟩ ⟨fun z => ?_⟩
    · have := new_any bl il z; rwa [newV_ok h] at this
    · have := rnew_any bl il z; rwa [newV_ok h] at this
    · have := inode_any bl il (3 + (il + 4) / 5) n z (by omega); rwa [hi] at this
    · have := rinode_any bl il (3 + (il + 4) / 5) n z (by omega); rwa [hi] at this
  · refine tells_no bl il n 0 0 0 0 1 w ⟨rfl⟩ ⟨fun z => ?_⟩ ⟨fun z => ?_⟩
    · have := new_any bl il z; rwa [newV_no h] at this
    · have := rnew_any bl il z; rwa [newV_no h] at this
end Go.Proofs.Ytniminalkjhfbaa
