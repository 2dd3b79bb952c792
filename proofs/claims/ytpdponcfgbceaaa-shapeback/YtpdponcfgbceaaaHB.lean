/-
  The walk of ShapeBack: an item's level and number lead back to it; the path of a leaf leads from it to the last item: the law returns true.
-/
import Derived.Test.YtpdponcfgbceaaaHP
namespace Go.Proofs.Ytpdponcfgbceaaa
set_option linter.unusedVariables false
open Go.RowKit Plain

/-- A shape in its box, and a path beside it. -/
def Wth (w x : World) (S : Nat) (a : Option Addr) (n cap : Nat) (W : List Int) (b : Option Addr) (P : List Int) : Prop := Holds x S a n cap W ∧ Ints x b n P ∧ Below w.heap.size w x
theorem Wth.on {w x y : World} {S : Nat} {a b : Option Addr} {n cap : Nat} {W P : List Int} (h : Wth w x S a n cap W b P) (hb : Below x.heap.size x y) : Wth w y S a n cap W b P := ⟨h.1.below hb, h.2.1.below hb, below_to h.2.2 hb⟩
theorem exec_load1 {P : Program} {o : Oper} {ρ : Operand → Value} {w' : World} (t : TypeId) (d : TypeDesc) (x : Operand) (ho : o.op = .load t x) (hu : P.underlying t = some d) (hd : d.isRow = false) (ad : Addr) (hx : ρ x = .pointer (some ad)) (v : Value) (hc : w'.cell? ad = some v) :
    (execOp ρ o).run P w' = .ok (.value v) w' := by
  have hagg : (isAgg t).run P w' = .ok false w' := by
    unfold isAgg
    rw [Sem.run_bind, run_underlying hu w']
    cases d <;> simp_all
  unfold execOp
  simp [ho, hx, Instr.loadAt, Instr.sureAddr, loadVar, Sem.run_bind, hagg, load, Sem.run, hc]
theorem exec_nen {o : Oper} {ρ : Operand → Value} {w' : World} (x y : Operand) (ty : TypeId) (ho : o.op = .binOp .neq 3 x y ty) (n : Int) (hx : ρ x = .int .i64 n) (hy : ρ y = .int .i64 n) :
    (execOp ρ o).run Try.prog w' = .ok (.value (.bool false)) w' := by
  unfold execOp
  simp [ho, hx, hy, eqGuard, binOp, Op.intCmp]
theorem exec_idxI {op : Oper} {ρ : Operand → Value} {w' : World} (x y : Operand) (ho : op.op = .indexAddr 23 x y) (b o len cap j : Nat) (hx : ρ x = .slice (some ⟨b, o, none⟩) len cap) (hy : ρ y = .int .i64 (j : Int)) (hj : j < len) :
    (execOp ρ op).run Try.prog w' = .ok (.value (.pointer (some ⟨b, o + j, none⟩))) w' := by
  have hc : (0 : Int) ≤ (j : Int) ∧ (j : Int) < (len : Int) := by omega
  unfold execOp
  simp [ho, hx, hy, Instr.indexAt, asIntOf, Sem.run_bind, run_underlying Try.underlying23, hc, Addr.add_mid]
  intro hh; omega
theorem exec_addE {o : Oper} {ρ : Operand → Value} {w' : World} (x y : Operand) (ty : TypeId) (ho : o.op = .binOp .add 3 x y ty) (a b v : Int) (e : a + b = v) (hv : -9223372036854775808 ≤ v ∧ v ≤ 9223372036854775807) (hx : ρ x = .int .i64 a) (hy : ρ y = .int .i64 b) :
    (execOp ρ o).run Try.prog w' = .ok (.value (.int .i64 v)) w' := by
  have hw : IntKind.i64.wrap (a + b) = v := by rw [IntKind.wrap_i64]; omega
  unfold execOp
  simp [ho, hx, hy, eqGuard, binOp, Op.intArith, hw]
theorem exec_subE {o : Oper} {ρ : Operand → Value} {w' : World} (x y : Operand) (ty : TypeId) (ho : o.op = .binOp .sub 3 x y ty) (a b v : Int) (e : a - b = v) (hv : -9223372036854775808 ≤ v ∧ v ≤ 9223372036854775807) (hx : ρ x = .int .i64 a) (hy : ρ y = .int .i64 b) :
    (execOp ρ o).run Try.prog w' = .ok (.value (.int .i64 v)) w' := by
  have hw : IntKind.i64.wrap (a - b) = v := by rw [IntKind.wrap_i64]; omega
  unfold execOp
  simp [ho, hx, hy, eqGuard, binOp, Op.intArith, hw]

set_option maxRecDepth 20000 in
set_option maxHeartbeats 4000000 in
theorem back_core (leaves at' : Int) (k m n T item q t ev l : Nat) (y : Int) (W P : List Int) (w : World) (hl : 0 ≤ leaves ∧ leaves ≤ 65535) (ha : 0 ≤ at' ∧ at' ≤ 65535) (hk : leaves % 1024 = (k : Int)) (hm : (k : Int) + 1 = (m : Int)) (hm2 : m ≤ 1024) (hn6 : n ≤ 6)
    (hT0 : 0 < T ∧ T ≤ 10000) (hit : at' % (T : Int) = (item : Int)) (hq : at' % (m : Int) = (q : Int)) (ht : (t : Int) + 1 = (n : Int)) (ht1 : 1 ≤ t) (hev : (T : Int) - 1 = (ev : Int))
    (HW0 : Box (W.getD 0 0 = (m : Int))) (HWt : Box (W.getD t 0 = 1)) (HP0 : Box (P.getD 0 0 = (q : Int))) (HPt : Box (P.getD t 0 = (ev : Int)))
    (CN : Box (∀ x, Calls Try.prog 9 #[.int .i64 m] x fun e w' => ∃ a cap, e = .returned (.tuple #[.agg #[.slice a n cap], .int .i64 0]) ∧ Ints w' a n W ∧ n ≤ cap ∧ Below x.heap.size x w'))
    (CI : Box (∀ x a cap, Ints x a n W → Calls Try.prog 20 #[.agg #[.slice a n cap]] x fun e w' => e = .returned (.int .i64 (T : Int)) ∧ Below x.heap.size x w'))
    (CT : Box (∀ x a cap, Calls Try.prog 22 #[.agg #[.slice a n cap]] x fun e w' => e = .returned (.int .i64 (t : Int)) ∧ Below x.heap.size x w'))
    (C1 : Box (∀ x a cap, Ints x a n W → Calls Try.prog 14 #[.agg #[.slice a n cap], .int .i64 item] x fun e w' => e = .returned (.tuple #[.int .i64 (l : Int), .int .i64 y, .int .i64 0]) ∧ Below x.heap.size x w'))
    (C2 : Box (∀ x a cap, Ints x a n W → Calls Try.prog 12 #[.agg #[.slice a n cap], .int .i64 (l : Int), .int .i64 y] x fun e w' => e = .returned (.tuple #[.int .i64 item, .int .i64 0]) ∧ Below x.heap.size x w'))
    (C3 : Box (∀ x a cap, Ints x a n W → Calls Try.prog 18 #[.agg #[.slice a n cap], .int .i64 q] x fun e w' => ∃ a' cap', e = .returned (.tuple #[.slice a' n cap', .int .i64 0]) ∧ Ints w' a' n P ∧ Below x.heap.size x w'))
    (C4 : Box (∀ j : Nat, j < n → ∀ x a cap, Ints x a n W → Calls Try.prog 14 #[.agg #[.slice a n cap], .int .i64 (P.getD j 0)] x fun e w' => e = .returned (.tuple #[.int .i64 (j : Int), .int .i64 ((q / 4 ^ j : Nat) : Int), .int .i64 0]) ∧ Below x.heap.size x w')) :
    Calls Try.prog 4 #[.int .u16 leaves, .int .u16 at'] w fun e w' => e = .returned (.bool true) ∧ Below w.heap.size w w' := by
  have CA : Box (∀ x, Calls Try.prog 8 #[] x fun e w' => e = .returned (.bool true) ∧ Below x.heap.size x w') := ⟨awake_any⟩
  have tT : at'.tmod (T : Int) = (item : Int) := by rw [Int.tmod_eq_emod_of_nonneg ha.1]; exact hit
  have tm : at'.tmod (m : Int) = (q : Int) := by rw [Int.tmod_eq_emod_of_nonneg ha.1]; exact hq
  have zT : ((T : Int) == 0) = false := by simp; omega
  have zm : ((m : Int) == 0) = false := by simp; omega
  have hn0 : 0 < n := by omega
  have htn : t < n := by omega
  have hiT : item < T := by have := Int.emod_lt_of_pos at' (show (0 : Int) < T by omega); omega
  have hqm : q < m := by have := Int.emod_lt_of_pos at' (show (0 : Int) < m by omega); omega
  have hnt : (n : Int) - 1 = (t : Int) := by omega
  go_enter Try.func4, Try.ntmps4
  go_upto_region 5 with (first
    | (refine wpList_newS w2 a n cap rfl _ _ rfl rfl rfl rfl ?_; intro z2 hz hb3; have H2 : Box (Holds z2 w2.heap.size a n cap W ∧ Below w.heap.size w z2) := ⟨⟨hz, hI.below hb3⟩, below_to (below_to H1.out hb2) hb3⟩; clear hz hb3 hI hb2 hcap)
    | (go_at_call 9; refine Calls.mono (CN.out w1) ?_; rintro e w2 ⟨a, cap, rfl, hI, hcap, hb2⟩)
    | (go_at_call 8; refine Calls.mono (CA.out w) ?_; rintro e w1 ⟨rfl, hb1⟩; have H1 : Box (Below w.heap.size w w1) := ⟨hb1⟩; clear hb1))
  generalize w2.heap.size = S at H2 ⊢
  obtain ⟨ab, ao, e1, _, _⟩ := H2.out.1.2.2 hn0
  subst e1
  clear CA CN
  go_upto_region 8 with (first
    | (go_at_call 20; refine Calls.mono (CI.out z2 (some ⟨ab, ao, none⟩) cap H2.out.1.2) ?_; rintro e w3 ⟨rfl, hb⟩; have H3 : Box (Holds w3 S (some ⟨ab, ao, none⟩) n cap W ∧ Below w.heap.size w w3) := ⟨H2.out.1.below hb, below_to H2.out.2 hb⟩; clear hb)
    | (refine wpList_ldS rfl _ rfl _ _ rfl H2.out.1.1 ?_))
  clear H2
  go_upto_region 9 with (first
    | (go_at_call 14; refine Calls.mono (C1.out w3 (some ⟨ab, ao, none⟩) cap H3.out.1.2) ?_; rintro e w3a ⟨rfl, hb⟩; have H3a : Box (Holds w3a S (some ⟨ab, ao, none⟩) n cap W ∧ Below w.heap.size w w3a) := ⟨H3.out.1.below hb, below_to H3.out.2 hb⟩; clear hb)
    | (refine wpList_ldS rfl _ rfl _ _ rfl H3.out.1.1 ?_))
  clear H3 C1
  go_upto_region 10 with (first
    | (go_at_call 12; refine Calls.mono (C2.out w3a (some ⟨ab, ao, none⟩) cap H3a.out.1.2) ?_; rintro e w4 ⟨rfl, hb⟩; have H4 : Box (Holds w4 S (some ⟨ab, ao, none⟩) n cap W ∧ Below w.heap.size w w4) := ⟨H3a.out.1.below hb, below_to H3a.out.2 hb⟩; clear hb)
    | (refine wpList_ldS rfl _ rfl _ _ rfl H3a.out.1.1 ?_))
  clear H3a C2
  have hc4 := H4.out.1.cell
  have d4 : w4.cell? ⟨ab, ao, none⟩ = some (.int .i64 m) := by have := H4.out.1.2.cell 0 hn0; rw [HW0.out] at this; exact this
  go_upto_region 12 with (first
    | (go_at_call 18; refine Calls.mono (C3.out w4 (some ⟨ab, ao, none⟩) cap H4.out.1.2) ?_; rintro e w5 ⟨pa, pc, rfl, hI, hb⟩; obtain ⟨pb, po, e2, _, _⟩ := hI.2 hn0; subst e2; have H5 : Box (Wth w w5 S (some ⟨ab, ao, none⟩) n cap W (some ⟨pb, po, none⟩) P) := ⟨H4.out.1.below hb, hI, below_to H4.out.2 hb⟩; clear hI hb)
    | (refine wpList_ldS rfl _ rfl _ _ rfl H4.out.1.1 ?_))
  clear hc4 d4 H4 C3 hit hq tT tm zT zm HW0
  refine Seq.begin_any (by kernel_rfl) (fun wd hd => ?_)
  refine Seq.take_lat (i := 0) (v := ?_) rfl (by kernel_rfl) (by kernel_rfl) (by kernel_rfl) (fun _ _ _ h => h) (by rfl) ?_ ?_
  rotate_left
  · intro w' hLat; change Below _ _ _ at hLat; go_simp <;> with_reducible rfl
  try simp only [Act.put, List.setIfInBounds_toArray, List.set_cons_zero, List.set_cons_succ, List.getElem_toArray, List.getElem_cons_zero]
  refine Seq.take_lat (i := 1) (v := ?_) rfl (by kernel_rfl) (by kernel_rfl) (by kernel_rfl) (fun _ _ _ h => h) (by rfl) ?_ ?_
  rotate_left
  · intro w' hLat; change Below _ _ _ at hLat; go_simp <;> with_reducible rfl
  try simp only [Act.put, List.setIfInBounds_toArray, List.set_cons_zero, List.set_cons_succ, List.getElem_toArray, List.getElem_cons_zero, List.getElem_cons_succ]
  refine Seq.take_lat (i := 2) (v := ?_) rfl (by kernel_rfl) (by kernel_rfl) (by kernel_rfl) (fun _ _ _ h => h) (by rfl) ?_ ?_
  rotate_left
  · intro w' hLat; change Below _ _ _ at hLat; go_simp <;> with_reducible rfl
  try simp only [Act.put, List.setIfInBounds_toArray, List.set_cons_zero, List.set_cons_succ, List.getElem_toArray, List.getElem_cons_zero, List.getElem_cons_succ]
  refine Seq.take_lat (i := 3) (v := ?_) rfl (by kernel_rfl) (by kernel_rfl) (by kernel_rfl) (fun _ _ _ h => h) (by rfl) ?_ ?_
  rotate_left
  · intro w' hLat; change Below _ _ _ at hLat; go_simp <;> with_reducible rfl
  try simp only [Act.put, List.setIfInBounds_toArray, List.set_cons_zero, List.set_cons_succ, List.getElem_toArray, List.getElem_cons_zero, List.getElem_cons_succ]
  refine Seq.take_lat (i := 4) (v := ?_) rfl (by kernel_rfl) (by kernel_rfl) (by kernel_rfl) (fun _ _ _ h => h) (by rfl) ?_ ?_
  rotate_left
  · intro w' hLat; change Below _ _ _ at hLat; go_simp <;> with_reducible rfl
  try simp only [Act.put, List.setIfInBounds_toArray, List.set_cons_zero, List.set_cons_succ, List.getElem_toArray, List.getElem_cons_zero, List.getElem_cons_succ]
  refine Seq.take_lat (i := 5) (v := ?_) rfl (by kernel_rfl) (by kernel_rfl) (by kernel_rfl) (fun _ _ _ h => h) (by rfl) ?_ ?_
  rotate_left
  · intro w' hLat; change Below _ _ _ at hLat; go_simp <;> with_reducible rfl
  try simp only [Act.put, List.setIfInBounds_toArray, List.set_cons_zero, List.set_cons_succ, List.getElem_toArray, List.getElem_cons_zero, List.getElem_cons_succ]
  refine Seq.take_lat (i := 6) (v := ?_) rfl (by kernel_rfl) (by kernel_rfl) (by kernel_rfl) (fun _ _ _ h => h) (by rfl) ?_ ?_
  rotate_left
  · intro w' hLat; change Below _ _ _ at hLat; go_simp <;> with_reducible rfl
  try simp only [Act.put, List.setIfInBounds_toArray, List.set_cons_zero, List.set_cons_succ, List.getElem_toArray, List.getElem_cons_zero, List.getElem_cons_succ]
  refine Seq.take_lat (i := 7) (v := ?_) rfl (by kernel_rfl) (by kernel_rfl) (by kernel_rfl) (fun _ _ _ h => h) (by rfl) ?_ ?_
  rotate_left
  · intro w' hLat; change Below _ _ _ at hLat; go_simp <;> with_reducible rfl
  try simp only [Act.put, List.setIfInBounds_toArray, List.set_cons_zero, List.set_cons_succ, List.getElem_toArray, List.getElem_cons_zero, List.getElem_cons_succ]
  refine Seq.take_lat (i := 8) (v := ?_) rfl (by kernel_rfl) (by kernel_rfl) (by kernel_rfl) (fun _ _ _ h => h) (by rfl) ?_ ?_
  rotate_left
  · intro w' hLat; change Below _ _ _ at hLat; go_simp <;> with_reducible rfl
  try simp only [Act.put, List.setIfInBounds_toArray, List.set_cons_zero, List.set_cons_succ, List.getElem_toArray, List.getElem_cons_zero, List.getElem_cons_succ]
  refine Seq.take_lat (i := 9) (v := .bool false) rfl (by kernel_rfl) (by kernel_rfl) (by kernel_rfl) (fun _ _ _ h => h) (by rfl) (fun w' hLat => exec_nen _ _ _ rfl (item : Int) rfl rfl) ?_
  try simp only [Act.put, List.setIfInBounds_toArray, List.set_cons_zero, List.set_cons_succ, List.getElem_toArray, List.getElem_cons_zero, List.getElem_cons_succ]
  refine Seq.take_lat (i := 10) (v := ?_) rfl (by kernel_rfl) (by kernel_rfl) (by kernel_rfl) (fun _ _ _ h => h) (by rfl) ?_ ?_
  rotate_left
  · intro w' hLat; change Below _ _ _ at hLat; go_simp <;> with_reducible rfl
  try simp only [Act.put, List.setIfInBounds_toArray, List.set_cons_zero, List.set_cons_succ, List.getElem_toArray, List.getElem_cons_zero, List.getElem_cons_succ]
  refine Seq.take_lat (i := 11) (v := ?_) rfl (by kernel_rfl) (by kernel_rfl) (by kernel_rfl) (fun _ _ _ h => h) (by rfl) ?_ ?_
  rotate_left
  · intro w' hLat; change Below _ _ _ at hLat; go_simp <;> with_reducible rfl
  try simp only [Act.put, List.setIfInBounds_toArray, List.set_cons_zero, List.set_cons_succ, List.getElem_toArray, List.getElem_cons_zero, List.getElem_cons_succ]
  refine Seq.take_lat (i := 12) (v := ?_) rfl (by kernel_rfl) (by kernel_rfl) (by kernel_rfl) (fun _ _ _ h => h) (by rfl) ?_ ?_
  rotate_left
  · intro w' hLat; change Below _ _ _ at hLat; go_simp <;> with_reducible rfl
  try simp only [Act.put, List.setIfInBounds_toArray, List.set_cons_zero, List.set_cons_succ, List.getElem_toArray, List.getElem_cons_zero, List.getElem_cons_succ]
  refine Seq.take_lat (i := 13) (v := ?_) rfl (by kernel_rfl) (by kernel_rfl) (by kernel_rfl) (fun _ _ _ h => h) (by rfl) ?_ ?_
  rotate_left
  · intro w' hLat; change Below _ _ _ at hLat; go_simp <;> with_reducible rfl
  try simp only [Act.put, List.setIfInBounds_toArray, List.set_cons_zero, List.set_cons_succ, List.getElem_toArray, List.getElem_cons_zero, List.getElem_cons_succ]
  refine Seq.take_lat (i := 14) (v := ?_) rfl (by kernel_rfl) (by kernel_rfl) (by kernel_rfl) (fun _ _ _ h => h) (by rfl) ?_ ?_
  rotate_left
  · intro w' hLat; change Below _ _ _ at hLat; go_simp <;> with_reducible rfl
  try simp only [Act.put, List.setIfInBounds_toArray, List.set_cons_zero, List.set_cons_succ, List.getElem_toArray, List.getElem_cons_zero, List.getElem_cons_succ]
  refine Seq.take_lat (i := 15) (v := ?_) rfl (by kernel_rfl) (by kernel_rfl) (by kernel_rfl) (fun _ _ _ h => h) (by rfl) ?_ ?_
  rotate_left
  · intro w' hLat; change Below _ _ _ at hLat; go_simp <;> with_reducible rfl
  try simp only [Act.put, List.setIfInBounds_toArray, List.set_cons_zero, List.set_cons_succ, List.getElem_toArray, List.getElem_cons_zero, List.getElem_cons_succ]
  refine Seq.take_lat (i := 16) (v := ?_) rfl (by kernel_rfl) (by kernel_rfl) (by kernel_rfl) (fun _ _ _ h => h) (by rfl) ?_ ?_
  rotate_left
  · intro w' hLat; change Below _ _ _ at hLat; go_simp <;> with_reducible rfl
  try simp only [Act.put, List.setIfInBounds_toArray, List.set_cons_zero, List.set_cons_succ, List.getElem_toArray, List.getElem_cons_zero, List.getElem_cons_succ]
  refine Seq.take_lat (i := 17) (v := ?_) rfl (by kernel_rfl) (by kernel_rfl) (by kernel_rfl) (fun _ _ _ h => h) (by rfl) ?_ ?_
  rotate_left
  · intro w' hLat; change Below _ _ _ at hLat; go_simp <;> with_reducible rfl
  try simp only [Act.put, List.setIfInBounds_toArray, List.set_cons_zero, List.set_cons_succ, List.getElem_toArray, List.getElem_cons_zero, List.getElem_cons_succ]
  refine Seq.take_lat (i := 18) (v := .agg #[.slice (some ⟨ab, ao, none⟩) n cap]) rfl (by kernel_rfl) (by kernel_rfl) (by kernel_rfl) (fun _ _ _ h => h) (by rfl) (fun w' hLat => exec_ldS _ rfl S _ rfl (((H5.out.on hd).on hLat).1.1)) ?_
  try simp only [Act.put, List.setIfInBounds_toArray, List.set_cons_zero, List.set_cons_succ, List.getElem_toArray, List.getElem_cons_zero, List.getElem_cons_succ]
  refine Seq.only_lat (i := 19) rfl (by kernel_rfl) (fun KK hK => ?_)
  rw [if_pos (by rfl)]
  go_simp
  refine Calls.mono (CT.out wd (some ⟨ab, ao, none⟩) cap) ?_
  rintro e w6 ⟨rfl, hb⟩
  have H6 : Box (Wth w w6 S (some ⟨ab, ao, none⟩) n cap W (some ⟨pb, po, none⟩) P) := ⟨((H5.out.on hd)).on hb⟩
  refine hK.out _ _ hb ?_
  clear hb
  clear hK KK
  try simp only [Act.put, List.setIfInBounds_toArray, List.set_cons_zero, List.set_cons_succ, List.getElem_toArray, List.getElem_cons_zero, List.getElem_cons_succ]
  refine Seq.take_lat (i := 20) (v := .int .i64 (n : Int)) rfl (by kernel_rfl) (by kernel_rfl) (by kernel_rfl) (fun _ _ _ h => h) (by rfl) (fun w' hLat => exec_addE _ _ _ rfl (t : Int) 1 (n : Int) ht (by omega) rfl rfl) ?_
  try simp only [Act.put, List.setIfInBounds_toArray, List.set_cons_zero, List.set_cons_succ, List.getElem_toArray, List.getElem_cons_zero, List.getElem_cons_succ]
  refine Seq.take_lat (i := 21) (v := .bool false) rfl (by kernel_rfl) (by kernel_rfl) (by kernel_rfl) (fun _ _ _ h => h) (by rfl) (fun w' hLat => exec_nen _ _ _ rfl (n : Int) rfl rfl) ?_
  try simp only [Act.put, List.setIfInBounds_toArray, List.set_cons_zero, List.set_cons_succ, List.getElem_toArray, List.getElem_cons_zero, List.getElem_cons_succ]
  refine Seq.take_lat (i := 22) (v := ?_) rfl (by kernel_rfl) (by kernel_rfl) (by kernel_rfl) (fun _ _ _ h => h) (by rfl) ?_ ?_
  rotate_left
  · intro w' hLat; change Below _ _ _ at hLat; go_simp <;> with_reducible rfl
  try simp only [Act.put, List.setIfInBounds_toArray, List.set_cons_zero, List.set_cons_succ, List.getElem_toArray, List.getElem_cons_zero, List.getElem_cons_succ]
  refine Seq.take_lat (i := 23) (v := ?_) rfl (by kernel_rfl) (by kernel_rfl) (by kernel_rfl) (fun _ _ _ h => h) (by rfl) ?_ ?_
  rotate_left
  · intro w' hLat; change Below _ _ _ at hLat; go_simp <;> with_reducible rfl
  try simp only [Act.put, List.setIfInBounds_toArray, List.set_cons_zero, List.set_cons_succ, List.getElem_toArray, List.getElem_cons_zero, List.getElem_cons_succ]
  refine Seq.take_lat (i := 24) (v := ?_) rfl (by kernel_rfl) (by kernel_rfl) (by kernel_rfl) (fun _ _ _ h => h) (by rfl) ?_ ?_
  rotate_left
  · intro w' hLat; change Below _ _ _ at hLat; go_simp <;> with_reducible rfl
  try simp only [Act.put, List.setIfInBounds_toArray, List.set_cons_zero, List.set_cons_succ, List.getElem_toArray, List.getElem_cons_zero, List.getElem_cons_succ]
  refine Seq.take_lat (i := 25) (v := .pointer (some ⟨pb, po + 0, none⟩)) rfl (by kernel_rfl) (by kernel_rfl) (by kernel_rfl) (fun _ _ _ h => h) (by rfl) (fun w' hLat => exec_idxI _ _ rfl pb po n pc 0 rfl rfl hn0) ?_
  try simp only [Act.put, List.setIfInBounds_toArray, List.set_cons_zero, List.set_cons_succ, List.getElem_toArray, List.getElem_cons_zero, List.getElem_cons_succ]
  refine Seq.take_lat (i := 26) (v := .int .i64 q) rfl (by kernel_rfl) (by kernel_rfl) (by kernel_rfl) (fun _ _ _ h => h) (by rfl) (fun w' hLat => exec_load1 3 _ (.tmp 94) rfl Try.underlying3 rfl ⟨pb, po + 0, none⟩ rfl _ (((H6.out.on hLat).2.1.cell 0 hn0).trans (by rw [HP0.out]))) ?_
  try simp only [Act.put, List.setIfInBounds_toArray, List.set_cons_zero, List.set_cons_succ, List.getElem_toArray, List.getElem_cons_zero, List.getElem_cons_succ]
  refine Seq.take_lat (i := 27) (v := ?_) rfl (by kernel_rfl) (by kernel_rfl) (by kernel_rfl) (fun _ _ _ h => h) (by rfl) ?_ ?_
  rotate_left
  · intro w' hLat; change Below _ _ _ at hLat; go_simp <;> with_reducible rfl
  try simp only [Act.put, List.setIfInBounds_toArray, List.set_cons_zero, List.set_cons_succ, List.getElem_toArray, List.getElem_cons_zero, List.getElem_cons_succ]
  refine Seq.take_lat (i := 28) (v := .bool false) rfl (by kernel_rfl) (by kernel_rfl) (by kernel_rfl) (fun _ _ _ h => h) (by rfl) (fun w' hLat => exec_nen _ _ _ rfl (q : Int) rfl rfl) ?_
  try simp only [Act.put, List.setIfInBounds_toArray, List.set_cons_zero, List.set_cons_succ, List.getElem_toArray, List.getElem_cons_zero, List.getElem_cons_succ]
  refine Seq.take_lat (i := 29) (v := ?_) rfl (by kernel_rfl) (by kernel_rfl) (by kernel_rfl) (fun _ _ _ h => h) (by rfl) ?_ ?_
  rotate_left
  · intro w' hLat; change Below _ _ _ at hLat; go_simp <;> with_reducible rfl
  try simp only [Act.put, List.setIfInBounds_toArray, List.set_cons_zero, List.set_cons_succ, List.getElem_toArray, List.getElem_cons_zero, List.getElem_cons_succ]
  refine Seq.take_lat (i := 30) (v := ?_) rfl (by kernel_rfl) (by kernel_rfl) (by kernel_rfl) (fun _ _ _ h => h) (by rfl) ?_ ?_
  rotate_left
  · intro w' hLat; change Below _ _ _ at hLat; go_simp <;> with_reducible rfl
  try simp only [Act.put, List.setIfInBounds_toArray, List.set_cons_zero, List.set_cons_succ, List.getElem_toArray, List.getElem_cons_zero, List.getElem_cons_succ]
  refine Seq.take_lat (i := 31) (v := ?_) rfl (by kernel_rfl) (by kernel_rfl) (by kernel_rfl) (fun _ _ _ h => h) (by rfl) ?_ ?_
  rotate_left
  · intro w' hLat; change Below _ _ _ at hLat; go_simp <;> with_reducible rfl
  try simp only [Act.put, List.setIfInBounds_toArray, List.set_cons_zero, List.set_cons_succ, List.getElem_toArray, List.getElem_cons_zero, List.getElem_cons_succ]
  refine Seq.take_lat (i := 32) (v := ?_) rfl (by kernel_rfl) (by kernel_rfl) (by kernel_rfl) (fun _ _ _ h => h) (by rfl) ?_ ?_
  rotate_left
  · intro w' hLat; change Below _ _ _ at hLat; go_simp <;> with_reducible rfl
  try simp only [Act.put, List.setIfInBounds_toArray, List.set_cons_zero, List.set_cons_succ, List.getElem_toArray, List.getElem_cons_zero, List.getElem_cons_succ]
  refine Seq.take_lat (i := 33) (v := ?_) rfl (by kernel_rfl) (by kernel_rfl) (by kernel_rfl) (fun _ _ _ h => h) (by rfl) ?_ ?_
  rotate_left
  · intro w' hLat; change Below _ _ _ at hLat; go_simp <;> with_reducible rfl
  try simp only [Act.put, List.setIfInBounds_toArray, List.set_cons_zero, List.set_cons_succ, List.getElem_toArray, List.getElem_cons_zero, List.getElem_cons_succ]
  refine Seq.take_lat (i := 34) (v := .int .i64 (t : Int)) rfl (by kernel_rfl) (by kernel_rfl) (by kernel_rfl) (fun _ _ _ h => h) (by rfl) (fun w' hLat => exec_subE _ _ _ rfl (n : Int) 1 (t : Int) hnt (by omega) rfl rfl) ?_
  try simp only [Act.put, List.setIfInBounds_toArray, List.set_cons_zero, List.set_cons_succ, List.getElem_toArray, List.getElem_cons_zero, List.getElem_cons_succ]
  refine Seq.take_lat (i := 35) (v := .pointer (some ⟨pb, po + t, none⟩)) rfl (by kernel_rfl) (by kernel_rfl) (by kernel_rfl) (fun _ _ _ h => h) (by rfl) (fun w' hLat => exec_idxI _ _ rfl pb po n pc t rfl rfl htn) ?_
  try simp only [Act.put, List.setIfInBounds_toArray, List.set_cons_zero, List.set_cons_succ, List.getElem_toArray, List.getElem_cons_zero, List.getElem_cons_succ]
  refine Seq.take_lat (i := 36) (v := .int .i64 ev) rfl (by kernel_rfl) (by kernel_rfl) (by kernel_rfl) (fun _ _ _ h => h) (by rfl) (fun w' hLat => exec_load1 3 _ (.tmp 104) rfl Try.underlying3 rfl ⟨pb, po + t, none⟩ rfl _ (((H6.out.on hLat).2.1.cell t htn).trans (by rw [HPt.out]))) ?_
  try simp only [Act.put, List.setIfInBounds_toArray, List.set_cons_zero, List.set_cons_succ, List.getElem_toArray, List.getElem_cons_zero, List.getElem_cons_succ]
  refine Seq.take_lat (i := 37) (v := .agg #[.slice (some ⟨ab, ao, none⟩) n cap]) rfl (by kernel_rfl) (by kernel_rfl) (by kernel_rfl) (fun _ _ _ h => h) (by rfl) (fun w' hLat => exec_ldS _ rfl S _ rfl ((H6.out.on hLat).1.1)) ?_
  try simp only [Act.put, List.setIfInBounds_toArray, List.set_cons_zero, List.set_cons_succ, List.getElem_toArray, List.getElem_cons_zero, List.getElem_cons_succ]
  refine Seq.only_lat (i := 38) rfl (by kernel_rfl) (fun KK hK => ?_)
  rw [if_pos (by rfl)]
  go_simp
  refine Calls.mono (CI.out w6 (some ⟨ab, ao, none⟩) cap H6.out.1.2) ?_
  rintro e w7 ⟨rfl, hb⟩
  have H7 : Box (Wth w w7 S (some ⟨ab, ao, none⟩) n cap W (some ⟨pb, po, none⟩) P) := ⟨(H6.out).on hb⟩
  refine hK.out _ _ hb ?_
  clear hb
  clear hK KK
  try simp only [Act.put, List.setIfInBounds_toArray, List.set_cons_zero, List.set_cons_succ, List.getElem_toArray, List.getElem_cons_zero, List.getElem_cons_succ]
  refine Seq.take_lat (i := 39) (v := .int .i64 (ev : Int)) rfl (by kernel_rfl) (by kernel_rfl) (by kernel_rfl) (fun _ _ _ h => h) (by rfl) (fun w' hLat => exec_subE _ _ _ rfl (T : Int) 1 (ev : Int) hev (by omega) rfl rfl) ?_
  try simp only [Act.put, List.setIfInBounds_toArray, List.set_cons_zero, List.set_cons_succ, List.getElem_toArray, List.getElem_cons_zero, List.getElem_cons_succ]
  refine Seq.take_lat (i := 40) (v := .bool false) rfl (by kernel_rfl) (by kernel_rfl) (by kernel_rfl) (fun _ _ _ h => h) (by rfl) (fun w' hLat => exec_nen _ _ _ rfl (ev : Int) rfl rfl) ?_
  try simp only [Act.put, List.setIfInBounds_toArray, List.set_cons_zero, List.set_cons_succ, List.getElem_toArray, List.getElem_cons_zero, List.getElem_cons_succ]
  refine Seq.take_lat (i := 41) (v := ?_) rfl (by kernel_rfl) (by kernel_rfl) (by kernel_rfl) (fun _ _ _ h => h) (by rfl) ?_ ?_
  rotate_left
  · intro w' hLat; change Below _ _ _ at hLat; go_simp <;> with_reducible rfl
  try simp only [Act.put, List.setIfInBounds_toArray, List.set_cons_zero, List.set_cons_succ, List.getElem_toArray, List.getElem_cons_zero, List.getElem_cons_succ]
  refine wpAnyH_done (by kernel_rfl) ?_ _
  clear H5 H6 CI HP0 HPt
  go_wp2
  go_loopw [17] (fun v wr => ∃ kk : Nat, 1 ≤ kk ∧ kk ≤ n ∧ v = .int .i64 kk ∧ Box (Wth w wr S (some ⟨ab, ao, none⟩) n cap W (some ⟨pb, po, none⟩) P)) (fun v _ => n - (intOf v).toNat)
  case atStart => exact ⟨1, by omega, by omega, rfl, H7⟩
  case round =>
    obtain ⟨kk, hk1, hk2, rfl, HI⟩ := hrel
    clear H7
    by_cases hkn : kk < n
    · obtain ⟨j, hj⟩ : ∃ j : Nat, (kk : Int) - 1 = (j : Int) := ⟨kk - 1, by omega⟩
      have hjk : j + 1 = kk := by omega
      have hj2 : (j : Int) + 1 = (kk : Int) := by omega
      have hjn : j < n := by omega
      obtain ⟨pj, HPj⟩ : ∃ pj, Box (P.getD j 0 = pj) := ⟨_, ⟨rfl⟩⟩
      obtain ⟨pk, HPk⟩ : ∃ pk, Box (P.getD kk 0 = pk) := ⟨_, ⟨rfl⟩⟩
      have htd := quart_tdiv (q / 4 ^ j)
      rw [← quart, hjk] at htd
      have C4j := C4.out j hjn
      have C4k := C4.out kk hkn
      rw [HPj.out] at C4j
      rw [HPk.out] at C4k
      have hz1 : q / 4 ^ j ≤ 1024 := Nat.le_trans (Nat.div_le_self _ _) (by omega)
      have hz2 : q / 4 ^ kk ≤ 1024 := Nat.le_trans (Nat.div_le_self _ _) (by omega)
      generalize q / 4 ^ j = z1 at htd C4j hz1
      generalize q / 4 ^ kk = z2 at htd C4k hz2
      have htd2 : (z1 : Int) / 4 = (z2 : Int) := by rw [← htd, Int.tdiv_eq_ediv_of_nonneg (by omega)]
      replace C4j : Box (∀ x a cap, Ints x a n W → Calls Try.prog 14 #[.agg #[.slice a n cap], .int .i64 pj] x fun e w' => e = .returned (.tuple #[.int .i64 (j : Int), .int .i64 (z1 : Int), .int .i64 0]) ∧ Below x.heap.size x w') := ⟨C4j⟩
      replace C4k : Box (∀ x a cap, Ints x a n W → Calls Try.prog 14 #[.agg #[.slice a n cap], .int .i64 pk] x fun e w' => e = .returned (.tuple #[.int .i64 (kk : Int), .int .i64 (z2 : Int), .int .i64 0]) ∧ Below x.heap.size x w') := ⟨C4k⟩
      clear hjk
      go_wp2
      refine Seq.begin_any (by kernel_rfl) (fun wd hd => ?_)
      refine Seq.take_lat (i := 0) (v := .agg #[.slice (some ⟨ab, ao, none⟩) n cap]) rfl (by kernel_rfl) (by kernel_rfl) (by kernel_rfl) (fun _ _ _ h => h) (by rfl) (fun w' hLat => exec_ldS _ rfl S _ rfl (((HI.out.on hd).on hLat).1.1)) ?_
      try simp only [Act.put, List.setIfInBounds_toArray, List.set_cons_zero, List.set_cons_succ, List.getElem_toArray, List.getElem_cons_zero]
      refine Seq.take_lat (i := 1) (v := ?_) rfl (by kernel_rfl) (by kernel_rfl) (by kernel_rfl) (fun _ _ _ h => h) (by rfl) ?_ ?_
      rotate_left
      · intro w' hLat; change Below _ _ _ at hLat; go_simp <;> with_reducible rfl
      try simp only [Act.put, List.setIfInBounds_toArray, List.set_cons_zero, List.set_cons_succ, List.getElem_toArray, List.getElem_cons_zero, List.getElem_cons_succ]
      refine Seq.take_lat (i := 2) (v := ?_) rfl (by kernel_rfl) (by kernel_rfl) (by kernel_rfl) (fun _ _ _ h => h) (by rfl) ?_ ?_
      rotate_left
      · intro w' hLat; change Below _ _ _ at hLat; go_simp <;> with_reducible rfl
      try simp only [Act.put, List.setIfInBounds_toArray, List.set_cons_zero, List.set_cons_succ, List.getElem_toArray, List.getElem_cons_zero, List.getElem_cons_succ]
      refine Seq.take_lat (i := 3) (v := .int .i64 (j : Int)) rfl (by kernel_rfl) (by kernel_rfl) (by kernel_rfl) (fun _ _ _ h => h) (by rfl) (fun w' hLat => exec_subE _ _ _ rfl (kk : Int) 1 (j : Int) hj (by omega) rfl rfl) ?_
      try simp only [Act.put, List.setIfInBounds_toArray, List.set_cons_zero, List.set_cons_succ, List.getElem_toArray, List.getElem_cons_zero, List.getElem_cons_succ]
      refine Seq.take_lat (i := 4) (v := .pointer (some ⟨pb, po + j, none⟩)) rfl (by kernel_rfl) (by kernel_rfl) (by kernel_rfl) (fun _ _ _ h => h) (by rfl) (fun w' hLat => exec_idxI _ _ rfl pb po n pc j rfl rfl hjn) ?_
      try simp only [Act.put, List.setIfInBounds_toArray, List.set_cons_zero, List.set_cons_succ, List.getElem_toArray, List.getElem_cons_zero, List.getElem_cons_succ]
      refine Seq.take_lat (i := 5) (v := .int .i64 pj) rfl (by kernel_rfl) (by kernel_rfl) (by kernel_rfl) (fun _ _ _ h => h) (by rfl) (fun w' hLat => exec_load1 3 _ (.tmp 122) rfl Try.underlying3 rfl ⟨pb, po + j, none⟩ rfl _ ((((HI.out.on hd).on hLat).2.1.cell j hjn).trans (by rw [HPj.out]))) ?_
      try simp only [Act.put, List.setIfInBounds_toArray, List.set_cons_zero, List.set_cons_succ, List.getElem_toArray, List.getElem_cons_zero, List.getElem_cons_succ]
      refine Seq.only_lat (i := 6) rfl (by kernel_rfl) (fun KK hK => ?_)
      rw [if_pos (by rfl)]
      go_simp
      refine Calls.mono (C4j.out wd (some ⟨ab, ao, none⟩) cap (HI.out.on hd).1.2) ?_
      rintro e x1 ⟨rfl, hb⟩
      have HX1 : Box (Wth w x1 S (some ⟨ab, ao, none⟩) n cap W (some ⟨pb, po, none⟩) P) := ⟨((HI.out.on hd)).on hb⟩
      refine hK.out _ _ hb ?_
      clear hb
      clear hK KK
      try simp only [Act.put, List.setIfInBounds_toArray, List.set_cons_zero, List.set_cons_succ, List.getElem_toArray, List.getElem_cons_zero, List.getElem_cons_succ]
      refine Seq.take_lat (i := 7) (v := ?_) rfl (by kernel_rfl) (by kernel_rfl) (by kernel_rfl) (fun _ _ _ h => h) (by rfl) ?_ ?_
      rotate_left
      · intro w' hLat; change Below _ _ _ at hLat; go_simp <;> with_reducible rfl
      try simp only [Act.put, List.setIfInBounds_toArray, List.set_cons_zero, List.set_cons_succ, List.getElem_toArray, List.getElem_cons_zero, List.getElem_cons_succ]
      refine Seq.take_lat (i := 8) (v := ?_) rfl (by kernel_rfl) (by kernel_rfl) (by kernel_rfl) (fun _ _ _ h => h) (by rfl) ?_ ?_
      rotate_left
      · intro w' hLat; change Below _ _ _ at hLat; go_simp <;> with_reducible rfl
      try simp only [Act.put, List.setIfInBounds_toArray, List.set_cons_zero, List.set_cons_succ, List.getElem_toArray, List.getElem_cons_zero, List.getElem_cons_succ]
      refine Seq.take_lat (i := 9) (v := ?_) rfl (by kernel_rfl) (by kernel_rfl) (by kernel_rfl) (fun _ _ _ h => h) (by rfl) ?_ ?_
      rotate_left
      · intro w' hLat; change Below _ _ _ at hLat; go_simp <;> with_reducible rfl
      try simp only [Act.put, List.setIfInBounds_toArray, List.set_cons_zero, List.set_cons_succ, List.getElem_toArray, List.getElem_cons_zero, List.getElem_cons_succ]
      refine Seq.take_lat (i := 10) (v := ?_) rfl (by kernel_rfl) (by kernel_rfl) (by kernel_rfl) (fun _ _ _ h => h) (by rfl) ?_ ?_
      rotate_left
      · intro w' hLat; change Below _ _ _ at hLat; go_simp <;> with_reducible rfl
      try simp only [Act.put, List.setIfInBounds_toArray, List.set_cons_zero, List.set_cons_succ, List.getElem_toArray, List.getElem_cons_zero, List.getElem_cons_succ]
      refine Seq.take_lat (i := 11) (v := ?_) rfl (by kernel_rfl) (by kernel_rfl) (by kernel_rfl) (fun _ _ _ h => h) (by rfl) ?_ ?_
      rotate_left
      · intro w' hLat; change Below _ _ _ at hLat; go_simp <;> with_reducible rfl
      try simp only [Act.put, List.setIfInBounds_toArray, List.set_cons_zero, List.set_cons_succ, List.getElem_toArray, List.getElem_cons_zero, List.getElem_cons_succ]
      refine Seq.take_lat (i := 12) (v := ?_) rfl (by kernel_rfl) (by kernel_rfl) (by kernel_rfl) (fun _ _ _ h => h) (by rfl) ?_ ?_
      rotate_left
      · intro w' hLat; change Below _ _ _ at hLat; go_simp <;> with_reducible rfl
      try simp only [Act.put, List.setIfInBounds_toArray, List.set_cons_zero, List.set_cons_succ, List.getElem_toArray, List.getElem_cons_zero, List.getElem_cons_succ]
      refine Seq.take_lat (i := 13) (v := ?_) rfl (by kernel_rfl) (by kernel_rfl) (by kernel_rfl) (fun _ _ _ h => h) (by rfl) ?_ ?_
      rotate_left
      · intro w' hLat; change Below _ _ _ at hLat; go_simp <;> with_reducible rfl
      try simp only [Act.put, List.setIfInBounds_toArray, List.set_cons_zero, List.set_cons_succ, List.getElem_toArray, List.getElem_cons_zero, List.getElem_cons_succ]
      refine wpAnyH_done (by kernel_rfl) ?_ _
      go_wp2
      refine Seq.begin_any (by kernel_rfl) (fun wd hd => ?_)
      refine Seq.take_lat (i := 0) (v := .agg #[.slice (some ⟨ab, ao, none⟩) n cap]) rfl (by kernel_rfl) (by kernel_rfl) (by kernel_rfl) (fun _ _ _ h => h) (by rfl) (fun w' hLat => exec_ldS _ rfl S _ rfl (((HX1.out.on hd).on hLat).1.1)) ?_
      try simp only [Act.put, List.setIfInBounds_toArray, List.set_cons_zero, List.set_cons_succ, List.getElem_toArray, List.getElem_cons_zero]
      refine Seq.take_lat (i := 1) (v := ?_) rfl (by kernel_rfl) (by kernel_rfl) (by kernel_rfl) (fun _ _ _ h => h) (by rfl) ?_ ?_
      rotate_left
      · intro w' hLat; change Below _ _ _ at hLat; go_simp <;> with_reducible rfl
      try simp only [Act.put, List.setIfInBounds_toArray, List.set_cons_zero, List.set_cons_succ, List.getElem_toArray, List.getElem_cons_zero, List.getElem_cons_succ]
      refine Seq.take_lat (i := 2) (v := ?_) rfl (by kernel_rfl) (by kernel_rfl) (by kernel_rfl) (fun _ _ _ h => h) (by rfl) ?_ ?_
      rotate_left
      · intro w' hLat; change Below _ _ _ at hLat; go_simp <;> with_reducible rfl
      try simp only [Act.put, List.setIfInBounds_toArray, List.set_cons_zero, List.set_cons_succ, List.getElem_toArray, List.getElem_cons_zero, List.getElem_cons_succ]
      refine Seq.take_lat (i := 3) (v := .pointer (some ⟨pb, po + kk, none⟩)) rfl (by kernel_rfl) (by kernel_rfl) (by kernel_rfl) (fun _ _ _ h => h) (by rfl) (fun w' hLat => exec_idxI _ _ rfl pb po n pc kk rfl rfl hkn) ?_
      try simp only [Act.put, List.setIfInBounds_toArray, List.set_cons_zero, List.set_cons_succ, List.getElem_toArray, List.getElem_cons_zero, List.getElem_cons_succ]
      refine Seq.take_lat (i := 4) (v := .int .i64 pk) rfl (by kernel_rfl) (by kernel_rfl) (by kernel_rfl) (fun _ _ _ h => h) (by rfl) (fun w' hLat => exec_load1 3 _ (.tmp 132) rfl Try.underlying3 rfl ⟨pb, po + kk, none⟩ rfl _ ((((HX1.out.on hd).on hLat).2.1.cell kk hkn).trans (by rw [HPk.out]))) ?_
      try simp only [Act.put, List.setIfInBounds_toArray, List.set_cons_zero, List.set_cons_succ, List.getElem_toArray, List.getElem_cons_zero, List.getElem_cons_succ]
      refine Seq.only_lat (i := 5) rfl (by kernel_rfl) (fun KK hK => ?_)
      rw [if_pos (by rfl)]
      go_simp
      refine Calls.mono (C4k.out wd (some ⟨ab, ao, none⟩) cap (HX1.out.on hd).1.2) ?_
      rintro e x2 ⟨rfl, hb⟩
      have HX2 : Box (Wth w x2 S (some ⟨ab, ao, none⟩) n cap W (some ⟨pb, po, none⟩) P) := ⟨((HX1.out.on hd)).on hb⟩
      refine hK.out _ _ hb ?_
      clear hb
      clear hK KK
      try simp only [Act.put, List.setIfInBounds_toArray, List.set_cons_zero, List.set_cons_succ, List.getElem_toArray, List.getElem_cons_zero, List.getElem_cons_succ]
      refine Seq.take_lat (i := 6) (v := ?_) rfl (by kernel_rfl) (by kernel_rfl) (by kernel_rfl) (fun _ _ _ h => h) (by rfl) ?_ ?_
      rotate_left
      · intro w' hLat; change Below _ _ _ at hLat; go_simp <;> with_reducible rfl
      try simp only [Act.put, List.setIfInBounds_toArray, List.set_cons_zero, List.set_cons_succ, List.getElem_toArray, List.getElem_cons_zero, List.getElem_cons_succ]
      refine Seq.take_lat (i := 7) (v := ?_) rfl (by kernel_rfl) (by kernel_rfl) (by kernel_rfl) (fun _ _ _ h => h) (by rfl) ?_ ?_
      rotate_left
      · intro w' hLat; change Below _ _ _ at hLat; go_simp <;> with_reducible rfl
      try simp only [Act.put, List.setIfInBounds_toArray, List.set_cons_zero, List.set_cons_succ, List.getElem_toArray, List.getElem_cons_zero, List.getElem_cons_succ]
      refine Seq.take_lat (i := 8) (v := ?_) rfl (by kernel_rfl) (by kernel_rfl) (by kernel_rfl) (fun _ _ _ h => h) (by rfl) ?_ ?_
      rotate_left
      · intro w' hLat; change Below _ _ _ at hLat; go_simp <;> with_reducible rfl
      try simp only [Act.put, List.setIfInBounds_toArray, List.set_cons_zero, List.set_cons_succ, List.getElem_toArray, List.getElem_cons_zero, List.getElem_cons_succ]
      refine Seq.take_lat (i := 9) (v := ?_) rfl (by kernel_rfl) (by kernel_rfl) (by kernel_rfl) (fun _ _ _ h => h) (by rfl) ?_ ?_
      rotate_left
      · intro w' hLat; change Below _ _ _ at hLat; go_simp <;> with_reducible rfl
      try simp only [Act.put, List.setIfInBounds_toArray, List.set_cons_zero, List.set_cons_succ, List.getElem_toArray, List.getElem_cons_zero, List.getElem_cons_succ]
      refine Seq.take_lat (i := 10) (v := ?_) rfl (by kernel_rfl) (by kernel_rfl) (by kernel_rfl) (fun _ _ _ h => h) (by rfl) ?_ ?_
      rotate_left
      · intro w' hLat; change Below _ _ _ at hLat; go_simp <;> with_reducible rfl
      try simp only [Act.put, List.setIfInBounds_toArray, List.set_cons_zero, List.set_cons_succ, List.getElem_toArray, List.getElem_cons_zero, List.getElem_cons_succ]
      refine Seq.take_lat (i := 11) (v := ?_) rfl (by kernel_rfl) (by kernel_rfl) (by kernel_rfl) (fun _ _ _ h => h) (by rfl) ?_ ?_
      rotate_left
      · intro w' hLat; change Below _ _ _ at hLat; go_simp <;> with_reducible rfl
      try simp only [Act.put, List.setIfInBounds_toArray, List.set_cons_zero, List.set_cons_succ, List.getElem_toArray, List.getElem_cons_zero, List.getElem_cons_succ]
      refine Seq.take_lat (i := 12) (v := ?_) rfl (by kernel_rfl) (by kernel_rfl) (by kernel_rfl) (fun _ _ _ h => h) (by rfl) ?_ ?_
      rotate_left
      · intro w' hLat; change Below _ _ _ at hLat; go_simp <;> with_reducible rfl
      try simp only [Act.put, List.setIfInBounds_toArray, List.set_cons_zero, List.set_cons_succ, List.getElem_toArray, List.getElem_cons_zero, List.getElem_cons_succ]
      refine wpAnyH_done (by kernel_rfl) ?_ _
      go_wp2
      go_roundw
      case rel => exact ⟨kk + 1, by omega, by omega, by go_num, HX2⟩
      case measure => simp [intOf]; omega
    · obtain rfl : kk = n := by omega
      have ht1' : (1 : Int) ≤ (t : Int) := by omega
      clear C4
      go_wp2
      refine Seq.begin_any (by kernel_rfl) (fun wd hd => ?_)
      refine Seq.take_lat (i := 0) (v := ?_) rfl (by kernel_rfl) (by kernel_rfl) (by kernel_rfl) (fun _ _ _ h => h) (by rfl) ?_ ?_
      rotate_left
      · intro w' hLat; change Below _ _ _ at hLat; go_simp <;> with_reducible rfl
      try simp only [Act.put, List.setIfInBounds_toArray, List.set_cons_zero, List.set_cons_succ, List.getElem_toArray, List.getElem_cons_zero]
      refine Seq.take_lat (i := 1) (v := .slice (some ⟨ab, ao, none⟩) kk cap) rfl (by kernel_rfl) (by kernel_rfl) (by kernel_rfl) (fun _ _ _ h => h) (by rfl) (fun w' hLat => exec_load1 23 _ (.tmp 148) rfl Try.underlying23 rfl ⟨S, 0, none⟩ rfl _ (((HI.out.on hd).on hLat).1.cell)) ?_
      try simp only [Act.put, List.setIfInBounds_toArray, List.set_cons_zero, List.set_cons_succ, List.getElem_toArray, List.getElem_cons_zero, List.getElem_cons_succ]
      refine Seq.take_lat (i := 2) (v := .agg #[.slice (some ⟨ab, ao, none⟩) kk cap]) rfl (by kernel_rfl) (by kernel_rfl) (by kernel_rfl) (fun _ _ _ h => h) (by rfl) (fun w' hLat => exec_ldS _ rfl S _ rfl (((HI.out.on hd).on hLat).1.1)) ?_
      try simp only [Act.put, List.setIfInBounds_toArray, List.set_cons_zero, List.set_cons_succ, List.getElem_toArray, List.getElem_cons_zero, List.getElem_cons_succ]
      refine Seq.only_lat (i := 3) rfl (by kernel_rfl) (fun KK hK => ?_)
      rw [if_pos (by rfl)]
      go_simp
      refine Calls.mono (CT.out wd (some ⟨ab, ao, none⟩) cap) ?_
      rintro e w8 ⟨rfl, hb⟩
      have H8 : Box (Wth w w8 S (some ⟨ab, ao, none⟩) kk cap W (some ⟨pb, po, none⟩) P) := ⟨((HI.out.on hd)).on hb⟩
      refine hK.out _ _ hb ?_
      clear hb
      clear hK KK
      try simp only [Act.put, List.setIfInBounds_toArray, List.set_cons_zero, List.set_cons_succ, List.getElem_toArray, List.getElem_cons_zero, List.getElem_cons_succ]
      refine Seq.take_lat (i := 4) (v := .pointer (some ⟨ab, ao + t, none⟩)) rfl (by kernel_rfl) (by kernel_rfl) (by kernel_rfl) (fun _ _ _ h => h) (by rfl) (fun w' hLat => exec_idxI _ _ rfl ab ao kk cap t rfl rfl htn) ?_
      try simp only [Act.put, List.setIfInBounds_toArray, List.set_cons_zero, List.set_cons_succ, List.getElem_toArray, List.getElem_cons_zero, List.getElem_cons_succ]
      refine Seq.take_lat (i := 5) (v := .int .i64 1) rfl (by kernel_rfl) (by kernel_rfl) (by kernel_rfl) (fun _ _ _ h => h) (by rfl) (fun w' hLat => exec_load1 3 _ (.tmp 152) rfl Try.underlying3 rfl ⟨ab, ao + t, none⟩ rfl _ (((H8.out.on hLat).1.2.cell t htn).trans (by rw [HWt.out]))) ?_
      try simp only [Act.put, List.setIfInBounds_toArray, List.set_cons_zero, List.set_cons_succ, List.getElem_toArray, List.getElem_cons_zero, List.getElem_cons_succ]
      refine Seq.take_lat (i := 6) (v := ?_) rfl (by kernel_rfl) (by kernel_rfl) (by kernel_rfl) (fun _ _ _ h => h) (by rfl) ?_ ?_
      rotate_left
      · intro w' hLat; change Below _ _ _ at hLat; go_simp <;> with_reducible rfl
      try simp only [Act.put, List.setIfInBounds_toArray, List.set_cons_zero, List.set_cons_succ, List.getElem_toArray, List.getElem_cons_zero, List.getElem_cons_succ]
      refine Seq.take_lat (i := 7) (v := ?_) rfl (by kernel_rfl) (by kernel_rfl) (by kernel_rfl) (fun _ _ _ h => h) (by rfl) ?_ ?_
      rotate_left
      · intro w' hLat; change Below _ _ _ at hLat; go_simp <;> with_reducible rfl
      try simp only [Act.put, List.setIfInBounds_toArray, List.set_cons_zero, List.set_cons_succ, List.getElem_toArray, List.getElem_cons_zero, List.getElem_cons_succ]
      refine Seq.take_lat (i := 8) (v := .agg #[.slice (some ⟨ab, ao, none⟩) kk cap]) rfl (by kernel_rfl) (by kernel_rfl) (by kernel_rfl) (fun _ _ _ h => h) (by rfl) (fun w' hLat => exec_ldS _ rfl S _ rfl ((H8.out.on hLat).1.1)) ?_
      try simp only [Act.put, List.setIfInBounds_toArray, List.set_cons_zero, List.set_cons_succ, List.getElem_toArray, List.getElem_cons_zero, List.getElem_cons_succ]
      refine Seq.only_lat (i := 9) rfl (by kernel_rfl) (fun KK hK => ?_)
      rw [if_pos (by rfl)]
      go_simp
      refine Calls.mono (CT.out w8 (some ⟨ab, ao, none⟩) cap) ?_
      rintro e w9 ⟨rfl, hb⟩
      have H9 : Box (Wth w w9 S (some ⟨ab, ao, none⟩) kk cap W (some ⟨pb, po, none⟩) P) := ⟨(H8.out).on hb⟩
      refine hK.out _ _ hb ?_
      clear hb
      clear hK KK
      try simp only [Act.put, List.setIfInBounds_toArray, List.set_cons_zero, List.set_cons_succ, List.getElem_toArray, List.getElem_cons_zero, List.getElem_cons_succ]
      refine Seq.take_lat (i := 10) (v := ?_) rfl (by kernel_rfl) (by kernel_rfl) (by kernel_rfl) (fun _ _ _ h => h) (by rfl) ?_ ?_
      rotate_left
      · intro w' hLat; change Below _ _ _ at hLat; go_simp <;> with_reducible rfl
      try simp only [Act.put, List.setIfInBounds_toArray, List.set_cons_zero, List.set_cons_succ, List.getElem_toArray, List.getElem_cons_zero, List.getElem_cons_succ]
      refine Seq.take_lat (i := 11) (v := ?_) rfl (by kernel_rfl) (by kernel_rfl) (by kernel_rfl) (fun _ _ _ h => h) (by rfl) ?_ ?_
      rotate_left
      · intro w' hLat; change Below _ _ _ at hLat; go_simp <;> with_reducible rfl
      try simp only [Act.put, List.setIfInBounds_toArray, List.set_cons_zero, List.set_cons_succ, List.getElem_toArray, List.getElem_cons_zero, List.getElem_cons_succ]
      refine Seq.take_lat (i := 12) (v := ?_) rfl (by kernel_rfl) (by kernel_rfl) (by kernel_rfl) (fun _ _ _ h => h) (by rfl) ?_ ?_
      rotate_left
      · intro w' hLat; change Below _ _ _ at hLat; go_simp <;> with_reducible rfl
      try simp only [Act.put, List.setIfInBounds_toArray, List.set_cons_zero, List.set_cons_succ, List.getElem_toArray, List.getElem_cons_zero, List.getElem_cons_succ]
      refine wpAnyH_done (by kernel_rfl) ?_ _
      go_wp2
      go_ret
      exact ⟨rfl, H9.out.2.2⟩

theorem shapeBack_walk (leaves at' : Int) (w : World) (w1 : (Lit.int .u16 leaves).wf = true) (w2 : (Lit.int .u16 at').wf = true) :
    Calls Try.prog 4 #[.int .u16 leaves, .int .u16 at'] w fun e w' => e = .returned (.bool true) ∧ Below w.heap.size w w' := by
  have b1 := bounds_u16 w1
  have b2 := bounds_u16 w2
  obtain ⟨k, hk⟩ : ∃ k : Nat, leaves % 1024 = (k : Int) := ⟨(leaves % 1024).toNat, by omega⟩
  have hs := shp_wid (k + 1) (by omega) (by omega)
  have h6 := hs.hi
  have h2 := hs.lo
  have hb := hs.sum (wid (k + 1)).length
  obtain ⟨T, hT⟩ : ∃ T : Nat, sumTo (wid (k + 1)) (wid (k + 1)).length = (T : Int) := ⟨(sumTo (wid (k + 1)) (wid (k + 1)).length).toNat, by omega⟩
  have hT1 : 1 ≤ T := by
    have h1 := hs.mono 1 (wid (k + 1)).length (by omega)
    have h2 := hs.bd 0 (by omega)
    simp only [sumTo] at h1
    omega
  have hT0 : (0 : Int) < (T : Int) := by omega
  have hm0 : (0 : Int) < ((k + 1 : Nat) : Int) := by omega
  obtain ⟨item, hit⟩ : ∃ p : Nat, at' % (T : Int) = (p : Int) := ⟨(at' % (T : Int)).toNat, by have := Int.emod_nonneg at' (Int.ne_of_gt hT0); omega⟩
  obtain ⟨q, hq⟩ : ∃ p : Nat, at' % ((k + 1 : Nat) : Int) = (p : Int) := ⟨(at' % ((k + 1 : Nat) : Int)).toNat, by have := Int.emod_nonneg at' (Int.ne_of_gt hm0); omega⟩
  have hiT : (item : Int) < (T : Int) := by rw [← hit]; exact Int.emod_lt_of_pos _ hT0
  have hqm : (q : Int) < (wid (k + 1)).getD 0 0 := by rw [wid_zero, ← hq]; exact Int.emod_lt_of_pos _ hm0
  obtain ⟨l, hl, hl1, hl2⟩ := find_level (wid (k + 1)) (wid (k + 1)).length (item : Int) (by omega) (by rw [hT]; exact hiT)
  have hlast : sumTo (wid (k + 1)) ((wid (k + 1)).length - 1) = (T : Int) - 1 := by
    have h1 : sumTo (wid (k + 1)) ((wid (k + 1)).length - 1 + 1) = (T : Int) := by rw [show (wid (k + 1)).length - 1 + 1 = (wid (k + 1)).length by omega]; exact hT
    have h3 := hs.top
    rw [sumTo, h3] at h1
    omega
  refine back_core leaves at' k (k + 1) (wid (k + 1)).length T item q ((wid (k + 1)).length - 1) (T - 1) l (item - sumTo (wid (k + 1)) l) (wid (k + 1)) (pth (wid (k + 1)) q (wid (k + 1)).length) w ⟨by omega, by omega⟩ ⟨by omega, by omega⟩ hk (by omega) (by omega) h6 ⟨by omega, by omega⟩ hit hq (by omega) (by omega) (by omega)
    ⟨wid_zero _⟩ ⟨hs.top⟩ ⟨?_⟩ ⟨?_⟩ ⟨fun x => new_ok _ x (by omega) (by omega)⟩ ⟨fun x a cap h => by have := items_any a _ cap _ x h hs; rw [hT] at this; exact this⟩ ⟨fun x a cap => top_any a _ cap x h2 h6⟩
    ⟨fun x a cap h => level_ok a _ cap l _ _ x h hs hl hl1 hl2⟩ ⟨fun x a cap h => ?_⟩ ⟨fun x a cap h => path_ok a _ cap q _ x h hs hqm⟩ ⟨fun j hj x a cap h => ?_⟩
  · rw [pth_get _ _ _ _ (by omega)]; simp [sumTo]
  · rw [pth_get _ _ _ _ (by omega), hlast, hs.quart_top q hqm]; simp; omega
  · have h1 := item_ok a _ cap l (item - sumTo (wid (k + 1)) l) _ x h hs hl (by omega) (by rw [sumTo] at hl2; omega)
    rw [show sumTo (wid (k + 1)) l + ((item : Int) - sumTo (wid (k + 1)) l) = (item : Int) by omega] at h1
    exact h1
  · have h3 := hs.quart_lt q hqm j hj
    rw [pth_get _ _ _ _ hj]
    have h4 : (0 : Int) ≤ ((q / 4 ^ j : Nat) : Int) := Int.natCast_nonneg _
    generalize ((q / 4 ^ j : Nat) : Int) = z at h3 h4 ⊢
    have h1 := level_ok a _ cap j (sumTo (wid (k + 1)) j + z) _ x h hs hj (by omega) (by rw [sumTo]; omega)
    rw [show sumTo (wid (k + 1)) j + z - sumTo (wid (k + 1)) j = z by omega] at h1
    exact h1
end Go.Proofs.Ytpdponcfgbceaaa
