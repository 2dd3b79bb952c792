/-
  Two cells are held against each other: what Go's == says of them.
-/
import Derived.Test.YtejpbbgnammgkaaX9
import Derived.Laws.StructEq
import Derived.ChangeKeysEq
namespace Go.Proofs.Ytejpbbgnammgkaa
set_option linter.unusedVariables false
open Go.RowKit Plain

theorem part5 (X : List Int) (i : Nat) (h : i < X.length) (w : World) : (part 5 (u8s X) (i * Try.prog.cellsOf 5)).run Try.prog w = .ok (.int .u8 (X.getD i 0)) w := by
  have hc : Try.prog.cellsOf 5 = 1 := by kernel_rfl
  have hagg : (isAgg 5).run Try.prog w = .ok false w := by kernel_rfl
  have hv : (u8s X)[i]? = some (.int .u8 (X.getD i 0)) := by simp [u8s, h]
  rw [hc, Nat.mul_one]
  simp [part, Sem.run_bind, hagg, hv]
theorem eq_items (d n : Nat) (X Y : List Int) (w : World) (hX : X.length = n) (hY : Y.length = n) : ∀ is : List Nat, (∀ i ∈ is, i < n) → (Op.eqItems (d + 1) 5 (Try.prog.cellsOf 5) (u8s X) (u8s Y) is).run Try.prog w = .ok (is.all fun i => X.getD i 0 == Y.getD i 0) w
  | [], _ => by simp [Op.eqItems]
  | i :: is, h => by
    have ih := eq_items d n X Y w hX hY is (fun j hj => h j (List.mem_cons_of_mem _ hj))
    have hi := h i List.mem_cons_self
    have e := run_equalIn_int (P := Try.prog) w d 5 .u8 .u8 (X.getD i 0) (Y.getD i 0) Try.underlying5
    simp only [Op.eqItems, Sem.run_bind, part5 X i (by omega), part5 Y i (by omega), Result.andThen_ok, e, List.all_cons]
    cases hq : (X.getD i 0 == Y.getD i 0)
    · simp
    · simpa using ih
theorem all_eq (n : Nat) (X Y : List Int) (hX : X.length = n) (hY : Y.length = n) : ((List.range n).all fun i => X.getD i 0 == Y.getD i 0) = decide (X = Y) := by
  rw [Bool.eq_iff_iff, List.all_eq_true, decide_eq_true_iff]
  constructor
  · intro h
    apply List.ext_getElem (by omega)
    intro i h1 h2
    have := h i (by simp; omega)
    simpa [List.getD, h1, h2] using this
  · rintro rfl i _
    simp
theorem eq_sumIn (d : Nat) (X Y : List Int) (hX : X.length = 32) (hY : Y.length = 32) (w : World) : (Op.equalIn (d + 1 + 1) 23 (.agg (u8s X)) (.agg (u8s Y))).run Try.prog w = .ok (decide (X = Y)) w := by
  obtain ⟨i0, hi, _⟩ := info_parts info5
  rw [run_equalIn_array w (d + 1) (u8s X) (u8s Y) Try.underlying23 hi, eq_items d 32 X Y w hX hY _ (by simp), all_eq 32 X Y hX hY]
theorem eq_sum (X Y : List Int) (hX : X.length = 32) (hY : Y.length = 32) (w : World) : (binOp .eql 23 (.agg (u8s X)) (.agg (u8s Y))).run Try.prog w = .ok (.bool (decide (X = Y))) w := by
  rw [run_eql_struct, eq_sumIn 9998 X Y hX hY]
  rfl
theorem ext_r {C : Cl} (h : Ok C) : (av C).extract 0 32 = u8s C.r := by
  have hr := h.lr
  apply Array.toList_inj.1
  simp [av, vs, u8s, hr]
theorem ext_t {C : Cl} (h : Ok C) : (av C).extract 36 68 = u8s C.t := by
  have hr := h.lr
  have ht := h.lt
  apply Array.toList_inj.1
  simp [av, vs, u8s, hr, List.take_append, List.drop_append]
  rw [List.drop_of_length_le (by simp [hr]), List.take_nil, List.nil_append, List.take_of_length_le (by simp [ht])]
theorem part_r {C : Cl} (h : Ok C) (w : World) : (part 23 (av C) 0).run Try.prog w = .ok (.agg (u8s C.r)) w := by
  have hagg : (isAgg 23).run Try.prog w = .ok true w := by kernel_rfl
  have hsz : (sizeOf 23).run Try.prog w = .ok 32 w := by kernel_rfl
  simp [part, Sem.run_bind, hagg, ext_r h]
theorem part_t {C : Cl} (h : Ok C) (w : World) : (part 23 (av C) 36).run Try.prog w = .ok (.agg (u8s C.t)) w := by
  have hagg : (isAgg 23).run Try.prog w = .ok true w := by kernel_rfl
  have hsz : (sizeOf 23).run Try.prog w = .ok 32 w := by kernel_rfl
  simp [part, Sem.run_bind, hagg, ext_t h]
theorem part_n {C : Cl} (h : Ok C) (k : Nat) (hk : k < 4) (w : World) : (part 24 (av C) (32 + k)).run Try.prog w = .ok (.int .u64 ([C.v, C.c, C.s, C.n].getD k 0)) w := by
  have hagg : (isAgg 24).run Try.prog w = .ok false w := by kernel_rfl
  simp only [part, Sem.run_bind, hagg, Result.andThen_ok, Bool.false_eq_true, if_false, av_n h k hk]
  rfl
theorem fieldsC : (Try.prog.fieldsOf 26).toList.map (fun f => (f.name != "_", f.type, f.offset)) = [(true, 23, 0), (true, 24, 32), (true, 24, 33), (true, 24, 34), (true, 24, 35), (true, 23, 36)] := by kernel_rfl
theorem eqF_cons (d : Nat) (xs ys : Array Value) (f : Field) (fs : List Field) (hf : (f.name != "_") = true) : Op.eqFields d xs ys (f :: fs) = (do
      let a ← part f.type xs f.offset
      let b ← part f.type ys f.offset
      let r ← Op.equalIn d f.type a b
      if (!r) = true then pure false else Op.eqFields d xs ys fs) := by
  have h : f.name ≠ "_" := by simpa using hf
  rw [Op.eqFields, if_pos h]
theorem eqF_step (d : Nat) (xs ys : Array Value) (f : Field) (fs : List Field) (t : TypeId) (o : Nat) (hf : (f.name != "_") = true) (ht : f.type = t) (ho : f.offset = o) (x y : Value) (w : World) (hx : (part t xs o).run Try.prog w = .ok x w) (hy : (part t ys o).run Try.prog w = .ok y w) (b c : Bool) (he : (Op.equalIn d t x y).run Try.prog w = .ok b w) (hr : (Op.eqFields d xs ys fs).run Try.prog w = .ok c w) :
    (Op.eqFields d xs ys (f :: fs)).run Try.prog w = .ok (b && c) w := by
  subst ht ho
  rw [eqF_cons d xs ys f fs hf]
  simp only [Sem.run_bind, hx, hy, he, Result.andThen_ok]
  cases b
  · simp
  · simpa using hr
/-- Go's == on cells. -/
def eqb (C D : Cl) : Bool := decide (C.r = D.r) && ((C.v == D.v) && ((C.c == D.c) && ((C.s == D.s) && ((C.n == D.n) && (decide (C.t = D.t) && true)))))
theorem eqb_iff (C D : Cl) : eqb C D = true ↔ C = D := by
  obtain ⟨r, v, c, s, n, t⟩ := C
  obtain ⟨r', v', c', s', n', t'⟩ := D
  simp [eqb]
theorem eqb_self (C : Cl) : eqb C C = true := (eqb_iff C C).2 rfl
theorem eqb_ne {C D : Cl} (h : C ≠ D) : eqb C D = false := by
  cases hq : eqb C D
  · rfl
  · exact absurd ((eqb_iff C D).1 hq) h
theorem eqF_all {C D : Cl} (hC : Ok C) (hD : Ok D) (w : World) : (Op.eqFields 9999 (av C) (av D) (Try.prog.fieldsOf 26).toList).run Try.prog w = .ok (eqb C D) w := by
  have hF := fieldsC
  generalize (Try.prog.fieldsOf 26).toList = fs at hF
  have hl : fs.length = 6 := by simpa using congrArg List.length hF
  match fs, hl, hF with
  | [f0, f1, f2, f3, f4, f5], _, hF =>
    simp only [List.map_cons, List.map_nil, List.cons.injEq, Prod.mk.injEq, and_true] at hF
    obtain ⟨⟨a0, b0, c0⟩, ⟨a1, b1, c1⟩, ⟨a2, b2, c2⟩, ⟨a3, b3, c3⟩, ⟨a4, b4, c4⟩, ⟨a5, b5, c5⟩⟩ := hF
    have i := fun (x y : Int) => run_equalIn_int (P := Try.prog) w 9998 24 .u64 .u64 x y Try.underlying24
    exact eqF_step 9999 _ _ f0 _ _ _ a0 b0 c0 _ _ w (part_r hC w) (part_r hD w) _ _ (eq_sumIn 9997 _ _ hC.lr hD.lr w)
      (eqF_step 9999 _ _ f1 _ _ _ a1 b1 c1 _ _ w (part_n hC 0 (by omega) w) (part_n hD 0 (by omega) w) _ _ (i _ _)
      (eqF_step 9999 _ _ f2 _ _ _ a2 b2 c2 _ _ w (part_n hC 1 (by omega) w) (part_n hD 1 (by omega) w) _ _ (i _ _)
      (eqF_step 9999 _ _ f3 _ _ _ a3 b3 c3 _ _ w (part_n hC 2 (by omega) w) (part_n hD 2 (by omega) w) _ _ (i _ _)
      (eqF_step 9999 _ _ f4 _ _ _ a4 b4 c4 _ _ w (part_n hC 3 (by omega) w) (part_n hD 3 (by omega) w) _ _ (i _ _)
      (eqF_step 9999 _ _ f5 _ _ _ a5 b5 c5 _ _ w (part_t hC w) (part_t hD w) _ true (eq_sumIn 9997 _ _ hC.lt hD.lt w) (by simp [Op.eqFields]))))))
theorem equalIn_cell {C D : Cl} (hC : Ok C) (hD : Ok D) (w : World) : (Op.equalIn 10000 26 (.agg (av C)) (.agg (av D))).run Try.prog w = .ok (eqb C D) w := by
  rw [show (10000 : Nat) = 9999 + 1 from rfl, run_equalIn_struct w 9999 26 (av C) (av D) (by kernel_rfl) (by kernel_rfl)]
  exact eqF_all hC hD w
theorem eq_cell {C D : Cl} (hC : Ok C) (hD : Ok D) (w : World) : (binOp .eql 26 (.agg (av C)) (.agg (av D))).run Try.prog w = .ok (.bool (eqb C D)) w := by
  rw [run_eql_struct, equalIn_cell hC hD]
  rfl
theorem neq_cell {C D : Cl} (hC : Ok C) (hD : Ok D) (w : World) : (binOp .neq 26 (.agg (av C)) (.agg (av D))).run Try.prog w = .ok (.bool (!eqb C D)) w := by
  rw [run_neq_struct, equalIn_cell hC hD]
  rfl
end Go.Proofs.Ytejpbbgnammgkaa
