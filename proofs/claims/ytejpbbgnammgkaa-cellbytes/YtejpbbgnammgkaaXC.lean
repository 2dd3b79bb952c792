/-
  What == answers as one operation of a statement.
-/
import Derived.Test.YtejpbbgnammgkaaXB
namespace Go.Proofs.Ytejpbbgnammgkaa
set_option linter.unusedVariables false
open Go.RowKit Plain

theorem guardC : Try.prog.eqGuardType Try.prog.depth 26 = false := by kernel_rfl
theorem guardS : Try.prog.eqGuardType Try.prog.depth 23 = false := by kernel_rfl
theorem exec_eqC {o : Oper} {ρ : Operand → Value} {w' : World} (x y : Operand) (ty : TypeId) (ho : o.op = .binOp .eql 26 x y ty) (A B : Cl) (hA : Ok A) (hB : Ok B) (hx : ρ x = .agg (av A)) (hy : ρ y = .agg (av B)) :
    (execOp ρ o).run Try.prog w' = .ok (.value (.bool (eqb A B))) w' := by
  unfold execOp
  simp only [ho, hx, hy, Sem.run_bind, run_eqGuard_agg w' .eql 26 x y _ _ guardC, eq_cell hA hB, Result.andThen_ok]
  rfl
theorem exec_neC {o : Oper} {ρ : Operand → Value} {w' : World} (x y : Operand) (ty : TypeId) (ho : o.op = .binOp .neq 26 x y ty) (A B : Cl) (hA : Ok A) (hB : Ok B) (hx : ρ x = .agg (av A)) (hy : ρ y = .agg (av B)) :
    (execOp ρ o).run Try.prog w' = .ok (.value (.bool (!eqb A B))) w' := by
  unfold execOp
  simp only [ho, hx, hy, Sem.run_bind, run_eqGuard_agg w' .neq 26 x y _ _ guardC, neq_cell hA hB, Result.andThen_ok]
  rfl
theorem exec_eqS {o : Oper} {ρ : Operand → Value} {w' : World} (x y : Operand) (ty : TypeId) (ho : o.op = .binOp .eql 23 x y ty) (A B : List Int) (hA : A.length = 32) (hB : B.length = 32) (hx : ρ x = .agg (u8s A)) (hy : ρ y = .agg (u8s B)) :
    (execOp ρ o).run Try.prog w' = .ok (.value (.bool (decide (A = B)))) w' := by
  unfold execOp
  simp only [ho, hx, hy, Sem.run_bind, run_eqGuard_agg w' .eql 23 x y _ _ guardS, eq_sum A B hA hB, Result.andThen_ok]
  rfl
/-- Strings of bytes are the same just if the bytes are. -/
theorem exec_str {o : Oper} {ρ : Operand → Value} {w' : World} (x y : Operand) (ty : TypeId) (ho : o.op = .binOp .eql 9 x y ty) (A B : List Int) (hA : Byt A) (hB : Byt B) (hx : ρ x = .string (strOfNums A)) (hy : ρ y = .string (strOfNums B)) :
    (execOp ρ o).run Try.prog w' = .ok (.value (.bool (decide (A = B)))) w' := by
  have e := str_beq A B hA hB
  unfold execOp
  simp [ho, hx, hy, eqGuard, binOp, Op.stringOp, e]
theorem exec_strN {o : Oper} {ρ : Operand → Value} {w' : World} (x y : Operand) (ty : TypeId) (ho : o.op = .binOp .neq 9 x y ty) (A B : List Int) (hA : Byt A) (hB : Byt B) (hx : ρ x = .string (strOfNums A)) (hy : ρ y = .string (strOfNums B)) :
    (execOp ρ o).run Try.prog w' = .ok (.value (.bool (!decide (A = B)))) w' := by
  have e := str_beq A B hA hB
  unfold execOp
  simp [ho, hx, hy, eqGuard, binOp, Op.stringOp, e]
theorem exec_strC {o : Oper} {ρ : Operand → Value} {w' : World} (x y : Operand) (ty : TypeId) (ho : o.op = .binOp .eql 9 x y ty) (A B : Cl) (hA : Ok A) (hB : Ok B) (hx : ρ x = .string (strOfNums (cb A))) (hy : ρ y = .string (strOfNums (cb B))) :
    (execOp ρ o).run Try.prog w' = .ok (.value (.bool (eqb A B))) w' := by
  rw [exec_str x y ty ho (cb A) (cb B) (byt_cb hA) (byt_cb hB) hx hy]
  congr 3
  rw [Bool.eq_iff_iff, decide_eq_true_iff, cb_inj hA hB, eqb_iff]
theorem exec_bb {o : Oper} {ρ : Operand → Value} {w' : World} (x y : Operand) (ty : TypeId) (ho : o.op = .binOp .eql 4 x y ty) (b : Bool) (hx : ρ x = .bool b) (hy : ρ y = .bool b) :
    (execOp ρ o).run Try.prog w' = .ok (.value (.bool true)) w' := by
  unfold execOp
  simp only [ho, hx, hy, Sem.run_bind, eqGuard]
  cases b <;> rfl
end Go.Proofs.Ytejpbbgnammgkaa
