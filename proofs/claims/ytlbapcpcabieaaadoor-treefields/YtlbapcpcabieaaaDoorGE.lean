/-
  TreeFields, walked.
-/
import Derived.Test.YtlbapcpcabieaaaDoorG8
import Derived.Test.YtlbapcpcabieaaaDoorV4
namespace Go.Proofs.YtlbapcpcabieaaaDoor
set_option linter.unusedVariables false
open Go.RowKit Plain

theorem exec_load1 {P : Program} {o : Oper} {ρ : Operand → Value} {w' : World} (t : TypeId) (d : TypeDesc) (x : Operand) (ho : o.op = .load t x) (hu : P.underlying t = some d) (hd : d.isRow = false) (ad : Addr) (hx : ρ x = .pointer (some ad)) (v : Value) (hc : w'.cell? ad = some v) :
    (execOp ρ o).run P w' = .ok (.value v) w' := by
  have hagg : (isAgg t).run P w' = .ok false w' := by
    unfold isAgg
    rw [Sem.run_bind, run_underlying hu w']
    cases d <;> simp_all
  unfold execOp
  simp [ho, hx, Instr.loadAt, Instr.sureAddr, loadVar, Sem.run_bind, hagg, load, Sem.run, hc]
theorem exec_nen {o : Oper} {ρ : Operand → Value} {w' : World} (x y : Operand) (ty : TypeId) (ho : o.op = .binOp .neq 3 x y ty) (n : Int) (hx : ρ x = .int .i64 n) (hy : ρ y = .int .i64 n) :
    (execOp ρ o).run Tryd.prog w' = .ok (.value (.bool false)) w' := by
  unfold execOp
  simp [ho, hx, hy, eqGuard, binOp, Op.intCmp]
theorem exec_addE {o : Oper} {ρ : Operand → Value} {w' : World} (x y : Operand) (ty : TypeId) (ho : o.op = .binOp .add 3 x y ty) (a b v : Int) (e : a + b = v) (hv : -9223372036854775808 ≤ v ∧ v ≤ 9223372036854775807) (hx : ρ x = .int .i64 a) (hy : ρ y = .int .i64 b) :
    (execOp ρ o).run Tryd.prog w' = .ok (.value (.int .i64 v)) w' := by
  have hw : IntKind.i64.wrap (a + b) = v := by rw [IntKind.wrap_i64]; omega
  unfold execOp
  simp [ho, hx, hy, eqGuard, binOp, Op.intArith, hw]
theorem exec_mulE {o : Oper} {ρ : Operand → Value} {w' : World} (x y : Operand) (ty : TypeId) (ho : o.op = .binOp .mul 3 x y ty) (a b v : Int) (e : a * b = v) (hv : -9223372036854775808 ≤ v ∧ v ≤ 9223372036854775807) (hx : ρ x = .int .i64 a) (hy : ρ y = .int .i64 b) :
    (execOp ρ o).run Tryd.prog w' = .ok (.value (.int .i64 v)) w' := by
  have hw : IntKind.i64.wrap (a * b) = v := by rw [IntKind.wrap_i64, e]; omega
  unfold execOp
  simp [ho, hx, hy, eqGuard, binOp, Op.intArith, hw]
theorem exec_lenE {o : Oper} {ρ : Operand → Value} {w' : World} (x : Operand) (ho : o.op = .call { callee := .builtin .len, args := #[x], argTypes := #[29] }) (a : Option Addr) (n cap : Nat) (hx : ρ x = .slice a n cap) :
    (execOp ρ o).run Tryd.prog w' = .ok (.value (.int .i64 (n : Int))) w' := by
  unfold execOp
  simp [ho, hx, resolve, invoke, builtin, Builtin.len_]
  rfl
theorem exec_eqU {o : Oper} {ρ : Operand → Value} {w' : World} (x y : Operand) (ty : TypeId) (ho : o.op = .binOp .eql 24 x y ty) (a b : Int) (hx : ρ x = .int .u64 a) (hy : ρ y = .int .u64 b) :
    (execOp ρ o).run Tryd.prog w' = .ok (.value (.bool (a == b))) w' := by
  unfold execOp
  simp [ho, hx, hy, eqGuard, binOp, Op.intCmp]
theorem exec_neT {o : Oper} {ρ : Operand → Value} {w' : World} (x y : Operand) (ty : TypeId) (ho : o.op = .binOp .neq 9 x y ty) (A B : List Int) (hA : Byt A) (hB : Byt B) (c : Bool) (hc : (!decide (A = B)) = c) (hx : ρ x = .string (strOfNums A)) (hy : ρ y = .string (strOfNums B)) :
    (execOp ρ o).run Tryd.prog w' = .ok (.value (.bool c)) w' := by
  rw [exec_strN x y ty ho A B hA hB hx hy, hc]
theorem exec_eqT {o : Oper} {ρ : Operand → Value} {w' : World} (x y : Operand) (ty : TypeId) (ho : o.op = .binOp .eql 9 x y ty) (A B : List Int) (hA : Byt A) (hB : Byt B) (c : Bool) (hc : decide (A = B) = c) (hx : ρ x = .string (strOfNums A)) (hy : ρ y = .string (strOfNums B)) :
    (execOp ρ o).run Tryd.prog w' = .ok (.value (.bool c)) w' := by
  rw [exec_str x y ty ho A B hA hB hx hy, hc]
theorem exec_idxN {op : Oper} {ρ : Operand → Value} {w' : World} (x y : Operand) (ho : op.op = .indexAddr 28 x y) (S j : Nat) (hx : ρ x = .pointer (some ⟨S, 0, none⟩)) (hy : ρ y = .int .i64 (j : Int)) (hj : j < 4) :
    (execOp ρ op).run Tryd.prog w' = .ok (.value (.pointer (some ⟨S, j * 33, none⟩))) w' := by
  have hc : (0 : Int) ≤ (j : Int) ∧ (j : Int) < 4 := by omega
  have hs : (sizeOf 26).run Tryd.prog w' = .ok 33 w' := by kernel_rfl
  unfold execOp
  simp [ho, hx, hy, Instr.indexAt, asIntOf, Sem.run_bind, run_underlying Tryd.underlying28, hc, Addr.add_mid, Instr.sureAddr]
  intro hh; omega
theorem exec_fld0 {op : Oper} {ρ : Operand → Value} {w' : World} (x : Operand) (ho : op.op = .fieldAddr 26 x 0) (S q : Nat) (hx : ρ x = .pointer (some ⟨S, q, none⟩)) :
    (execOp ρ op).run Tryd.prog w' = .ok (.value (.pointer (some ⟨S, q, none⟩))) w' := by
  unfold execOp
  simp [ho, hx, Instr.fieldAt, Instr.sureAddr, Sem.run_bind, run_underlying Tryd.underlying26, fieldPlace, Addr.add_mid]
theorem exec_fld1 {op : Oper} {ρ : Operand → Value} {w' : World} (x : Operand) (ho : op.op = .fieldAddr 26 x 1) (S q : Nat) (hx : ρ x = .pointer (some ⟨S, q, none⟩)) :
    (execOp ρ op).run Tryd.prog w' = .ok (.value (.pointer (some ⟨S, q + 32, none⟩))) w' := by
  unfold execOp
  simp [ho, hx, Instr.fieldAt, Instr.sureAddr, Sem.run_bind, run_underlying Tryd.underlying26, fieldPlace, Addr.add_mid]
theorem exec_fld1' {op : Oper} {ρ : Operand → Value} {w' : World} (x : Operand) (ho : op.op = .fieldAddr 26 x 1) (S : Nat) (hx : ρ x = .pointer (some ⟨S, 0, none⟩)) :
    (execOp ρ op).run Tryd.prog w' = .ok (.value (.pointer (some ⟨S, 32, none⟩))) w' := by
  rw [exec_fld1 x ho S 0 hx, Nat.zero_add]
end Go.Proofs.YtlbapcpcabieaaaDoor
