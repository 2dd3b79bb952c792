/-
  Go's == on an inode and itself, the code's and the reference's.
-/
import Derived.Test.YtpdggopkalbbeaaNM
namespace Go.Proofs.Ytpdggopkalbbeaa
set_option linter.unusedVariables false
open Go.RowKit Plain

def fiveL (N : Nd) : List Int := [N.a, N.b, N.c, N.s, N.d]
theorem eq_fiveIn (d : Nat) (X Y : List Int) (hX : X.length = 5) (hY : Y.length = 5) (w : World) : (Op.equalIn (d + 1 + 1) 33 (.agg (u16s X)) (.agg (u16s Y))).run Try.prog w = .ok (decide (X = Y)) w := by
  obtain ⟨i0, hi, _⟩ := info_parts info16
  rw [run_equalIn_array w (d + 1) (u16s X) (u16s Y) Try.underlying33 hi, eq_items d 5 X Y w hX hY _ (by simp), all_eq 5 X Y hX hY]
theorem fieldsN : (Try.prog.fieldsOf 26).toList.map (fun f => (f.name != "_", f.type, f.offset)) = [(true, 5, 0), (true, 22, 1), (true, 23, 2), (true, 24, 3), (true, 22, 6), (true, 22, 7)] := by kernel_rfl
theorem fieldsR : (Try.prog.fieldsOf 35).toList.map (fun f => (f.name != "_", f.type, f.offset)) = [(true, 5, 0), (true, 22, 1), (true, 23, 2), (true, 33, 3)] := by kernel_rfl
theorem part_three (N : Nd) (w : World) : (part 24 (nc N) 3).run Try.prog w = .ok (.agg (u16s (three N))) w := by kernel_rfl
theorem part_five (N : Nd) (w : World) : (part 33 (nc N) 3).run Try.prog w = .ok (.agg (u16s (fiveL N))) w := by kernel_rfl
theorem equalIn_N (N : Nd) (w : World) : (Op.equalIn 10000 26 (.agg (nc N)) (.agg (nc N))).run Try.prog w = .ok true w := by
  rw [show (10000 : Nat) = 9999 + 1 from rfl, run_equalIn_struct w 9999 26 _ _ (by kernel_rfl) (by kernel_rfl)]
  have hF := fieldsN
  generalize (Try.prog.fieldsOf 26).toList = fs at hF
  have hl : fs.length = 6 := by simpa using congrArg List.length hF
  have q8 : ∀ x : Int, (Op.equalIn 9999 5 (.int .u8 x) (.int .u8 x)).run Try.prog w = .ok true w := fun x => by
    have := run_equalIn_int (P := Try.prog) w 9998 5 .u8 .u8 x x Try.underlying5
    simpa using this
  have q16 : ∀ x : Int, (Op.equalIn 9999 22 (.int .u16 x) (.int .u16 x)).run Try.prog w = .ok true w := fun x => by
    have := run_equalIn_int (P := Try.prog) w 9998 22 .u16 .u16 x x Try.underlying22
    simpa using this
  have q32 : ∀ x : Int, (Op.equalIn 9999 23 (.int .u32 x) (.int .u32 x)).run Try.prog w = .ok true w := fun x => by
    have := run_equalIn_int (P := Try.prog) w 9998 23 .u32 .u32 x x Try.underlying23
    simpa using this
  have q3 : (Op.equalIn 9999 24 (.agg (u16s (three N))) (.agg (u16s (three N)))).run Try.prog w = .ok true w := by
    have := eq_threeIn 9997 (three N) (three N) rfl rfl w
    simpa using this
  match fs, hl, hF with
  | [f0, f1, f2, f3, f4, f5], _, hF =>
    simp only [List.map_cons, List.map_nil, List.cons.injEq, Prod.mk.injEq, and_true] at hF
    obtain ⟨⟨a0, b0, c0⟩, ⟨a1, b1, c1⟩, ⟨a2, b2, c2⟩, ⟨a3, b3, c3⟩, ⟨a4, b4, c4⟩, ⟨a5, b5, c5⟩⟩ := hF
    exact eqF_step 9999 _ _ f0 _ _ _ a0 b0 c0 _ _ w (by kernel_rfl) (by kernel_rfl) true true (q8 N.k)
      (eqF_step 9999 _ _ f1 _ _ _ a1 b1 c1 _ _ w (by kernel_rfl) (by kernel_rfl) true true (q16 N.l)
      (eqF_step 9999 _ _ f2 _ _ _ a2 b2 c2 _ _ w (by kernel_rfl) (by kernel_rfl) true true (q32 N.z)
      (eqF_step 9999 _ _ f3 _ _ _ a3 b3 c3 _ _ w (part_three N w) (part_three N w) true true q3
      (eqF_step 9999 _ _ f4 _ _ _ a4 b4 c4 _ _ w (by kernel_rfl) (by kernel_rfl) true true (q16 N.s)
      (eqF_step 9999 _ _ f5 _ _ _ a5 b5 c5 _ _ w (by kernel_rfl) (by kernel_rfl) true true (q16 N.d) (by simp [Op.eqFields]))))))
theorem equalIn_R (N : Nd) (w : World) : (Op.equalIn 10000 35 (.agg (nc N)) (.agg (nc N))).run Try.prog w = .ok true w := by
  rw [show (10000 : Nat) = 9999 + 1 from rfl, run_equalIn_struct w 9999 35 _ _ (by kernel_rfl) (by kernel_rfl)]
  have hF := fieldsR
  generalize (Try.prog.fieldsOf 35).toList = fs at hF
  have hl : fs.length = 4 := by simpa using congrArg List.length hF
  have q8 : ∀ x : Int, (Op.equalIn 9999 5 (.int .u8 x) (.int .u8 x)).run Try.prog w = .ok true w := fun x => by
    have := run_equalIn_int (P := Try.prog) w 9998 5 .u8 .u8 x x Try.underlying5
    simpa using this
  have q16 : ∀ x : Int, (Op.equalIn 9999 22 (.int .u16 x) (.int .u16 x)).run Try.prog w = .ok true w := fun x => by
    have := run_equalIn_int (P := Try.prog) w 9998 22 .u16 .u16 x x Try.underlying22
    simpa using this
  have q32 : ∀ x : Int, (Op.equalIn 9999 23 (.int .u32 x) (.int .u32 x)).run Try.prog w = .ok true w := fun x => by
    have := run_equalIn_int (P := Try.prog) w 9998 23 .u32 .u32 x x Try.underlying23
    simpa using this
  have q5 : (Op.equalIn 9999 33 (.agg (u16s (fiveL N))) (.agg (u16s (fiveL N)))).run Try.prog w = .ok true w := by
    have := eq_fiveIn 9997 (fiveL N) (fiveL N) rfl rfl w
    simpa using this
  match fs, hl, hF with
  | [f0, f1, f2, f3], _, hF =>
    simp only [List.map_cons, List.map_nil, List.cons.injEq, Prod.mk.injEq, and_true] at hF
    obtain ⟨⟨a0, b0, c0⟩, ⟨a1, b1, c1⟩, ⟨a2, b2, c2⟩, ⟨a3, b3, c3⟩⟩ := hF
    exact eqF_step 9999 _ _ f0 _ _ _ a0 b0 c0 _ _ w (by kernel_rfl) (by kernel_rfl) true true (q8 N.k)
      (eqF_step 9999 _ _ f1 _ _ _ a1 b1 c1 _ _ w (by kernel_rfl) (by kernel_rfl) true true (q16 N.l)
      (eqF_step 9999 _ _ f2 _ _ _ a2 b2 c2 _ _ w (by kernel_rfl) (by kernel_rfl) true true (q32 N.z)
      (eqF_step 9999 _ _ f3 _ _ _ a3 b3 c3 _ _ w (part_five N w) (part_five N w) true true q5 (by simp [Op.eqFields]))))
theorem guardN : Try.prog.eqGuardType Try.prog.depth 26 = false := by kernel_rfl
theorem guardR : Try.prog.eqGuardType Try.prog.depth 35 = false := by kernel_rfl
theorem exec_neN {o : Oper} {ρ : Operand → Value} {w' : World} (x y : Operand) (ty : TypeId) (ho : o.op = .binOp .neq 26 x y ty) (N : Nd) (hx : ρ x = .agg (nc N)) (hy : ρ y = .agg (nc N)) :
    (execOp ρ o).run Try.prog w' = .ok (.value (.bool false)) w' := by
  have h : (binOp .neq 26 (.agg (nc N)) (.agg (nc N))).run Try.prog w' = .ok (.bool false) w' := by
    rw [run_neq_struct, equalIn_N]; rfl
  unfold execOp
  simp only [ho, hx, hy, Sem.run_bind, run_eqGuard_agg w' .neq 26 x y _ _ guardN, h, Result.andThen_ok]
  rfl
theorem exec_neR {o : Oper} {ρ : Operand → Value} {w' : World} (x y : Operand) (ty : TypeId) (ho : o.op = .binOp .neq 35 x y ty) (N : Nd) (hx : ρ x = .agg (nc N)) (hy : ρ y = .agg (nc N)) :
    (execOp ρ o).run Try.prog w' = .ok (.value (.bool false)) w' := by
  have h : (binOp .neq 35 (.agg (nc N)) (.agg (nc N))).run Try.prog w' = .ok (.bool false) w' := by
    rw [run_neq_struct, equalIn_R]; rfl
  unfold execOp
  simp only [ho, hx, hy, Sem.run_bind, run_eqGuard_agg w' .neq 35 x y _ _ guardR, h, Result.andThen_ok]
  rfl
end Go.Proofs.Ytpdggopkalbbeaa
