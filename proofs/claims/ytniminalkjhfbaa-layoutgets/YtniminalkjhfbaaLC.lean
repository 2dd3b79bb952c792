/-
  What the function Get of package layout answers, for any bytes; what == says of two layouts.
-/
import Derived.Test.YtniminalkjhfbaaLB
import Derived.ChangeKeysEq
namespace Go.Proofs.Ytniminalkjhfbaa
set_option linter.unusedVariables false
open Go.RowKit Plain

set_option maxHeartbeats 400000 in
theorem equal_any (a b : Option Addr) (n m ca cb : Nat) (A B : List Int) (c : Bool) (w : World) (hA : Bytes w a n A) (hB : Bytes w b m B) (hc : decide (A = B) = c) :
    Calls Try.prog 23 #[.slice a n ca, .slice b m cb] w fun e w' => e = .returned (.bool c) ∧ w = w' := by
  subst hc
  have ba := hA.2.1
  have bb := hB.2.1
  go_enter Try.func23, Try.ntmps23
  go_wp2_with (first
    | (refine wpList_run rfl _ _ (exec_conv (.tmp 5) rfl rfl hA) ?_)
    | (refine wpList_run rfl _ _ (exec_conv (.tmp 7) rfl rfl hB) ?_)
    | (refine wpList_run rfl _ _ (exec_str (.tmp 6) (.tmp 8) _ rfl A B ba bb rfl rfl) ?_))
  go_ret
  exact ⟨rfl, rfl⟩
theorem exec_ldL {o : Oper} {ρ : Operand → Value} {w' : World} (x : Operand) (ho : o.op = .load 24 x) (S : Nat) (b i t d : Int) (hx : ρ x = .pointer (some ⟨S, 0, none⟩)) (hB : Lay w' S b i t d) : (execOp ρ o).run Try.prog w' = .ok (.value (.agg (lc b i t d))) w' := by
  unfold execOp
  simp only [ho, hx, Instr.loadAt, Instr.sureAddr, Sem.run_bind, Sem.run_pure, Result.andThen_ok, run_loadVar_row w' S 24 24 (lc b i t d) (0, 0) _ hB Try.underlying24 rfl infoL]
theorem exec_ldM {o : Oper} {ρ : Operand → Value} {w' : World} (x : Operand) (ho : o.op = .load 28 x) (S : Nat) (b i t d : Int) (hx : ρ x = .pointer (some ⟨S, 0, none⟩)) (hB : Lay' w' S b i t d) : (execOp ρ o).run Try.prog w' = .ok (.value (.agg (lc b i t d))) w' := by
  unfold execOp
  simp only [ho, hx, Instr.loadAt, Instr.sureAddr, Sem.run_bind, Sem.run_pure, Result.andThen_ok, run_loadVar_row w' S 28 28 (lc b i t d) (0, 0) _ hB Try.underlying28 rfl infoM]
theorem fieldsL : (Try.prog.fieldsOf 24).toList.map (fun f => (f.name != "_", f.type, f.offset)) = [(true, 3, 0), (true, 3, 1), (true, 3, 2), (true, 3, 3)] := by kernel_rfl
theorem fieldsM : (Try.prog.fieldsOf 28).toList.map (fun f => (f.name != "_", f.type, f.offset)) = [(true, 3, 0), (true, 3, 1), (true, 3, 2), (true, 3, 3)] := by kernel_rfl
theorem equalIn_L (d : Nat) (a b c e a' b' c' e' : Int) (w : World) : (Op.equalIn (d + 2) 24 (.agg (lc a b c e)) (.agg (lc a' b' c' e'))).run Try.prog w = .ok (a == a' && (b == b' && (c == c' && (e == e' && true)))) w := by
  rw [show d + 2 = (d + 1) + 1 from rfl, run_equalIn_struct w (d + 1) 24 _ _ (by kernel_rfl) (by kernel_rfl)]
  have hF := fieldsL
  generalize (Try.prog.fieldsOf 24).toList = fs at hF
  have hl : fs.length = 4 := by simpa using congrArg List.length hF
  have q := fun x y : Int => run_equalIn_int (P := Try.prog) w d 3 .i64 .i64 x y Try.underlying3
  match fs, hl, hF with
  | [f0, f1, f2, f3], _, hF =>
    simp only [List.map_cons, List.map_nil, List.cons.injEq, Prod.mk.injEq, and_true] at hF
    obtain ⟨⟨a0, b0, c0⟩, ⟨a1, b1, c1⟩, ⟨a2, b2, c2⟩, ⟨a3, b3, c3⟩⟩ := hF
    exact eqF_step (d + 1) _ _ f0 _ _ _ a0 b0 c0 _ _ w (by kernel_rfl) (by kernel_rfl) _ _ (q a a')
      (eqF_step (d + 1) _ _ f1 _ _ _ a1 b1 c1 _ _ w (by kernel_rfl) (by kernel_rfl) _ _ (q b b')
      (eqF_step (d + 1) _ _ f2 _ _ _ a2 b2 c2 _ _ w (by kernel_rfl) (by kernel_rfl) _ _ (q c c')
      (eqF_step (d + 1) _ _ f3 _ _ _ a3 b3 c3 _ _ w (by kernel_rfl) (by kernel_rfl) _ _ (q e e') (by simp [Op.eqFields]))))
theorem guardL : Try.prog.eqGuardType Try.prog.depth 24 = false := by kernel_rfl
theorem exec_eqL {o : Oper} {ρ : Operand → Value} {w' : World} (x y : Operand) (ty : TypeId) (ho : o.op = .binOp .eql 24 x y ty) (a b c e a' b' c' e' : Int) (r : Bool) (hr : (a == a' && (b == b' && (c == c' && (e == e' && true)))) = r) (hx : ρ x = .agg (lc a b c e)) (hy : ρ y = .agg (lc a' b' c' e')) :
    (execOp ρ o).run Try.prog w' = .ok (.value (.bool r)) w' := by
  have h : (binOp .eql 24 (.agg (lc a b c e)) (.agg (lc a' b' c' e'))).run Try.prog w' = .ok (.bool r) w' := by
    unfold lc
    rw [run_eql_struct]
    have := equalIn_L 9998 a b c e a' b' c' e' w'
    unfold lc at this
    rw [this, hr]; rfl
  unfold execOp
  simp [ho, hx, hy, eqGuard, h]
theorem exec_neL {o : Oper} {ρ : Operand → Value} {w' : World} (x y : Operand) (ty : TypeId) (ho : o.op = .binOp .neq 24 x y ty) (a b c e a' b' c' e' : Int) (r : Bool) (hr : (a == a' && (b == b' && (c == c' && (e == e' && true)))) = r) (hx : ρ x = .agg (lc a b c e)) (hy : ρ y = .agg (lc a' b' c' e')) :
    (execOp ρ o).run Try.prog w' = .ok (.value (.bool (!r))) w' := by
  have h : (binOp .neq 24 (.agg (lc a b c e)) (.agg (lc a' b' c' e'))).run Try.prog w' = .ok (.bool (!r)) w' := by
    unfold lc
    rw [run_neq_struct]
    have := equalIn_L 9998 a b c e a' b' c' e' w'
    unfold lc at this
    rw [this, hr]; rfl
  unfold execOp
  simp [ho, hx, hy, eqGuard, h]
theorem equalIn_M (d : Nat) (a b c e a' b' c' e' : Int) (w : World) : (Op.equalIn (d + 2) 28 (.agg (lc a b c e)) (.agg (lc a' b' c' e'))).run Try.prog w = .ok (a == a' && (b == b' && (c == c' && (e == e' && true)))) w := by
  rw [show d + 2 = (d + 1) + 1 from rfl, run_equalIn_struct w (d + 1) 28 _ _ (by kernel_rfl) (by kernel_rfl)]
  have hF := fieldsM
  generalize (Try.prog.fieldsOf 28).toList = fs at hF
  have hl : fs.length = 4 := by simpa using congrArg List.length hF
  have q := fun x y : Int => run_equalIn_int (P := Try.prog) w d 3 .i64 .i64 x y Try.underlying3
  match fs, hl, hF with
  | [f0, f1, f2, f3], _, hF =>
    simp only [List.map_cons, List.map_nil, List.cons.injEq, Prod.mk.injEq, and_true] at hF
    obtain ⟨⟨a0, b0, c0⟩, ⟨a1, b1, c1⟩, ⟨a2, b2, c2⟩, ⟨a3, b3, c3⟩⟩ := hF
    exact eqF_step (d + 1) _ _ f0 _ _ _ a0 b0 c0 _ _ w (by kernel_rfl) (by kernel_rfl) _ _ (q a a')
      (eqF_step (d + 1) _ _ f1 _ _ _ a1 b1 c1 _ _ w (by kernel_rfl) (by kernel_rfl) _ _ (q b b')
      (eqF_step (d + 1) _ _ f2 _ _ _ a2 b2 c2 _ _ w (by kernel_rfl) (by kernel_rfl) _ _ (q c c')
      (eqF_step (d + 1) _ _ f3 _ _ _ a3 b3 c3 _ _ w (by kernel_rfl) (by kernel_rfl) _ _ (q e e') (by simp [Op.eqFields]))))
theorem guardM : Try.prog.eqGuardType Try.prog.depth 28 = false := by kernel_rfl
theorem exec_eqM {o : Oper} {ρ : Operand → Value} {w' : World} (x y : Operand) (ty : TypeId) (ho : o.op = .binOp .eql 28 x y ty) (a b c e a' b' c' e' : Int) (r : Bool) (hr : (a == a' && (b == b' && (c == c' && (e == e' && true)))) = r) (hx : ρ x = .agg (lc a b c e)) (hy : ρ y = .agg (lc a' b' c' e')) :
    (execOp ρ o).run Try.prog w' = .ok (.value (.bool r)) w' := by
  have h : (binOp .eql 28 (.agg (lc a b c e)) (.agg (lc a' b' c' e'))).run Try.prog w' = .ok (.bool r) w' := by
    unfold lc
    rw [run_eql_struct]
    have := equalIn_M 9998 a b c e a' b' c' e' w'
    unfold lc at this
    rw [this, hr]; rfl
  unfold execOp
  simp [ho, hx, hy, eqGuard, h]
theorem exec_neM {o : Oper} {ρ : Operand → Value} {w' : World} (x y : Operand) (ty : TypeId) (ho : o.op = .binOp .neq 28 x y ty) (a b c e a' b' c' e' : Int) (r : Bool) (hr : (a == a' && (b == b' && (c == c' && (e == e' && true)))) = r) (hx : ρ x = .agg (lc a b c e)) (hy : ρ y = .agg (lc a' b' c' e')) :
    (execOp ρ o).run Try.prog w' = .ok (.value (.bool (!r))) w' := by
  have h : (binOp .neq 28 (.agg (lc a b c e)) (.agg (lc a' b' c' e'))).run Try.prog w' = .ok (.bool (!r)) w' := by
    unfold lc
    rw [run_neq_struct]
    have := equalIn_M 9998 a b c e a' b' c' e' w'
    unfold lc at this
    rw [this, hr]; rfl
  unfold execOp
  simp [ho, hx, hy, eqGuard, h]

set_option maxHeartbeats 1000000 in
theorem lget_len (a : Option Addr) (n cap : Nat) (B : List Int) (w : World) (hB : Bytes w a n B) (hn : n ≠ 160) :
    Calls Try.prog 16 #[.slice a n cap] w fun e w' => e = .returned (.tuple #[.agg (lc 0 0 0 0), .int .i64 11]) ∧ Below w.heap.size w w' := by
  have g1 : ((n : Int) != 160) = true := by simp; omega
  obtain ⟨S, hS⟩ : ∃ S, w.heap.size = S := ⟨_, rfl⟩
  have HS : Box (w.heap.size = S) := ⟨hS⟩
  have H1 : Box ((w.alloc (.cells (lc 0 0 0 0) 24)).heap[S]? = some (.cells (lc 0 0 0 0) 24 (0, 0)) ∧ (w.alloc (.cells (lc 0 0 0 0) 24)).heap.size = S + 1 ∧ Below S w (w.alloc (.cells (lc 0 0 0 0) 24)) ∧ Bytes (w.alloc (.cells (lc 0 0 0 0) 24)) a n B) := ⟨al_at hS, by simp [hS], (Below.refl _ _).alloc (by omega) _, hB.below (box_below _ _)⟩
  clear hS hB
  go_enter Try.func16, Try.ntmps16
  go_upto_region 1 with fail
  rw [HS.out]
  change Code.wp _ _ _ _ (w.alloc (.cells (lc 0 0 0 0) 24))
  generalize w.alloc (.cells (lc 0 0 0 0) 24) = w1 at H1 ⊢
  go_wp2_with (first
    | (refine wpList_run rfl _ _ (exec_built 24 [] rfl [] rfl _ built_L0) ?_)
    | (refine wpList_stL rfl _ _ rfl S 0 0 0 0 _ rfl rfl H1.out.1 rfl ?_))
  (try simp only [Exit.inBlock, Exit.then])
  refine bodyPost_ret (results_L2 rfl _ _ S _ _ _ _ rfl (setRow_heap _ _ _ _ _ _ H1.out.1)) rfl ?_
  exact ⟨rfl, by rw [HS.out]; exact below_setRow' H1.out.2.2.1 _⟩


set_option maxHeartbeats 1000000 in
theorem lget_not (a : Option Addr) (cap : Nat) (B : List Int) (w : World) (hB : Bytes w a 160 B) (x y : Int) (ex : num B 4 4 = x) (ey : num B 8 4 = y) (hn : ¬ okL x y) :
    Calls Try.prog 16 #[.slice a 160 cap] w fun e w' => e = .returned (.tuple #[.agg (lc 0 0 0 0), .int .i64 11]) ∧ Below w.heap.size w w' := by
  obtain ⟨S, hS⟩ : ∃ S, w.heap.size = S := ⟨_, rfl⟩
  have HS : Box (w.heap.size = S) := ⟨hS⟩
  have H1 : Box ((w.alloc (.cells (lc 0 0 0 0) 24)).heap[S]? = some (.cells (lc 0 0 0 0) 24 (0, 0)) ∧ (w.alloc (.cells (lc 0 0 0 0) 24)).heap.size = S + 1 ∧ Below S w (w.alloc (.cells (lc 0 0 0 0) 24)) ∧ Bytes (w.alloc (.cells (lc 0 0 0 0) 24)) a 160 B) := ⟨al_at hS, by simp [hS], (Below.refl _ _).alloc (by omega) _, hB.below (box_below _ _)⟩
  clear hS hB
  go_enter Try.func16, Try.ntmps16
  go_upto_region 1 with fail
  rw [HS.out]
  change Code.wp _ _ _ _ (w.alloc (.cells (lc 0 0 0 0) 24))
  generalize w.alloc (.cells (lc 0 0 0 0) 24) = w1 at H1 ⊢
  have C1 : Box (Calls Try.prog 22 #[.slice a 160 cap, .int .i64 4, .int .i64 4] w1 fun e w' => e = .returned (.tuple #[.int .u64 (num B 4 4), .int .i64 0]) ∧ w1 = w') := ⟨get_ok a 160 cap B 4 4 w1 H1.out.2.2.2 (by unfold maxLen; omega) (by omega) (by omega) (by omega)⟩
  have C2 : Box (Calls Try.prog 22 #[.slice a 160 cap, .int .i64 8, .int .i64 4] w1 fun e w' => e = .returned (.tuple #[.int .u64 (num B 8 4), .int .i64 0]) ∧ w1 = w') := ⟨get_ok a 160 cap B 8 4 w1 H1.out.2.2.2 (by unfold maxLen; omega) (by omega) (by omega) (by omega)⟩
  have b1 : 0 ≤ num B 4 4 ∧ num B 4 4 < 4294967296 := num_bd B 4 H1.out.2.2.2.2.1 4
  have b2 : 0 ≤ num B 8 4 ∧ num B 8 4 < 4294967296 := num_bd B 8 H1.out.2.2.2.2.1 4
  rw [ex] at C1 b1
  rw [ey] at C2 b2
  have W1 : IntKind.i64.wrap x = x := by rw [IntKind.wrap_i64]; omega
  have W2 : IntKind.i64.wrap y = y := by rw [IntKind.wrap_i64]; omega
  go_upto_region 4 with (go_at_call 22; refine Calls.mono C1.out ?_; rintro e w' ⟨rfl, rfl⟩)
  go_upto_region 5 with (go_at_call 22; refine Calls.mono C2.out ?_; rintro e w' ⟨rfl, rfl⟩)
  have CN : Box (∀ z, Calls Try.prog 9 #[.int .i64 x, .int .i64 y] z fun e w' => e = .returned (.tuple #[.agg (lc 0 0 0 0), .int .i64 1]) ∧ Below z.heap.size z w') := ⟨fun z => by have := new_any x y z; rwa [newV_no hn] at this⟩
  have CN : Box (Calls Try.prog 9 #[.int .i64 x, .int .i64 y] w1 fun e w' => e = .returned (.tuple #[.agg (lc 0 0 0 0), .int .i64 1]) ∧ Below w1.heap.size w1 w') := ⟨CN.out w1⟩
  go_upto_region 6 with (first
    | (refine wpList_newL w2 0 0 0 0 rfl _ _ rfl rfl rfl rfl ?_; intro w3 hz hb3; have H3 : Box (w3.heap[S]? = some (.cells (lc 0 0 0 0) 24 (0, 0)) ∧ Lay w3 w2.heap.size 0 0 0 0 ∧ Below S w w3 ∧ Bytes w3 a 160 B ∧ S < w2.heap.size) := ⟨(hb3.block S (Nat.lt_of_lt_of_le (lt_of_row H1.out.1) hb2.size)).trans ((hb2.block S (lt_of_row H1.out.1)).trans H1.out.1), hz, (H1.out.2.2.1.trans (hb2.mono (by have := H1.out.2.1; omega))).trans (hb3.mono (by have := hb2.size; have := H1.out.2.1; omega)), (H1.out.2.2.2.below hb2).below hb3, Nat.lt_of_lt_of_le (lt_of_row H1.out.1) hb2.size⟩; clear hz hb3 hb2)
    | (go_at_call 9; (try rw [W1]); (try rw [W2]); refine Calls.mono (CN.out) ?_; rintro e w2 ⟨rfl, hb2⟩))
  clear H1 CN C1 C2
  generalize w2.heap.size = T at H3 ⊢
  go_wp2_with (first
    | (refine wpList_run rfl _ _ (exec_built 24 [] rfl [] rfl _ built_L0) ?_)
    | (refine wpList_stL rfl _ _ rfl S 0 0 0 0 _ rfl rfl H3.out.1 rfl ?_))
  (try simp only [Exit.inBlock, Exit.then])
  refine bodyPost_ret (results_L2 rfl _ _ S _ _ _ _ rfl (setRow_heap _ _ _ _ _ _ H3.out.1)) rfl ?_
  exact ⟨rfl, by rw [HS.out]; exact below_setRow' H3.out.2.2.1 _⟩


set_option maxHeartbeats 2000000 in
theorem lget_else (a : Option Addr) (cap : Nat) (B : List Int) (w : World) (hB : Bytes w a 160 B) (x y : Int) (ex : num B 4 4 = x) (ey : num B 8 4 = y) (hn : okL x y) (hlb : decide (B = lb x y) = false) :
    Calls Try.prog 16 #[.slice a 160 cap] w fun e w' => e = .returned (.tuple #[.agg (lc 0 0 0 0), .int .i64 11]) ∧ Below w.heap.size w w' := by
  obtain ⟨S, hS⟩ : ∃ S, w.heap.size = S := ⟨_, rfl⟩
  have HS : Box (w.heap.size = S) := ⟨hS⟩
  have H1 : Box ((w.alloc (.cells (lc 0 0 0 0) 24)).heap[S]? = some (.cells (lc 0 0 0 0) 24 (0, 0)) ∧ (w.alloc (.cells (lc 0 0 0 0) 24)).heap.size = S + 1 ∧ Below S w (w.alloc (.cells (lc 0 0 0 0) 24)) ∧ Bytes (w.alloc (.cells (lc 0 0 0 0) 24)) a 160 B) := ⟨al_at hS, by simp [hS], (Below.refl _ _).alloc (by omega) _, hB.below (box_below _ _)⟩
  clear hS hB
  go_enter Try.func16, Try.ntmps16
  go_upto_region 1 with fail
  rw [HS.out]
  change Code.wp _ _ _ _ (w.alloc (.cells (lc 0 0 0 0) 24))
  generalize w.alloc (.cells (lc 0 0 0 0) 24) = w1 at H1 ⊢
  have C1 : Box (Calls Try.prog 22 #[.slice a 160 cap, .int .i64 4, .int .i64 4] w1 fun e w' => e = .returned (.tuple #[.int .u64 (num B 4 4), .int .i64 0]) ∧ w1 = w') := ⟨get_ok a 160 cap B 4 4 w1 H1.out.2.2.2 (by unfold maxLen; omega) (by omega) (by omega) (by omega)⟩
  have C2 : Box (Calls Try.prog 22 #[.slice a 160 cap, .int .i64 8, .int .i64 4] w1 fun e w' => e = .returned (.tuple #[.int .u64 (num B 8 4), .int .i64 0]) ∧ w1 = w') := ⟨get_ok a 160 cap B 8 4 w1 H1.out.2.2.2 (by unfold maxLen; omega) (by omega) (by omega) (by omega)⟩
  have b1 : 0 ≤ num B 4 4 ∧ num B 4 4 < 4294967296 := num_bd B 4 H1.out.2.2.2.2.1 4
  have b2 : 0 ≤ num B 8 4 ∧ num B 8 4 < 4294967296 := num_bd B 8 H1.out.2.2.2.2.1 4
  rw [ex] at C1 b1
  rw [ey] at C2 b2
  have W1 : IntKind.i64.wrap x = x := by rw [IntKind.wrap_i64]; omega
  have W2 : IntKind.i64.wrap y = y := by rw [IntKind.wrap_i64]; omega
  go_upto_region 4 with (go_at_call 22; refine Calls.mono C1.out ?_; rintro e w' ⟨rfl, rfl⟩)
  go_upto_region 5 with (go_at_call 22; refine Calls.mono C2.out ?_; rintro e w' ⟨rfl, rfl⟩)
  have CN : Box (Calls Try.prog 9 #[.int .i64 x, .int .i64 y] w1 fun e w' => e = .returned (.tuple #[.agg (lc x y 3 (3 + (y + 4) / 5)), .int .i64 0]) ∧ Below w1.heap.size w1 w') := ⟨by have := new_any x y w1; rwa [newV_ok hn] at this⟩
  go_upto_region 6 with (first
    | (refine wpList_newL w2 x y 3 (3 + (y + 4) / 5) rfl _ _ rfl rfl rfl rfl ?_; intro w3 hz hb3; have H3 : Box (w3.heap[S]? = some (.cells (lc 0 0 0 0) 24 (0, 0)) ∧ Lay w3 w2.heap.size x y 3 (3 + (y + 4) / 5) ∧ Below S w w3 ∧ Bytes w3 a 160 B ∧ S < w2.heap.size) := ⟨(hb3.block S (Nat.lt_of_lt_of_le (lt_of_row H1.out.1) hb2.size)).trans ((hb2.block S (lt_of_row H1.out.1)).trans H1.out.1), hz, (H1.out.2.2.1.trans (hb2.mono (by have := H1.out.2.1; omega))).trans (hb3.mono (by have := hb2.size; have := H1.out.2.1; omega)), (H1.out.2.2.2.below hb2).below hb3, Nat.lt_of_lt_of_le (lt_of_row H1.out.1) hb2.size⟩; clear hz hb3 hb2)
    | (go_at_call 9; (try rw [W1]); (try rw [W2]); refine Calls.mono (CN.out) ?_; rintro e w2 ⟨rfl, hb2⟩))
  clear H1 CN C1 C2
  generalize w2.heap.size = T at H3 ⊢
  have hok : Box (okL x y) := ⟨hn⟩
  have CP : Box (Calls Try.prog 14 #[.agg (lc x y 3 (3 + (y + 4) / 5))] w3 fun e w' => ∃ g, e = .returned (.slice (some ⟨g, 0, none⟩) 160 160) ∧ Out w3 w' (some ⟨g, 0, none⟩) 160 160 (lb x y)) := ⟨by
    have := hok.out
    unfold okL at this
    exact lput_any x y 3 _ w3 (by omega) (by omega)⟩
  clear hn
  obtain ⟨z, hz⟩ : ∃ z, Box (3 + (y + 4) / 5 = z) := ⟨_, ⟨rfl⟩⟩
  rw [hz.out] at H3 CP
  go_upto_region 7 with (first
    | (refine wpList_runG rfl _ _ (exec_ldL _ rfl T _ _ _ _ rfl H3.out.2.1) ?_)
    | (go_at_call 14; refine Calls.mono CP.out ?_; rintro e w4 ⟨g4, rfl, hO⟩; have H4 : Box (w4.heap[S]? = some (.cells (lc 0 0 0 0) 24 (0, 0)) ∧ Lay w4 T x y 3 z ∧ Below S w w4 ∧ Bytes w4 a 160 B ∧ Bytes w4 (some ⟨g4, 0, none⟩) 160 (lb x y)) := ⟨(hO.2.2.block S (lt_of_row H3.out.1)).trans H3.out.1, H3.out.2.1.below hO.2.2, H3.out.2.2.1.trans (hO.2.2.mono (Nat.le_of_lt (lt_of_row H3.out.1))), H3.out.2.2.2.1.below hO.2.2, hO.bytes (byt_lb x y)⟩; clear hO)
    | (go_at_call 23; refine Calls.mono (equal_any a (some ⟨g4, 0, none⟩) 160 160 cap 160 B (lb x y) false w4 H4.out.2.2.2.1 H4.out.2.2.2.2 hlb) ?_; rintro e w5 ⟨rfl, rfl⟩))
  go_wp2_with (first
    | (refine wpList_run rfl _ _ (exec_built 24 [] rfl [] rfl _ built_L0) ?_)
    | (refine wpList_stL rfl _ _ rfl S 0 0 0 0 _ rfl rfl H4.out.1 rfl ?_))
  (try simp only [Exit.inBlock, Exit.then])
  refine bodyPost_ret (results_L2 rfl _ _ S _ _ _ _ rfl (setRow_heap _ _ _ _ _ _ H4.out.1)) rfl ?_
  exact ⟨rfl, by rw [HS.out]; exact below_setRow' H4.out.2.2.1 _⟩


set_option maxHeartbeats 2000000 in
theorem lget_ok (a : Option Addr) (cap : Nat) (B : List Int) (w : World) (hB : Bytes w a 160 B) (x y : Int) (ex : num B 4 4 = x) (ey : num B 8 4 = y) (hn : okL x y) (hlb : decide (B = lb x y) = true) :
    Calls Try.prog 16 #[.slice a 160 cap] w fun e w' => e = .returned (.tuple #[.agg (lc x y 3 (3 + (y + 4) / 5)), .int .i64 0]) ∧ Below w.heap.size w w' := by
  obtain ⟨S, hS⟩ : ∃ S, w.heap.size = S := ⟨_, rfl⟩
  have HS : Box (w.heap.size = S) := ⟨hS⟩
  have H1 : Box ((w.alloc (.cells (lc 0 0 0 0) 24)).heap[S]? = some (.cells (lc 0 0 0 0) 24 (0, 0)) ∧ (w.alloc (.cells (lc 0 0 0 0) 24)).heap.size = S + 1 ∧ Below S w (w.alloc (.cells (lc 0 0 0 0) 24)) ∧ Bytes (w.alloc (.cells (lc 0 0 0 0) 24)) a 160 B) := ⟨al_at hS, by simp [hS], (Below.refl _ _).alloc (by omega) _, hB.below (box_below _ _)⟩
  clear hS hB
  go_enter Try.func16, Try.ntmps16
  go_upto_region 1 with fail
  rw [HS.out]
  change Code.wp _ _ _ _ (w.alloc (.cells (lc 0 0 0 0) 24))
  generalize w.alloc (.cells (lc 0 0 0 0) 24) = w1 at H1 ⊢
  have C1 : Box (Calls Try.prog 22 #[.slice a 160 cap, .int .i64 4, .int .i64 4] w1 fun e w' => e = .returned (.tuple #[.int .u64 (num B 4 4), .int .i64 0]) ∧ w1 = w') := ⟨get_ok a 160 cap B 4 4 w1 H1.out.2.2.2 (by unfold maxLen; omega) (by omega) (by omega) (by omega)⟩
  have C2 : Box (Calls Try.prog 22 #[.slice a 160 cap, .int .i64 8, .int .i64 4] w1 fun e w' => e = .returned (.tuple #[.int .u64 (num B 8 4), .int .i64 0]) ∧ w1 = w') := ⟨get_ok a 160 cap B 8 4 w1 H1.out.2.2.2 (by unfold maxLen; omega) (by omega) (by omega) (by omega)⟩
  have b1 : 0 ≤ num B 4 4 ∧ num B 4 4 < 4294967296 := num_bd B 4 H1.out.2.2.2.2.1 4
  have b2 : 0 ≤ num B 8 4 ∧ num B 8 4 < 4294967296 := num_bd B 8 H1.out.2.2.2.2.1 4
  rw [ex] at C1 b1
  rw [ey] at C2 b2
  have W1 : IntKind.i64.wrap x = x := by rw [IntKind.wrap_i64]; omega
  have W2 : IntKind.i64.wrap y = y := by rw [IntKind.wrap_i64]; omega
  go_upto_region 4 with (go_at_call 22; refine Calls.mono C1.out ?_; rintro e w' ⟨rfl, rfl⟩)
  go_upto_region 5 with (go_at_call 22; refine Calls.mono C2.out ?_; rintro e w' ⟨rfl, rfl⟩)
  have CN : Box (Calls Try.prog 9 #[.int .i64 x, .int .i64 y] w1 fun e w' => e = .returned (.tuple #[.agg (lc x y 3 (3 + (y + 4) / 5)), .int .i64 0]) ∧ Below w1.heap.size w1 w') := ⟨by have := new_any x y w1; rwa [newV_ok hn] at this⟩
  go_upto_region 6 with (first
    | (refine wpList_newL w2 x y 3 (3 + (y + 4) / 5) rfl _ _ rfl rfl rfl rfl ?_; intro w3 hz hb3; have H3 : Box (w3.heap[S]? = some (.cells (lc 0 0 0 0) 24 (0, 0)) ∧ Lay w3 w2.heap.size x y 3 (3 + (y + 4) / 5) ∧ Below S w w3 ∧ Bytes w3 a 160 B ∧ S < w2.heap.size) := ⟨(hb3.block S (Nat.lt_of_lt_of_le (lt_of_row H1.out.1) hb2.size)).trans ((hb2.block S (lt_of_row H1.out.1)).trans H1.out.1), hz, (H1.out.2.2.1.trans (hb2.mono (by have := H1.out.2.1; omega))).trans (hb3.mono (by have := hb2.size; have := H1.out.2.1; omega)), (H1.out.2.2.2.below hb2).below hb3, Nat.lt_of_lt_of_le (lt_of_row H1.out.1) hb2.size⟩; clear hz hb3 hb2)
    | (go_at_call 9; (try rw [W1]); (try rw [W2]); refine Calls.mono (CN.out) ?_; rintro e w2 ⟨rfl, hb2⟩))
  clear H1 CN C1 C2
  generalize w2.heap.size = T at H3 ⊢
  have hok : Box (okL x y) := ⟨hn⟩
  have CP : Box (Calls Try.prog 14 #[.agg (lc x y 3 (3 + (y + 4) / 5))] w3 fun e w' => ∃ g, e = .returned (.slice (some ⟨g, 0, none⟩) 160 160) ∧ Out w3 w' (some ⟨g, 0, none⟩) 160 160 (lb x y)) := ⟨by
    have := hok.out
    unfold okL at this
    exact lput_any x y 3 _ w3 (by omega) (by omega)⟩
  clear hn
  obtain ⟨z, hz⟩ : ∃ z, Box (3 + (y + 4) / 5 = z) := ⟨_, ⟨rfl⟩⟩
  rw [hz.out] at H3 CP
  go_upto_region 8 with (first
    | (refine wpList_runG rfl _ _ (exec_ldL _ rfl T _ _ _ _ rfl H3.out.2.1) ?_)
    | (go_at_call 14; refine Calls.mono CP.out ?_; rintro e w4 ⟨g4, rfl, hO⟩; have H4 : Box (w4.heap[S]? = some (.cells (lc 0 0 0 0) 24 (0, 0)) ∧ Lay w4 T x y 3 z ∧ Below S w w4 ∧ Bytes w4 a 160 B ∧ Bytes w4 (some ⟨g4, 0, none⟩) 160 (lb x y)) := ⟨(hO.2.2.block S (lt_of_row H3.out.1)).trans H3.out.1, H3.out.2.1.below hO.2.2, H3.out.2.2.1.trans (hO.2.2.mono (Nat.le_of_lt (lt_of_row H3.out.1))), H3.out.2.2.2.1.below hO.2.2, hO.bytes (byt_lb x y)⟩; clear hO)
    | (go_at_call 23; refine Calls.mono (equal_any a (some ⟨g4, 0, none⟩) 160 160 cap 160 B (lb x y) true w4 H4.out.2.2.2.1 H4.out.2.2.2.2 hlb) ?_; rintro e w5 ⟨rfl, rfl⟩))
  go_wp2_with (first
    | (refine wpList_ldL rfl _ rfl T x y 3 z rfl H4.out.2.1 ?_)
    | (refine wpList_stL rfl _ _ rfl S x y 3 z _ rfl rfl H4.out.1 rfl ?_))
  (try simp only [Exit.inBlock, Exit.then])
  refine bodyPost_ret (results_L2 rfl _ _ S _ _ _ _ rfl (setRow_heap _ _ _ _ _ _ H4.out.1)) rfl ?_
  exact ⟨by rw [hz.out]; rfl, by rw [HS.out]; exact below_setRow' H4.out.2.2.1 _⟩

/-- What Get tells. -/
def getV (B : List Int) : Value := if B.length = 160 ∧ okL (num B 4 4) (num B 8 4) ∧ B = lb (num B 4 4) (num B 8 4) then .tuple #[.agg (lc (num B 4 4) (num B 8 4) 3 (3 + (num B 8 4 + 4) / 5)), .int .i64 0] else .tuple #[.agg (lc 0 0 0 0), .int .i64 11]
theorem lget_any (a : Option Addr) (n cap : Nat) (B : List Int) (w : World) (hB : Bytes w a n B) :
    Calls Try.prog 16 #[.slice a n cap] w fun e w' => e = .returned (getV B) ∧ Below w.heap.size w w' := by
  have hl := hB.1
  by_cases h1 : n = 160
  · subst h1
    by_cases h2 : okL (num B 4 4) (num B 8 4)
    · by_cases h3 : B = lb (num B 4 4) (num B 8 4)
      · rw [show getV B = _ from if_pos ⟨hl, h2, h3⟩]
        exact lget_ok a cap B w hB _ _ rfl rfl h2 (by simpa using h3)
      · rw [show getV B = _ from if_neg (fun h => h3 h.2.2)]
        exact lget_else a cap B w hB _ _ rfl rfl h2 (by simpa using h3)
    · rw [show getV B = _ from if_neg (fun h => h2 h.2.1)]
      exact lget_not a cap B w hB _ _ rfl rfl h2
  · rw [show getV B = _ from if_neg (fun h => h1 (by omega))]
    exact lget_len a n cap B w hB h1
end Go.Proofs.Ytniminalkjhfbaa
