/-
  TreeApart, walked.
-/
import Derived.Test.YtlbapcpcabieaaaDoorG8
import Derived.Test.YtlbapcpcabieaaaDoorG9
import Derived.Test.YtlbapcpcabieaaaDoorV4
namespace Go.Proofs.YtlbapcpcabieaaaDoor
set_option linter.unusedVariables false
open Go.RowKit Plain

theorem bytes4 (p : Int) : bytesOf p 4 = [p % 256, p / 256 % 256, p / 65536 % 256, p / 16777216 % 256] := by
  simp [bytesOf, byteAt]
theorem exec_eqS1 {o : Oper} {ρ : Operand → Value} {w' : World} (x y : Operand) (ty : TypeId) (ho : o.op = .binOp .eql 23 x y ty) (A : List Int) (hA : A.length = 32) (hx : ρ x = .agg (u8s A)) (hy : ρ y = .agg (u8s A)) :
    (execOp ρ o).run Tryd.prog w' = .ok (.value (.bool true)) w' := by
  have := exec_eqS (w' := w') x y ty ho A A hA hA hx hy
  simpa using this
theorem exec_neT {o : Oper} {ρ : Operand → Value} {w' : World} (x y : Operand) (ty : TypeId) (ho : o.op = .binOp .neq 9 x y ty) (A B : List Int) (hA : Byt A) (hB : Byt B) (c : Bool) (hc : (!decide (A = B)) = c) (hx : ρ x = .string (strOfNums A)) (hy : ρ y = .string (strOfNums B)) :
    (execOp ρ o).run Tryd.prog w' = .ok (.value (.bool c)) w' := by
  rw [exec_strN x y ty ho A B hA hB hx hy, hc]
theorem exec_eqT {o : Oper} {ρ : Operand → Value} {w' : World} (x y : Operand) (ty : TypeId) (ho : o.op = .binOp .eql 9 x y ty) (A B : List Int) (hA : Byt A) (hB : Byt B) (c : Bool) (hc : decide (A = B) = c) (hx : ρ x = .string (strOfNums A)) (hy : ρ y = .string (strOfNums B)) :
    (execOp ρ o).run Tryd.prog w' = .ok (.value (.bool c)) w' := by
  rw [exec_str x y ty ho A B hA hB hx hy, hc]
set_option maxRecDepth 20000 in
set_option maxHeartbeats 2000000 in
theorem apart_1n (l1 l2 p1 p2 : Int) (a1 a2 : Option Addr) (n1 c1 n2 c2 : Nat) (L1 L2 : List Int) (X : List Int) (w : World) (h1 : (l1 == l2) = false)
    (k1 : 0 ≤ l1 ∧ l1 ≤ 255) (k2 : 0 ≤ l2 ∧ l2 ≤ 255) (q1 : 0 ≤ p1 ∧ p1 ≤ 4294967295) (q2 : 0 ≤ p2 ∧ p2 ≤ 4294967295) (m1 : n1 ≤ 300) (m2 : n2 ≤ 300)
    (HX : Box (X.length = 32 ∧ Byt X)) (HA : Box (Calls Tryd.prog 8 #[] w fun e w' => e = .returned (.bool true) ∧ Below w.heap.size w w'))
    (C0 : Box (∀ x, Below w.heap.size w x → Calls Tryd.prog 14 #[.int .i64 l1, .int .u32 p1, .slice a1 n1 c1] x fun e w' => e = .returned (.agg (u8s X)) ∧ Below x.heap.size x w'))
    (C1 : Box (∀ x, Below w.heap.size w x → Calls Tryd.prog 16 #[.agg (ra ⟨X, 0⟩), .int .i64 l2, .int .u32 p2, .slice a2 n2 c2] x fun e w' => e = .returned (.bool false) ∧ Below x.heap.size x w'))
    (HB : Box (∀ x, Below w.heap.size w x → Bytes x a1 n1 L1 ∧ Bytes x a2 n2 L2)) (HY : Box (Byt L1 ∧ Byt L2)) :
    Calls Tryd.prog 6 #[.int .u8 l1, .int .u32 p1, .slice a1 n1 c1, .int .u8 l2, .int .u32 p2, .slice a2 n2 c2] w fun e w' => e = .returned (.bool true) ∧ Below w.heap.size w w' := by
  have h2 : (l1 != l2) = true := by simp [bne, h1]
  have g1 : ¬ 300 < (n1 : Int) := by omega
  have g2 : ¬ 300 < (n2 : Int) := by omega
  go_enter Tryd.func6, Tryd.ntmps6
  go_upto_region 6 with (go_at_call 8; refine Calls.mono HA.out ?_; rintro e w1 ⟨rfl, hb⟩; have H1 : Box (Below w.heap.size w w1) := ⟨hb⟩; clear hb)
  clear g1 g2
  go_upto_region 7 with (first
    | (go_at_call 14; refine Calls.mono (C0.out w1 H1.out) ?_; rintro e w2 ⟨rfl, hb⟩; have H2 : Box (Below w.heap.size w w2) := ⟨below_to H1.out hb⟩; clear hb)
    | (refine wpList_run rfl _ _ (exec_alloc 23 rfl _ zeroS) ?_)
    | (refine wpList_newS w2 X HX.out.1 rfl _ _ rfl rfl rfl rfl ?_; intro w3 hl hb; have H3 : Box (Below w.heap.size w w3 ∧ LiesS w3 w2.heap.size X) := ⟨below_to H2.out hb, hl⟩; clear hl hb))
  generalize w2.heap.size = G1 at H3 ⊢
  clear H1 H2 C0 HA
  simp only [Act.put, List.setIfInBounds_toArray, List.set_cons_zero, List.set_cons_succ]
  go_upto_region 8 with (first
    | (go_at_call 16; refine Calls.mono (C1.out w3 H3.out.1) ?_; rintro e w4 ⟨rfl, hb⟩; have H4 : Box (Below w.heap.size w w4) := ⟨below_to H3.out.1 hb⟩; clear hb)
    | (refine atLoad _ ?_; refine wpList_run rfl _ _ (exec_sumL (.tmp 14) rfl G1 rfl X HX.out.1 HX.out.2 H3.out.2) ?_)
    | (refine atBuild _ ?_; refine wpList_run rfl _ _ (exec_built 26 [(0, .tmp 33)] rfl _ rfl _ (built_R X HX.out.1)) ?_))
  clear H3 C1
  go_wp2
  go_ret
  exact ⟨rfl, H4.out⟩
set_option maxRecDepth 20000 in
set_option maxHeartbeats 2000000 in
theorem apart_2n (l1 p1 p2 : Int) (a1 a2 : Option Addr) (n1 c1 n2 c2 : Nat) (L1 L2 : List Int) (X : List Int) (w : World) (h1 : (p1 == p2) = false)
    (k1 : 0 ≤ l1 ∧ l1 ≤ 255) (q1 : 0 ≤ p1 ∧ p1 ≤ 4294967295) (q2 : 0 ≤ p2 ∧ p2 ≤ 4294967295) (m1 : n1 ≤ 300) (m2 : n2 ≤ 300)
    (HX : Box (X.length = 32 ∧ Byt X)) (HA : Box (Calls Tryd.prog 8 #[] w fun e w' => e = .returned (.bool true) ∧ Below w.heap.size w w'))
    (C0 : Box (∀ x, Below w.heap.size w x → Calls Tryd.prog 14 #[.int .i64 l1, .int .u32 p1, .slice a1 n1 c1] x fun e w' => e = .returned (.agg (u8s X)) ∧ Below x.heap.size x w'))
    (C1 : Box (∀ x, Below w.heap.size w x → Calls Tryd.prog 16 #[.agg (ra ⟨X, 0⟩), .int .i64 l1, .int .u32 p2, .slice a2 n2 c2] x fun e w' => e = .returned (.bool false) ∧ Below x.heap.size x w'))
    (HB : Box (∀ x, Below w.heap.size w x → Bytes x a1 n1 L1 ∧ Bytes x a2 n2 L2)) (HY : Box (Byt L1 ∧ Byt L2)) :
    Calls Tryd.prog 6 #[.int .u8 l1, .int .u32 p1, .slice a1 n1 c1, .int .u8 l1, .int .u32 p2, .slice a2 n2 c2] w fun e w' => e = .returned (.bool true) ∧ Below w.heap.size w w' := by
  have h2 : (p1 != p2) = true := by simp [bne, h1]
  have g1 : ¬ 300 < (n1 : Int) := by omega
  have g2 : ¬ 300 < (n2 : Int) := by omega
  go_enter Tryd.func6, Tryd.ntmps6
  go_upto_region 6 with (go_at_call 8; refine Calls.mono HA.out ?_; rintro e w1 ⟨rfl, hb⟩; have H1 : Box (Below w.heap.size w w1) := ⟨hb⟩; clear hb)
  clear g1 g2
  go_upto_region 7 with (first
    | (go_at_call 14; refine Calls.mono (C0.out w1 H1.out) ?_; rintro e w2 ⟨rfl, hb⟩; have H2 : Box (Below w.heap.size w w2) := ⟨below_to H1.out hb⟩; clear hb)
    | (refine wpList_run rfl _ _ (exec_alloc 23 rfl _ zeroS) ?_)
    | (refine wpList_newS w2 X HX.out.1 rfl _ _ rfl rfl rfl rfl ?_; intro w3 hl hb; have H3 : Box (Below w.heap.size w w3 ∧ LiesS w3 w2.heap.size X) := ⟨below_to H2.out hb, hl⟩; clear hl hb))
  generalize w2.heap.size = G1 at H3 ⊢
  clear H1 H2 C0 HA
  simp only [Act.put, List.setIfInBounds_toArray, List.set_cons_zero, List.set_cons_succ]
  go_upto_region 8 with (first
    | (go_at_call 16; refine Calls.mono (C1.out w3 H3.out.1) ?_; rintro e w4 ⟨rfl, hb⟩; have H4 : Box (Below w.heap.size w w4) := ⟨below_to H3.out.1 hb⟩; clear hb)
    | (refine atLoad _ ?_; refine wpList_run rfl _ _ (exec_sumL (.tmp 14) rfl G1 rfl X HX.out.1 HX.out.2 H3.out.2) ?_)
    | (refine atBuild _ ?_; refine wpList_run rfl _ _ (exec_built 26 [(0, .tmp 33)] rfl _ rfl _ (built_R X HX.out.1)) ?_))
  clear H3 C1
  go_wp2
  go_ret
  exact ⟨rfl, H4.out⟩
set_option maxRecDepth 20000 in
set_option maxHeartbeats 2000000 in
theorem apart_3n (l1 p1 : Int) (a1 a2 : Option Addr) (n1 c1 n2 c2 : Nat) (L1 L2 : List Int) (X : List Int) (w : World) (h1 : decide (L1 = L2) = false)
    (k1 : 0 ≤ l1 ∧ l1 ≤ 255) (q1 : 0 ≤ p1 ∧ p1 ≤ 4294967295) (m1 : n1 ≤ 300) (m2 : n2 ≤ 300)
    (HX : Box (X.length = 32 ∧ Byt X)) (HA : Box (Calls Tryd.prog 8 #[] w fun e w' => e = .returned (.bool true) ∧ Below w.heap.size w w'))
    (C0 : Box (∀ x, Below w.heap.size w x → Calls Tryd.prog 14 #[.int .i64 l1, .int .u32 p1, .slice a1 n1 c1] x fun e w' => e = .returned (.agg (u8s X)) ∧ Below x.heap.size x w'))
    (C1 : Box (∀ x, Below w.heap.size w x → Calls Tryd.prog 16 #[.agg (ra ⟨X, 0⟩), .int .i64 l1, .int .u32 p1, .slice a2 n2 c2] x fun e w' => e = .returned (.bool false) ∧ Below x.heap.size x w'))
    (HB : Box (∀ x, Below w.heap.size w x → Bytes x a1 n1 L1 ∧ Bytes x a2 n2 L2)) (HY : Box (Byt L1 ∧ Byt L2)) :
    Calls Tryd.prog 6 #[.int .u8 l1, .int .u32 p1, .slice a1 n1 c1, .int .u8 l1, .int .u32 p1, .slice a2 n2 c2] w fun e w' => e = .returned (.bool true) ∧ Below w.heap.size w w' := by
  have g1 : ¬ 300 < (n1 : Int) := by omega
  have g2 : ¬ 300 < (n2 : Int) := by omega
  go_enter Tryd.func6, Tryd.ntmps6
  go_upto_region 6 with (go_at_call 8; refine Calls.mono HA.out ?_; rintro e w1 ⟨rfl, hb⟩; have H1 : Box (Below w.heap.size w w1) := ⟨hb⟩; clear hb)
  clear g1 g2
  go_upto_region 7 with (first
    | (go_at_call 14; refine Calls.mono (C0.out w1 H1.out) ?_; rintro e w2 ⟨rfl, hb⟩; have H2 : Box (Below w.heap.size w w2) := ⟨below_to H1.out hb⟩; clear hb)
    | (refine wpList_run rfl _ _ (exec_alloc 23 rfl _ zeroS) ?_)
    | (refine wpList_newS w2 X HX.out.1 rfl _ _ rfl rfl rfl rfl ?_; intro w3 hl hb; have H3 : Box (Below w.heap.size w w3 ∧ LiesS w3 w2.heap.size X) := ⟨below_to H2.out hb, hl⟩; clear hl hb))
  generalize w2.heap.size = G1 at H3 ⊢
  clear H1 H2 C0 HA
  simp only [Act.put, List.setIfInBounds_toArray, List.set_cons_zero, List.set_cons_succ]
  go_upto_region 8 with (first
    | (go_at_call 16; refine Calls.mono (C1.out w3 H3.out.1) ?_; rintro e w4 ⟨rfl, hb⟩; have H4 : Box (Below w.heap.size w w4) := ⟨below_to H3.out.1 hb⟩; clear hb)
    | (refine atLoad _ ?_; refine wpList_run rfl _ _ (exec_sumL (.tmp 14) rfl G1 rfl X HX.out.1 HX.out.2 H3.out.2) ?_)
    | (refine atBuild _ ?_; refine wpList_run rfl _ _ (exec_built 26 [(0, .tmp 33)] rfl _ rfl _ (built_R X HX.out.1)) ?_))
  clear H3 C1
  go_wp2_with (first
    | (refine atConv _ _ ?_; first | (refine wpList_runG (by rfl) _ _ (exec_conv (.tmp 50) rfl rfl (HB.out w4 H4.out).1) ?_) | (refine wpList_runG (by rfl) _ _ (exec_conv (.tmp 52) rfl rfl (HB.out w4 H4.out).2) ?_))
    | (refine atBin .neq 9 ?_; refine wpList_runG (by rfl) _ _ (exec_neT (.tmp 51) (.tmp 53) _ rfl L1 L2 HY.out.1 HY.out.2 true (by rw [h1]; rfl) rfl rfl) ?_))
  go_ret
  exact ⟨rfl, H4.out⟩
set_option maxRecDepth 20000 in
set_option maxHeartbeats 2000000 in
theorem apart_4y (l1 p1 : Int) (a1 a2 : Option Addr) (n1 c1 n2 c2 : Nat) (L1 : List Int) (X : List Int) (w : World) 
    (k1 : 0 ≤ l1 ∧ l1 ≤ 255) (q1 : 0 ≤ p1 ∧ p1 ≤ 4294967295) (m1 : n1 ≤ 300) (m2 : n2 ≤ 300)
    (HX : Box (X.length = 32 ∧ Byt X)) (HA : Box (Calls Tryd.prog 8 #[] w fun e w' => e = .returned (.bool true) ∧ Below w.heap.size w w'))
    (C0 : Box (∀ x, Below w.heap.size w x → Calls Tryd.prog 14 #[.int .i64 l1, .int .u32 p1, .slice a1 n1 c1] x fun e w' => e = .returned (.agg (u8s X)) ∧ Below x.heap.size x w'))
    (C1 : Box (∀ x, Below w.heap.size w x → Calls Tryd.prog 16 #[.agg (ra ⟨X, 0⟩), .int .i64 l1, .int .u32 p1, .slice a2 n2 c2] x fun e w' => e = .returned (.bool true) ∧ Below x.heap.size x w'))
    (HB : Box (∀ x, Below w.heap.size w x → Bytes x a1 n1 L1 ∧ Bytes x a2 n2 L1)) (HY : Box (Byt L1 ∧ Byt L1)) :
    Calls Tryd.prog 6 #[.int .u8 l1, .int .u32 p1, .slice a1 n1 c1, .int .u8 l1, .int .u32 p1, .slice a2 n2 c2] w fun e w' => e = .returned (.bool true) ∧ Below w.heap.size w w' := by
  have g1 : ¬ 300 < (n1 : Int) := by omega
  have g2 : ¬ 300 < (n2 : Int) := by omega
  go_enter Tryd.func6, Tryd.ntmps6
  go_upto_region 6 with (go_at_call 8; refine Calls.mono HA.out ?_; rintro e w1 ⟨rfl, hb⟩; have H1 : Box (Below w.heap.size w w1) := ⟨hb⟩; clear hb)
  clear g1 g2
  go_upto_region 7 with (first
    | (go_at_call 14; refine Calls.mono (C0.out w1 H1.out) ?_; rintro e w2 ⟨rfl, hb⟩; have H2 : Box (Below w.heap.size w w2) := ⟨below_to H1.out hb⟩; clear hb)
    | (refine wpList_run rfl _ _ (exec_alloc 23 rfl _ zeroS) ?_)
    | (refine wpList_newS w2 X HX.out.1 rfl _ _ rfl rfl rfl rfl ?_; intro w3 hl hb; have H3 : Box (Below w.heap.size w w3 ∧ LiesS w3 w2.heap.size X) := ⟨below_to H2.out hb, hl⟩; clear hl hb))
  generalize w2.heap.size = G1 at H3 ⊢
  clear H1 H2 C0 HA
  simp only [Act.put, List.setIfInBounds_toArray, List.set_cons_zero, List.set_cons_succ]
  go_upto_region 9 with (first
    | (go_at_call 16; refine Calls.mono (C1.out w3 H3.out.1) ?_; rintro e w4 ⟨rfl, hb⟩; have H4 : Box (Below w.heap.size w w4) := ⟨below_to H3.out.1 hb⟩; clear hb)
    | (refine atLoad _ ?_; refine wpList_run rfl _ _ (exec_sumL (.tmp 14) rfl G1 rfl X HX.out.1 HX.out.2 H3.out.2) ?_)
    | (refine atBuild _ ?_; refine wpList_run rfl _ _ (exec_built 26 [(0, .tmp 33)] rfl _ rfl _ (built_R X HX.out.1)) ?_))
  clear H3 C1
  go_wp2_with (first
    | (refine atConv _ _ ?_; first | (refine wpList_runG (by rfl) _ _ (exec_conv (.tmp 65) rfl rfl (HB.out w4 H4.out).1) ?_) | (refine wpList_runG (by rfl) _ _ (exec_conv (.tmp 67) rfl rfl (HB.out w4 H4.out).2) ?_))
    | (refine atBin .eql 9 ?_; refine wpList_runG (by rfl) _ _ (exec_eqT (.tmp 66) (.tmp 68) _ rfl L1 L1 HY.out.1 HY.out.2 true (by simp) rfl rfl) ?_))
  go_ret
  exact ⟨rfl, H4.out⟩
set_option maxRecDepth 20000 in
set_option maxHeartbeats 2000000 in
theorem apart_1y (l1 l2 p1 p2 : Int) (a1 a2 : Option Addr) (n1 c1 n2 c2 : Nat) (L1 L2 : List Int) (X : List Int) (w : World) (h1 : (l1 == l2) = false)
    (k1 : 0 ≤ l1 ∧ l1 ≤ 255) (k2 : 0 ≤ l2 ∧ l2 ≤ 255) (q1 : 0 ≤ p1 ∧ p1 ≤ 4294967295) (q2 : 0 ≤ p2 ∧ p2 ≤ 4294967295) (m1 : n1 ≤ 300) (m2 : n2 ≤ 300)
    (HX : Box (X.length = 32 ∧ Byt X)) (HA : Box (Calls Tryd.prog 8 #[] w fun e w' => e = .returned (.bool true) ∧ Below w.heap.size w w'))
    (C0 : Box (∀ x, Below w.heap.size w x → Calls Tryd.prog 14 #[.int .i64 l1, .int .u32 p1, .slice a1 n1 c1] x fun e w' => e = .returned (.agg (u8s X)) ∧ Below x.heap.size x w'))
    (C1 : Box (∀ x, Below w.heap.size w x → Calls Tryd.prog 16 #[.agg (ra ⟨X, 0⟩), .int .i64 l2, .int .u32 p2, .slice a2 n2 c2] x fun e w' => e = .returned (.bool true) ∧ Below x.heap.size x w'))
    (HB : Box (∀ x, Below w.heap.size w x → Bytes x a1 n1 L1 ∧ Bytes x a2 n2 L2)) (HY : Box (Byt L1 ∧ Byt L2))
    (HO : Box (dsha (dg l1 p1 L1) = X ∧ dsha (dg l2 p2 L2) = X ∧ (!decide (dg l1 p1 L1 = dg l2 p2 L2)) = true)) :
    Calls Tryd.prog 6 #[.int .u8 l1, .int .u32 p1, .slice a1 n1 c1, .int .u8 l2, .int .u32 p2, .slice a2 n2 c2] w fun e w' => e = .returned (.bool true) ∧ Below w.heap.size w w' := by
  have h2 : (l1 != l2) = true := by simp [bne, h1]
  have g1 : ¬ 300 < (n1 : Int) := by omega
  have g2 : ¬ 300 < (n2 : Int) := by omega
  go_enter Tryd.func6, Tryd.ntmps6
  go_upto_region 6 with (go_at_call 8; refine Calls.mono HA.out ?_; rintro e w1 ⟨rfl, hb⟩; have H1 : Box (Below w.heap.size w w1) := ⟨hb⟩; clear hb)
  clear g1 g2
  go_upto_region 7 with (first
    | (go_at_call 14; refine Calls.mono (C0.out w1 H1.out) ?_; rintro e w2 ⟨rfl, hb⟩; have H2 : Box (Below w.heap.size w w2) := ⟨below_to H1.out hb⟩; clear hb)
    | (refine wpList_run rfl _ _ (exec_alloc 23 rfl _ zeroS) ?_)
    | (refine wpList_newS w2 X HX.out.1 rfl _ _ rfl rfl rfl rfl ?_; intro w3 hl hb; have H3 : Box (Below w.heap.size w w3 ∧ LiesS w3 w2.heap.size X) := ⟨below_to H2.out hb, hl⟩; clear hl hb))
  generalize w2.heap.size = G1 at H3 ⊢
  clear H1 H2 C0 HA
  simp only [Act.put, List.setIfInBounds_toArray, List.set_cons_zero, List.set_cons_succ]
  go_upto_region 9 with (first
    | (go_at_call 16; refine Calls.mono (C1.out w3 H3.out.1) ?_; rintro e w4 ⟨rfl, hb⟩; have H4 : Box (Below w.heap.size w w4) := ⟨below_to H3.out.1 hb⟩; clear hb)
    | (refine atLoad _ ?_; refine wpList_run rfl _ _ (exec_sumL (.tmp 14) rfl G1 rfl X HX.out.1 HX.out.2 H3.out.2) ?_)
    | (refine atBuild _ ?_; refine wpList_run rfl _ _ (exec_built 26 [(0, .tmp 33)] rfl _ rfl _ (built_R X HX.out.1)) ?_))
  clear H3 C1
  go_upto_region 11 with (first
    | fail)
  clear h1 h2
  obtain ⟨A, EA⟩ : ∃ A, Box (A = [l1, p1 % 256, p1 / 256 % 256, p1 / 65536 % 256, p1 / 16777216]) := ⟨_, ⟨rfl⟩⟩
  obtain ⟨B, EB⟩ : ∃ B, Box (B = [l2, p2 % 256, p2 / 256 % 256, p2 / 65536 % 256, p2 / 16777216]) := ⟨_, ⟨rfl⟩⟩
  have HD : Box (A ++ L1 = dg l1 p1 L1 ∧ B ++ L2 = dg l2 p2 L2 ∧ A.length = 5 ∧ B.length = 5) := ⟨by rw [EA.out, dg, bytes4, show l1 % 256 = l1 by omega, show p1 / 16777216 % 256 = p1 / 16777216 by omega]; rfl, by rw [EB.out, dg, bytes4, show l2 % 256 = l2 by omega, show p2 / 16777216 % 256 = p2 / 16777216 by omega]; rfl, by rw [EA.out]; rfl, by rw [EB.out]; rfl⟩
  have HM : Box (Byt (dg l1 p1 L1) ∧ Byt (dg l2 p2 L2) ∧ L1.length = n1 ∧ L2.length = n2 ∧ n1 ≤ 300 ∧ n2 ≤ 300) := ⟨byt_cons _ _ (by omega) (byt_app _ _ (bytesOf_bd _ 4) HY.out.1), byt_cons _ _ (by omega) (byt_app _ _ (bytesOf_bd _ 4) HY.out.2), (HB.out w (Below.refl _ _)).1.1, (HB.out w (Below.refl _ _)).2.1, m1, m2⟩
  have OA : Box (∀ x : World, w.heap.size ≤ x.heap.size → Below w.heap.size w x → Pu w (x.alloc (.cells #[.int .u8 l1, .int .u8 (p1 % 256), .int .u8 (p1 / 256 % 256), .int .u8 (p1 / 65536 % 256), .int .u8 (p1 / 16777216)] 5)) w.heap.size (.slice (some ⟨x.heap.size, 0, none⟩) 5 5) 5 A) := ⟨fun x hs hx => by rw [EA.out]; exact ⟨own_lit x [l1, p1 % 256, p1 / 256 % 256, p1 / 65536 % 256, p1 / 16777216] w.heap.size hs (by simp [maxLen]), hx.alloc hs _, by simp; omega⟩⟩
  have OB : Box (∀ x : World, w.heap.size ≤ x.heap.size → Below x.heap.size x x → Pu x (x.alloc (.cells #[.int .u8 l2, .int .u8 (p2 % 256), .int .u8 (p2 / 256 % 256), .int .u8 (p2 / 65536 % 256), .int .u8 (p2 / 16777216)] 5)) x.heap.size (.slice (some ⟨x.heap.size, 0, none⟩) 5 5) 5 B) := ⟨fun x hs hx => by rw [EB.out]; exact ⟨own_lit x [l2, p2 % 256, p2 / 256 % 256, p2 / 65536 % 256, p2 / 16777216] x.heap.size (Nat.le_refl _) (by simp [maxLen]), hx.alloc (Nat.le_refl _) _, by simp⟩⟩
  have HSZ : Box (w.heap.size ≤ w4.heap.size) := ⟨H4.out.size⟩
  have P4 : Box (Pu w (w4.alloc (.cells #[.int .u8 l1, .int .u8 (p1 % 256), .int .u8 (p1 / 256 % 256), .int .u8 (p1 / 65536 % 256), .int .u8 (p1 / 16777216)] 5)) w.heap.size (.slice (some ⟨w4.heap.size, 0, none⟩) 5 5) 5 A) := ⟨OA.out w4 HSZ.out H4.out⟩
  have hba := (HB.out _ P4.out.2.1).1
  have HBA : Box (Bytes (w4.alloc (.cells #[.int .u8 l1, .int .u8 (p1 % 256), .int .u8 (p1 / 256 % 256), .int .u8 (p1 / 65536 % 256), .int .u8 (p1 / 16777216)] 5)) a1 n1 L1) := ⟨hba⟩
  clear hba OA
  go_upto_region 12 with (first | (at_builtin; refine wpList_app rfl (.tmp 83) (.tmp 84) rfl w.heap.size 5 n1 c1 _ A L1 a1 _ rfl rfl P4.out.1 HBA.out (by have := HM.out; omega) (Below.refl _ _) P4.out.2.2 ?_; intro v5 w5 h5; have H5 : Box (Pu w w5 w.heap.size v5 (5 + n1) (A ++ L1)) := ⟨P4.out.app h5⟩; clear h5))
  clear HBA P4 HSZ H4
  obtain ⟨a5, c5, rfl⟩ := own_form H5.out.1
  have H6 : Box (Below w.heap.size w w5 ∧ Bytes w5 a5 (5 + n1) (dg l1 p1 L1)) := ⟨H5.out.2.1, by
    have := own_bytes H5.out.1 (by rw [HD.out.1]; exact HM.out.1)
    rwa [HD.out.1] at this⟩
  clear H5
  have P6 : Box (Pu w5 (w5.alloc (.cells #[.int .u8 l2, .int .u8 (p2 % 256), .int .u8 (p2 / 256 % 256), .int .u8 (p2 / 65536 % 256), .int .u8 (p2 / 16777216)] 5)) w5.heap.size (.slice (some ⟨w5.heap.size, 0, none⟩) 5 5) 5 B) := ⟨OB.out w5 H6.out.1.size (Below.refl _ _)⟩
  have HBB : Box (Bytes (w5.alloc (.cells #[.int .u8 l2, .int .u8 (p2 % 256), .int .u8 (p2 / 256 % 256), .int .u8 (p2 / 65536 % 256), .int .u8 (p2 / 16777216)] 5)) a2 n2 L2) := ⟨(HB.out _ (below_to H6.out.1 P6.out.2.1)).2⟩
  go_upto_region 13 with (first | (at_builtin; refine wpList_app rfl (.tmp 98) (.tmp 99) rfl w5.heap.size 5 n2 c2 _ B L2 a2 _ rfl rfl P6.out.1 HBB.out (by have := HM.out; omega) (Below.refl _ _) P6.out.2.2 ?_; intro v7 w7 h7; have H7 : Box (Pu w5 w7 w5.heap.size v7 (5 + n2) (B ++ L2)) := ⟨P6.out.app h7⟩; clear h7))
  clear HBB P6 OB
  obtain ⟨a7, c7, rfl⟩ := own_form H7.out.1
  have H8 : Box (Below w.heap.size w w7 ∧ Bytes w7 a5 (5 + n1) (dg l1 p1 L1) ∧ Bytes w7 a7 (5 + n2) (dg l2 p2 L2)) := ⟨below_to H6.out.1 H7.out.2.1, H6.out.2.below H7.out.2.1, by
    have := own_bytes H7.out.1 (by rw [HD.out.2.1]; exact HM.out.2.1)
    rwa [HD.out.2.1] at this⟩
  clear H6 H7 EA EB HD
  have R1 : Box (Calls Tryd.prog 20 #[.slice a5 (5 + n1) c5] w7 fun e w' => e = .returned (.agg (u8s X)) ∧ Below w7.heap.size w7 w') := ⟨by
    have := rof a5 (5 + n1) c5 _ w7 H8.out.2.1 (by omega)
    rwa [HO.out.1] at this⟩
  have R2 : Box (∀ x, Below w7.heap.size w7 x → Calls Tryd.prog 20 #[.slice a7 (5 + n2) c7] x fun e w' => e = .returned (.agg (u8s X)) ∧ Below x.heap.size x w') := ⟨fun x hx => by
    have := rof a7 (5 + n2) c7 _ x (H8.out.2.2.below hx) (by omega)
    rwa [HO.out.2.1] at this⟩
  generalize 5 + n1 = s1 at R1 H8 ⊢
  generalize 5 + n2 = s2 at R2 H8 ⊢
  generalize dg l1 p1 L1 = M1 at H8 HM HO
  generalize dg l2 p2 L2 = M2 at H8 HM HO
  go_wp2_with (first
    | (refine atConv _ _ ?_; first | (refine wpList_run rfl _ _ (exec_conv (.tmp 101) rfl rfl H8.out.2.1) ?_) | (refine wpList_run rfl _ _ (exec_conv (.tmp 103) rfl rfl H8.out.2.2) ?_))
    | (refine atBin .neq 9 ?_; refine wpList_run rfl _ _ (exec_neT (.tmp 102) (.tmp 104) _ rfl M1 M2 HM.out.1 HM.out.2.1 true HO.out.2.2 rfl rfl) ?_)
    | (refine atBin .eql 23 ?_; refine wpList_runG (by rfl) _ _ (exec_eqS1 (.tmp 108) (.tmp 110) _ rfl X HX.out.1 rfl rfl) ?_)
    | (go_at_call 20; refine Calls.mono (R2.out w9 H9.out.2) ?_; rintro e w10 ⟨rfl, hb⟩; have HE : Box (Below w.heap.size w w10) := ⟨below_to H9.out.1 hb⟩; clear hb)
    | (go_at_call 20; refine Calls.mono R1.out ?_; rintro e w9 ⟨rfl, hb⟩; have H9 : Box (Below w.heap.size w w9 ∧ Below w7.heap.size w7 w9) := ⟨below_to H8.out.1 hb, hb⟩; clear hb))
  go_ret
  exact ⟨rfl, HE.out⟩
set_option maxRecDepth 20000 in
set_option maxHeartbeats 2000000 in
theorem apart_2y (l1 p1 p2 : Int) (a1 a2 : Option Addr) (n1 c1 n2 c2 : Nat) (L1 L2 : List Int) (X : List Int) (w : World) (h1 : (p1 == p2) = false)
    (k1 : 0 ≤ l1 ∧ l1 ≤ 255) (q1 : 0 ≤ p1 ∧ p1 ≤ 4294967295) (q2 : 0 ≤ p2 ∧ p2 ≤ 4294967295) (m1 : n1 ≤ 300) (m2 : n2 ≤ 300)
    (HX : Box (X.length = 32 ∧ Byt X)) (HA : Box (Calls Tryd.prog 8 #[] w fun e w' => e = .returned (.bool true) ∧ Below w.heap.size w w'))
    (C0 : Box (∀ x, Below w.heap.size w x → Calls Tryd.prog 14 #[.int .i64 l1, .int .u32 p1, .slice a1 n1 c1] x fun e w' => e = .returned (.agg (u8s X)) ∧ Below x.heap.size x w'))
    (C1 : Box (∀ x, Below w.heap.size w x → Calls Tryd.prog 16 #[.agg (ra ⟨X, 0⟩), .int .i64 l1, .int .u32 p2, .slice a2 n2 c2] x fun e w' => e = .returned (.bool true) ∧ Below x.heap.size x w'))
    (HB : Box (∀ x, Below w.heap.size w x → Bytes x a1 n1 L1 ∧ Bytes x a2 n2 L2)) (HY : Box (Byt L1 ∧ Byt L2))
    (HO : Box (dsha (dg l1 p1 L1) = X ∧ dsha (dg l1 p2 L2) = X ∧ (!decide (dg l1 p1 L1 = dg l1 p2 L2)) = true)) :
    Calls Tryd.prog 6 #[.int .u8 l1, .int .u32 p1, .slice a1 n1 c1, .int .u8 l1, .int .u32 p2, .slice a2 n2 c2] w fun e w' => e = .returned (.bool true) ∧ Below w.heap.size w w' := by
  have h2 : (p1 != p2) = true := by simp [bne, h1]
  have g1 : ¬ 300 < (n1 : Int) := by omega
  have g2 : ¬ 300 < (n2 : Int) := by omega
  go_enter Tryd.func6, Tryd.ntmps6
  go_upto_region 6 with (go_at_call 8; refine Calls.mono HA.out ?_; rintro e w1 ⟨rfl, hb⟩; have H1 : Box (Below w.heap.size w w1) := ⟨hb⟩; clear hb)
  clear g1 g2
  go_upto_region 7 with (first
    | (go_at_call 14; refine Calls.mono (C0.out w1 H1.out) ?_; rintro e w2 ⟨rfl, hb⟩; have H2 : Box (Below w.heap.size w w2) := ⟨below_to H1.out hb⟩; clear hb)
    | (refine wpList_run rfl _ _ (exec_alloc 23 rfl _ zeroS) ?_)
    | (refine wpList_newS w2 X HX.out.1 rfl _ _ rfl rfl rfl rfl ?_; intro w3 hl hb; have H3 : Box (Below w.heap.size w w3 ∧ LiesS w3 w2.heap.size X) := ⟨below_to H2.out hb, hl⟩; clear hl hb))
  generalize w2.heap.size = G1 at H3 ⊢
  clear H1 H2 C0 HA
  simp only [Act.put, List.setIfInBounds_toArray, List.set_cons_zero, List.set_cons_succ]
  go_upto_region 9 with (first
    | (go_at_call 16; refine Calls.mono (C1.out w3 H3.out.1) ?_; rintro e w4 ⟨rfl, hb⟩; have H4 : Box (Below w.heap.size w w4) := ⟨below_to H3.out.1 hb⟩; clear hb)
    | (refine atLoad _ ?_; refine wpList_run rfl _ _ (exec_sumL (.tmp 14) rfl G1 rfl X HX.out.1 HX.out.2 H3.out.2) ?_)
    | (refine atBuild _ ?_; refine wpList_run rfl _ _ (exec_built 26 [(0, .tmp 33)] rfl _ rfl _ (built_R X HX.out.1)) ?_))
  clear H3 C1
  go_upto_region 11 with (first
    | fail)
  clear h1 h2
  obtain ⟨A, EA⟩ : ∃ A, Box (A = [l1, p1 % 256, p1 / 256 % 256, p1 / 65536 % 256, p1 / 16777216]) := ⟨_, ⟨rfl⟩⟩
  obtain ⟨B, EB⟩ : ∃ B, Box (B = [l1, p2 % 256, p2 / 256 % 256, p2 / 65536 % 256, p2 / 16777216]) := ⟨_, ⟨rfl⟩⟩
  have HD : Box (A ++ L1 = dg l1 p1 L1 ∧ B ++ L2 = dg l1 p2 L2 ∧ A.length = 5 ∧ B.length = 5) := ⟨by rw [EA.out, dg, bytes4, show l1 % 256 = l1 by omega, show p1 / 16777216 % 256 = p1 / 16777216 by omega]; rfl, by rw [EB.out, dg, bytes4, show l1 % 256 = l1 by omega, show p2 / 16777216 % 256 = p2 / 16777216 by omega]; rfl, by rw [EA.out]; rfl, by rw [EB.out]; rfl⟩
  have HM : Box (Byt (dg l1 p1 L1) ∧ Byt (dg l1 p2 L2) ∧ L1.length = n1 ∧ L2.length = n2 ∧ n1 ≤ 300 ∧ n2 ≤ 300) := ⟨byt_cons _ _ (by omega) (byt_app _ _ (bytesOf_bd _ 4) HY.out.1), byt_cons _ _ (by omega) (byt_app _ _ (bytesOf_bd _ 4) HY.out.2), (HB.out w (Below.refl _ _)).1.1, (HB.out w (Below.refl _ _)).2.1, m1, m2⟩
  have OA : Box (∀ x : World, w.heap.size ≤ x.heap.size → Below w.heap.size w x → Pu w (x.alloc (.cells #[.int .u8 l1, .int .u8 (p1 % 256), .int .u8 (p1 / 256 % 256), .int .u8 (p1 / 65536 % 256), .int .u8 (p1 / 16777216)] 5)) w.heap.size (.slice (some ⟨x.heap.size, 0, none⟩) 5 5) 5 A) := ⟨fun x hs hx => by rw [EA.out]; exact ⟨own_lit x [l1, p1 % 256, p1 / 256 % 256, p1 / 65536 % 256, p1 / 16777216] w.heap.size hs (by simp [maxLen]), hx.alloc hs _, by simp; omega⟩⟩
  have OB : Box (∀ x : World, w.heap.size ≤ x.heap.size → Below x.heap.size x x → Pu x (x.alloc (.cells #[.int .u8 l1, .int .u8 (p2 % 256), .int .u8 (p2 / 256 % 256), .int .u8 (p2 / 65536 % 256), .int .u8 (p2 / 16777216)] 5)) x.heap.size (.slice (some ⟨x.heap.size, 0, none⟩) 5 5) 5 B) := ⟨fun x hs hx => by rw [EB.out]; exact ⟨own_lit x [l1, p2 % 256, p2 / 256 % 256, p2 / 65536 % 256, p2 / 16777216] x.heap.size (Nat.le_refl _) (by simp [maxLen]), hx.alloc (Nat.le_refl _) _, by simp⟩⟩
  have HSZ : Box (w.heap.size ≤ w4.heap.size) := ⟨H4.out.size⟩
  have P4 : Box (Pu w (w4.alloc (.cells #[.int .u8 l1, .int .u8 (p1 % 256), .int .u8 (p1 / 256 % 256), .int .u8 (p1 / 65536 % 256), .int .u8 (p1 / 16777216)] 5)) w.heap.size (.slice (some ⟨w4.heap.size, 0, none⟩) 5 5) 5 A) := ⟨OA.out w4 HSZ.out H4.out⟩
  have hba := (HB.out _ P4.out.2.1).1
  have HBA : Box (Bytes (w4.alloc (.cells #[.int .u8 l1, .int .u8 (p1 % 256), .int .u8 (p1 / 256 % 256), .int .u8 (p1 / 65536 % 256), .int .u8 (p1 / 16777216)] 5)) a1 n1 L1) := ⟨hba⟩
  clear hba OA
  go_upto_region 12 with (first | (at_builtin; refine wpList_app rfl (.tmp 83) (.tmp 84) rfl w.heap.size 5 n1 c1 _ A L1 a1 _ rfl rfl P4.out.1 HBA.out (by have := HM.out; omega) (Below.refl _ _) P4.out.2.2 ?_; intro v5 w5 h5; have H5 : Box (Pu w w5 w.heap.size v5 (5 + n1) (A ++ L1)) := ⟨P4.out.app h5⟩; clear h5))
  clear HBA P4 HSZ H4
  obtain ⟨a5, c5, rfl⟩ := own_form H5.out.1
  have H6 : Box (Below w.heap.size w w5 ∧ Bytes w5 a5 (5 + n1) (dg l1 p1 L1)) := ⟨H5.out.2.1, by
    have := own_bytes H5.out.1 (by rw [HD.out.1]; exact HM.out.1)
    rwa [HD.out.1] at this⟩
  clear H5
  have P6 : Box (Pu w5 (w5.alloc (.cells #[.int .u8 l1, .int .u8 (p2 % 256), .int .u8 (p2 / 256 % 256), .int .u8 (p2 / 65536 % 256), .int .u8 (p2 / 16777216)] 5)) w5.heap.size (.slice (some ⟨w5.heap.size, 0, none⟩) 5 5) 5 B) := ⟨OB.out w5 H6.out.1.size (Below.refl _ _)⟩
  have HBB : Box (Bytes (w5.alloc (.cells #[.int .u8 l1, .int .u8 (p2 % 256), .int .u8 (p2 / 256 % 256), .int .u8 (p2 / 65536 % 256), .int .u8 (p2 / 16777216)] 5)) a2 n2 L2) := ⟨(HB.out _ (below_to H6.out.1 P6.out.2.1)).2⟩
  go_upto_region 13 with (first | (at_builtin; refine wpList_app rfl (.tmp 98) (.tmp 99) rfl w5.heap.size 5 n2 c2 _ B L2 a2 _ rfl rfl P6.out.1 HBB.out (by have := HM.out; omega) (Below.refl _ _) P6.out.2.2 ?_; intro v7 w7 h7; have H7 : Box (Pu w5 w7 w5.heap.size v7 (5 + n2) (B ++ L2)) := ⟨P6.out.app h7⟩; clear h7))
  clear HBB P6 OB
  obtain ⟨a7, c7, rfl⟩ := own_form H7.out.1
  have H8 : Box (Below w.heap.size w w7 ∧ Bytes w7 a5 (5 + n1) (dg l1 p1 L1) ∧ Bytes w7 a7 (5 + n2) (dg l1 p2 L2)) := ⟨below_to H6.out.1 H7.out.2.1, H6.out.2.below H7.out.2.1, by
    have := own_bytes H7.out.1 (by rw [HD.out.2.1]; exact HM.out.2.1)
    rwa [HD.out.2.1] at this⟩
  clear H6 H7 EA EB HD
  have R1 : Box (Calls Tryd.prog 20 #[.slice a5 (5 + n1) c5] w7 fun e w' => e = .returned (.agg (u8s X)) ∧ Below w7.heap.size w7 w') := ⟨by
    have := rof a5 (5 + n1) c5 _ w7 H8.out.2.1 (by omega)
    rwa [HO.out.1] at this⟩
  have R2 : Box (∀ x, Below w7.heap.size w7 x → Calls Tryd.prog 20 #[.slice a7 (5 + n2) c7] x fun e w' => e = .returned (.agg (u8s X)) ∧ Below x.heap.size x w') := ⟨fun x hx => by
    have := rof a7 (5 + n2) c7 _ x (H8.out.2.2.below hx) (by omega)
    rwa [HO.out.2.1] at this⟩
  generalize 5 + n1 = s1 at R1 H8 ⊢
  generalize 5 + n2 = s2 at R2 H8 ⊢
  generalize dg l1 p1 L1 = M1 at H8 HM HO
  generalize dg l1 p2 L2 = M2 at H8 HM HO
  go_wp2_with (first
    | (refine atConv _ _ ?_; first | (refine wpList_run rfl _ _ (exec_conv (.tmp 101) rfl rfl H8.out.2.1) ?_) | (refine wpList_run rfl _ _ (exec_conv (.tmp 103) rfl rfl H8.out.2.2) ?_))
    | (refine atBin .neq 9 ?_; refine wpList_run rfl _ _ (exec_neT (.tmp 102) (.tmp 104) _ rfl M1 M2 HM.out.1 HM.out.2.1 true HO.out.2.2 rfl rfl) ?_)
    | (refine atBin .eql 23 ?_; refine wpList_runG (by rfl) _ _ (exec_eqS1 (.tmp 108) (.tmp 110) _ rfl X HX.out.1 rfl rfl) ?_)
    | (go_at_call 20; refine Calls.mono (R2.out w9 H9.out.2) ?_; rintro e w10 ⟨rfl, hb⟩; have HE : Box (Below w.heap.size w w10) := ⟨below_to H9.out.1 hb⟩; clear hb)
    | (go_at_call 20; refine Calls.mono R1.out ?_; rintro e w9 ⟨rfl, hb⟩; have H9 : Box (Below w.heap.size w w9 ∧ Below w7.heap.size w7 w9) := ⟨below_to H8.out.1 hb, hb⟩; clear hb))
  go_ret
  exact ⟨rfl, HE.out⟩
set_option maxRecDepth 20000 in
set_option maxHeartbeats 2000000 in
theorem apart_3y (l1 p1 : Int) (a1 a2 : Option Addr) (n1 c1 n2 c2 : Nat) (L1 L2 : List Int) (X : List Int) (w : World) (h1 : decide (L1 = L2) = false)
    (k1 : 0 ≤ l1 ∧ l1 ≤ 255) (q1 : 0 ≤ p1 ∧ p1 ≤ 4294967295) (m1 : n1 ≤ 300) (m2 : n2 ≤ 300)
    (HX : Box (X.length = 32 ∧ Byt X)) (HA : Box (Calls Tryd.prog 8 #[] w fun e w' => e = .returned (.bool true) ∧ Below w.heap.size w w'))
    (C0 : Box (∀ x, Below w.heap.size w x → Calls Tryd.prog 14 #[.int .i64 l1, .int .u32 p1, .slice a1 n1 c1] x fun e w' => e = .returned (.agg (u8s X)) ∧ Below x.heap.size x w'))
    (C1 : Box (∀ x, Below w.heap.size w x → Calls Tryd.prog 16 #[.agg (ra ⟨X, 0⟩), .int .i64 l1, .int .u32 p1, .slice a2 n2 c2] x fun e w' => e = .returned (.bool true) ∧ Below x.heap.size x w'))
    (HB : Box (∀ x, Below w.heap.size w x → Bytes x a1 n1 L1 ∧ Bytes x a2 n2 L2)) (HY : Box (Byt L1 ∧ Byt L2))
    (HO : Box (dsha (dg l1 p1 L1) = X ∧ dsha (dg l1 p1 L2) = X ∧ (!decide (dg l1 p1 L1 = dg l1 p1 L2)) = true)) :
    Calls Tryd.prog 6 #[.int .u8 l1, .int .u32 p1, .slice a1 n1 c1, .int .u8 l1, .int .u32 p1, .slice a2 n2 c2] w fun e w' => e = .returned (.bool true) ∧ Below w.heap.size w w' := by
  have g1 : ¬ 300 < (n1 : Int) := by omega
  have g2 : ¬ 300 < (n2 : Int) := by omega
  go_enter Tryd.func6, Tryd.ntmps6
  go_upto_region 6 with (go_at_call 8; refine Calls.mono HA.out ?_; rintro e w1 ⟨rfl, hb⟩; have H1 : Box (Below w.heap.size w w1) := ⟨hb⟩; clear hb)
  clear g1 g2
  go_upto_region 7 with (first
    | (go_at_call 14; refine Calls.mono (C0.out w1 H1.out) ?_; rintro e w2 ⟨rfl, hb⟩; have H2 : Box (Below w.heap.size w w2) := ⟨below_to H1.out hb⟩; clear hb)
    | (refine wpList_run rfl _ _ (exec_alloc 23 rfl _ zeroS) ?_)
    | (refine wpList_newS w2 X HX.out.1 rfl _ _ rfl rfl rfl rfl ?_; intro w3 hl hb; have H3 : Box (Below w.heap.size w w3 ∧ LiesS w3 w2.heap.size X) := ⟨below_to H2.out hb, hl⟩; clear hl hb))
  generalize w2.heap.size = G1 at H3 ⊢
  clear H1 H2 C0 HA
  simp only [Act.put, List.setIfInBounds_toArray, List.set_cons_zero, List.set_cons_succ]
  go_upto_region 9 with (first
    | (go_at_call 16; refine Calls.mono (C1.out w3 H3.out.1) ?_; rintro e w4 ⟨rfl, hb⟩; have H4 : Box (Below w.heap.size w w4) := ⟨below_to H3.out.1 hb⟩; clear hb)
    | (refine atLoad _ ?_; refine wpList_run rfl _ _ (exec_sumL (.tmp 14) rfl G1 rfl X HX.out.1 HX.out.2 H3.out.2) ?_)
    | (refine atBuild _ ?_; refine wpList_run rfl _ _ (exec_built 26 [(0, .tmp 33)] rfl _ rfl _ (built_R X HX.out.1)) ?_))
  clear H3 C1
  go_upto_region 11 with (first
    | (refine atConv _ _ ?_; first | (refine wpList_runG (by rfl) _ _ (exec_conv (.tmp 65) rfl rfl (HB.out w4 H4.out).1) ?_) | (refine wpList_runG (by rfl) _ _ (exec_conv (.tmp 67) rfl rfl (HB.out w4 H4.out).2) ?_))
    | (refine atBin .eql 9 ?_; refine wpList_runG (by rfl) _ _ (exec_eqT (.tmp 66) (.tmp 68) _ rfl L1 L2 HY.out.1 HY.out.2 false h1 rfl rfl) ?_))
  clear h1
  obtain ⟨A, EA⟩ : ∃ A, Box (A = [l1, p1 % 256, p1 / 256 % 256, p1 / 65536 % 256, p1 / 16777216]) := ⟨_, ⟨rfl⟩⟩
  obtain ⟨B, EB⟩ : ∃ B, Box (B = [l1, p1 % 256, p1 / 256 % 256, p1 / 65536 % 256, p1 / 16777216]) := ⟨_, ⟨rfl⟩⟩
  have HD : Box (A ++ L1 = dg l1 p1 L1 ∧ B ++ L2 = dg l1 p1 L2 ∧ A.length = 5 ∧ B.length = 5) := ⟨by rw [EA.out, dg, bytes4, show l1 % 256 = l1 by omega, show p1 / 16777216 % 256 = p1 / 16777216 by omega]; rfl, by rw [EB.out, dg, bytes4, show l1 % 256 = l1 by omega, show p1 / 16777216 % 256 = p1 / 16777216 by omega]; rfl, by rw [EA.out]; rfl, by rw [EB.out]; rfl⟩
  have HM : Box (Byt (dg l1 p1 L1) ∧ Byt (dg l1 p1 L2) ∧ L1.length = n1 ∧ L2.length = n2 ∧ n1 ≤ 300 ∧ n2 ≤ 300) := ⟨byt_cons _ _ (by omega) (byt_app _ _ (bytesOf_bd _ 4) HY.out.1), byt_cons _ _ (by omega) (byt_app _ _ (bytesOf_bd _ 4) HY.out.2), (HB.out w (Below.refl _ _)).1.1, (HB.out w (Below.refl _ _)).2.1, m1, m2⟩
  have OA : Box (∀ x : World, w.heap.size ≤ x.heap.size → Below w.heap.size w x → Pu w (x.alloc (.cells #[.int .u8 l1, .int .u8 (p1 % 256), .int .u8 (p1 / 256 % 256), .int .u8 (p1 / 65536 % 256), .int .u8 (p1 / 16777216)] 5)) w.heap.size (.slice (some ⟨x.heap.size, 0, none⟩) 5 5) 5 A) := ⟨fun x hs hx => by rw [EA.out]; exact ⟨own_lit x [l1, p1 % 256, p1 / 256 % 256, p1 / 65536 % 256, p1 / 16777216] w.heap.size hs (by simp [maxLen]), hx.alloc hs _, by simp; omega⟩⟩
  have OB : Box (∀ x : World, w.heap.size ≤ x.heap.size → Below x.heap.size x x → Pu x (x.alloc (.cells #[.int .u8 l1, .int .u8 (p1 % 256), .int .u8 (p1 / 256 % 256), .int .u8 (p1 / 65536 % 256), .int .u8 (p1 / 16777216)] 5)) x.heap.size (.slice (some ⟨x.heap.size, 0, none⟩) 5 5) 5 B) := ⟨fun x hs hx => by rw [EB.out]; exact ⟨own_lit x [l1, p1 % 256, p1 / 256 % 256, p1 / 65536 % 256, p1 / 16777216] x.heap.size (Nat.le_refl _) (by simp [maxLen]), hx.alloc (Nat.le_refl _) _, by simp⟩⟩
  have HSZ : Box (w.heap.size ≤ w4.heap.size) := ⟨H4.out.size⟩
  have P4 : Box (Pu w (w4.alloc (.cells #[.int .u8 l1, .int .u8 (p1 % 256), .int .u8 (p1 / 256 % 256), .int .u8 (p1 / 65536 % 256), .int .u8 (p1 / 16777216)] 5)) w.heap.size (.slice (some ⟨w4.heap.size, 0, none⟩) 5 5) 5 A) := ⟨OA.out w4 HSZ.out H4.out⟩
  have hba := (HB.out _ P4.out.2.1).1
  have HBA : Box (Bytes (w4.alloc (.cells #[.int .u8 l1, .int .u8 (p1 % 256), .int .u8 (p1 / 256 % 256), .int .u8 (p1 / 65536 % 256), .int .u8 (p1 / 16777216)] 5)) a1 n1 L1) := ⟨hba⟩
  clear hba OA
  go_upto_region 12 with (first | (at_builtin; refine wpList_app rfl (.tmp 83) (.tmp 84) rfl w.heap.size 5 n1 c1 _ A L1 a1 _ rfl rfl P4.out.1 HBA.out (by have := HM.out; omega) (Below.refl _ _) P4.out.2.2 ?_; intro v5 w5 h5; have H5 : Box (Pu w w5 w.heap.size v5 (5 + n1) (A ++ L1)) := ⟨P4.out.app h5⟩; clear h5))
  clear HBA P4 HSZ H4
  obtain ⟨a5, c5, rfl⟩ := own_form H5.out.1
  have H6 : Box (Below w.heap.size w w5 ∧ Bytes w5 a5 (5 + n1) (dg l1 p1 L1)) := ⟨H5.out.2.1, by
    have := own_bytes H5.out.1 (by rw [HD.out.1]; exact HM.out.1)
    rwa [HD.out.1] at this⟩
  clear H5
  have P6 : Box (Pu w5 (w5.alloc (.cells #[.int .u8 l1, .int .u8 (p1 % 256), .int .u8 (p1 / 256 % 256), .int .u8 (p1 / 65536 % 256), .int .u8 (p1 / 16777216)] 5)) w5.heap.size (.slice (some ⟨w5.heap.size, 0, none⟩) 5 5) 5 B) := ⟨OB.out w5 H6.out.1.size (Below.refl _ _)⟩
  have HBB : Box (Bytes (w5.alloc (.cells #[.int .u8 l1, .int .u8 (p1 % 256), .int .u8 (p1 / 256 % 256), .int .u8 (p1 / 65536 % 256), .int .u8 (p1 / 16777216)] 5)) a2 n2 L2) := ⟨(HB.out _ (below_to H6.out.1 P6.out.2.1)).2⟩
  go_upto_region 13 with (first | (at_builtin; refine wpList_app rfl (.tmp 98) (.tmp 99) rfl w5.heap.size 5 n2 c2 _ B L2 a2 _ rfl rfl P6.out.1 HBB.out (by have := HM.out; omega) (Below.refl _ _) P6.out.2.2 ?_; intro v7 w7 h7; have H7 : Box (Pu w5 w7 w5.heap.size v7 (5 + n2) (B ++ L2)) := ⟨P6.out.app h7⟩; clear h7))
  clear HBB P6 OB
  obtain ⟨a7, c7, rfl⟩ := own_form H7.out.1
  have H8 : Box (Below w.heap.size w w7 ∧ Bytes w7 a5 (5 + n1) (dg l1 p1 L1) ∧ Bytes w7 a7 (5 + n2) (dg l1 p1 L2)) := ⟨below_to H6.out.1 H7.out.2.1, H6.out.2.below H7.out.2.1, by
    have := own_bytes H7.out.1 (by rw [HD.out.2.1]; exact HM.out.2.1)
    rwa [HD.out.2.1] at this⟩
  clear H6 H7 EA EB HD
  have R1 : Box (Calls Tryd.prog 20 #[.slice a5 (5 + n1) c5] w7 fun e w' => e = .returned (.agg (u8s X)) ∧ Below w7.heap.size w7 w') := ⟨by
    have := rof a5 (5 + n1) c5 _ w7 H8.out.2.1 (by omega)
    rwa [HO.out.1] at this⟩
  have R2 : Box (∀ x, Below w7.heap.size w7 x → Calls Tryd.prog 20 #[.slice a7 (5 + n2) c7] x fun e w' => e = .returned (.agg (u8s X)) ∧ Below x.heap.size x w') := ⟨fun x hx => by
    have := rof a7 (5 + n2) c7 _ x (H8.out.2.2.below hx) (by omega)
    rwa [HO.out.2.1] at this⟩
  generalize 5 + n1 = s1 at R1 H8 ⊢
  generalize 5 + n2 = s2 at R2 H8 ⊢
  generalize dg l1 p1 L1 = M1 at H8 HM HO
  generalize dg l1 p1 L2 = M2 at H8 HM HO
  go_wp2_with (first
    | (refine atConv _ _ ?_; first | (refine wpList_run rfl _ _ (exec_conv (.tmp 101) rfl rfl H8.out.2.1) ?_) | (refine wpList_run rfl _ _ (exec_conv (.tmp 103) rfl rfl H8.out.2.2) ?_))
    | (refine atBin .neq 9 ?_; refine wpList_run rfl _ _ (exec_neT (.tmp 102) (.tmp 104) _ rfl M1 M2 HM.out.1 HM.out.2.1 true HO.out.2.2 rfl rfl) ?_)
    | (refine atBin .eql 23 ?_; refine wpList_runG (by rfl) _ _ (exec_eqS1 (.tmp 108) (.tmp 110) _ rfl X HX.out.1 rfl rfl) ?_)
    | (go_at_call 20; refine Calls.mono (R2.out w9 H9.out.2) ?_; rintro e w10 ⟨rfl, hb⟩; have HE : Box (Below w.heap.size w w10) := ⟨below_to H9.out.1 hb⟩; clear hb)
    | (go_at_call 20; refine Calls.mono R1.out ?_; rintro e w9 ⟨rfl, hb⟩; have H9 : Box (Below w.heap.size w w9 ∧ Below w7.heap.size w7 w9) := ⟨below_to H8.out.1 hb, hb⟩; clear hb))
  go_ret
  exact ⟨rfl, HE.out⟩
end Go.Proofs.YtlbapcpcabieaaaDoor
