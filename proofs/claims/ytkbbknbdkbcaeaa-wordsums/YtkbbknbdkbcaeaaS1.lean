/-
  The Go function WordSums answers true, case by case: no sum goes over, the last one does, the first one does.
-/
import Derived.Test.YtkbbknbdkbcaeaaW7
namespace Go.Proofs.Ytkbbknbdkbcaeaa
set_option linter.unusedVariables false
open Go.RowKit Plain

theorem ball {w w1 : World} (h : Below w.heap.size w w1) (o : Obj) : Below w.heap.size w (w1.alloc o) := h.alloc h.size o

theorem nums2 (W : World) (a b : Int) (ha : 0 ≤ a ∧ a ≤ 18446744073709551615) (hb : 0 ≤ b ∧ b ≤ 18446744073709551615) : Nums (W.alloc (.cells #[.int .u64 a, .int .u64 b] 23)) (some ⟨W.heap.size, 0, none⟩) 2 [a, b] :=
  nums_lit W [a, b] (nbd_of _ (by simp [ha, hb]))
theorem nums3 (W : World) (a b c : Int) (ha : 0 ≤ a ∧ a ≤ 18446744073709551615) (hb : 0 ≤ b ∧ b ≤ 18446744073709551615) (hc : 0 ≤ c ∧ c ≤ 18446744073709551615) : Nums (W.alloc (.cells #[.int .u64 a, .int .u64 b, .int .u64 c] 23)) (some ⟨W.heap.size, 0, none⟩) 3 [a, b, c] :=
  nums_lit W [a, b, c] (nbd_of _ (by simp [ha, hb, hc]))
theorem sum2 (a b : Int) : sumTo [a, b] 2 = a + b := by simp [sumTo]
theorem sum3 (a b c : Int) : sumTo [a, b, c] 3 = a + b + c := by simp [sumTo]

theorem add2_ok (W : World) (N : Nat) (hN : N = W.heap.size) (a b : Int) (ha : 0 ≤ a ∧ a ≤ 18446744073709551615) (hb : 0 ≤ b ∧ b ≤ 18446744073709551615) (h : a + b ≤ 18446744073709551615) :
    Calls Try.prog 16 #[.slice (some ⟨N, 0, none⟩) 2 2] (W.alloc (.cells #[.int .u64 a, .int .u64 b] 23)) fun e w' => e = .returned (.tuple #[.int .u64 (a + b), .bool true]) ∧ W.alloc (.cells #[.int .u64 a, .int .u64 b] 23) = w' := by
  subst hN
  have := add_ok _ 2 2 _ _ (nums2 W a b ha hb) (by unfold maxLen; omega) (by rw [sum2]; exact h)
  rwa [sum2] at this
theorem add2_no (W : World) (N : Nat) (hN : N = W.heap.size) (a b : Int) (ha : 0 ≤ a ∧ a ≤ 18446744073709551615) (hb : 0 ≤ b ∧ b ≤ 18446744073709551615) (h : 18446744073709551615 < a + b) :
    Calls Try.prog 16 #[.slice (some ⟨N, 0, none⟩) 2 2] (W.alloc (.cells #[.int .u64 a, .int .u64 b] 23)) fun e w' => e = .returned (.tuple #[.int .u64 0, .bool false]) ∧ W.alloc (.cells #[.int .u64 a, .int .u64 b] 23) = w' := by
  subst hN
  exact add_no _ 2 2 _ _ (nums2 W a b ha hb) (by unfold maxLen; omega) (by rw [sum2]; exact h)
theorem add3_ok (W : World) (N : Nat) (hN : N = W.heap.size) (a b c : Int) (ha : 0 ≤ a ∧ a ≤ 18446744073709551615) (hb : 0 ≤ b ∧ b ≤ 18446744073709551615) (hc : 0 ≤ c ∧ c ≤ 18446744073709551615) (h : a + b + c ≤ 18446744073709551615) :
    Calls Try.prog 16 #[.slice (some ⟨N, 0, none⟩) 3 3] (W.alloc (.cells #[.int .u64 a, .int .u64 b, .int .u64 c] 23)) fun e w' => e = .returned (.tuple #[.int .u64 (a + b + c), .bool true]) ∧ W.alloc (.cells #[.int .u64 a, .int .u64 b, .int .u64 c] 23) = w' := by
  subst hN
  have := add_ok _ 3 3 _ _ (nums3 W a b c ha hb hc) (by unfold maxLen; omega) (by rw [sum3]; exact h)
  rwa [sum3] at this
theorem add3_no (W : World) (N : Nat) (hN : N = W.heap.size) (a b c : Int) (ha : 0 ≤ a ∧ a ≤ 18446744073709551615) (hb : 0 ≤ b ∧ b ≤ 18446744073709551615) (hc : 0 ≤ c ∧ c ≤ 18446744073709551615) (h : 18446744073709551615 < a + b + c) :
    Calls Try.prog 16 #[.slice (some ⟨N, 0, none⟩) 3 3] (W.alloc (.cells #[.int .u64 a, .int .u64 b, .int .u64 c] 23)) fun e w' => e = .returned (.tuple #[.int .u64 0, .bool false]) ∧ W.alloc (.cells #[.int .u64 a, .int .u64 b, .int .u64 c] 23) = w' := by
  subst hN
  exact add_no _ 3 3 _ _ (nums3 W a b c ha hb hc) (by unfold maxLen; omega) (by rw [sum3]; exact h)

set_option maxHeartbeats 1000000 in
theorem sums_1 (a b c : Int) (w : World) (ha : 0 ≤ a ∧ a ≤ 18446744073709551615) (hb : 0 ≤ b ∧ b ≤ 18446744073709551615) (hc : 0 ≤ c ∧ c ≤ 18446744073709551615) (h1 : a + b ≤ 18446744073709551615) (h2 : a + b + c ≤ 18446744073709551615) :
    Calls Try.prog 6 #[.int .u64 a, .int .u64 b, .int .u64 c] w fun e w' => e = .returned (.bool true) ∧ Below w.heap.size w w' := by
  have hab : a ≤ 18446744073709551615 - b := by omega
  go_enter Try.func6, Try.ntmps6
  go_wp2_with (go_at_call 9; refine (awake_any _).mono ?_; rintro e w1 ⟨rfl, hb1⟩)
  refine (add2_ok _ _ rfl a b ha hb h1).mono ?_
  rintro e w2 ⟨rfl, rfl⟩
  go_wp2_with fail
  refine (add3_ok _ _ (by simp) a b c ha hb hc h2).mono ?_
  rintro e w2 ⟨rfl, rfl⟩
  go_wp2_with fail
  refine (add2_ok _ _ (by simp) (a + b) c (by omega) hc h2).mono ?_
  rintro e w2 ⟨rfl, rfl⟩
  go_wp2_with fail
  refine (add3_ok _ _ (by simp) a 0 0 ha (by omega) (by omega) (by omega)).mono ?_
  rintro e w2 ⟨rfl, rfl⟩
  go_wp2_with fail
  refine (add_nil _).mono ?_
  rintro e w2 ⟨rfl, rfl⟩
  go_wp2_with fail
  go_ret
  exact ⟨rfl, ball (ball (ball (ball hb1 _) _) _) _⟩

set_option maxHeartbeats 1000000 in
theorem sums_2 (a b c : Int) (w : World) (ha : 0 ≤ a ∧ a ≤ 18446744073709551615) (hb : 0 ≤ b ∧ b ≤ 18446744073709551615) (hc : 0 ≤ c ∧ c ≤ 18446744073709551615) (h1 : a + b ≤ 18446744073709551615) (h2 : 18446744073709551615 < a + b + c) :
    Calls Try.prog 6 #[.int .u64 a, .int .u64 b, .int .u64 c] w fun e w' => e = .returned (.bool true) ∧ Below w.heap.size w w' := by
  have hab : a ≤ 18446744073709551615 - b := by omega
  go_enter Try.func6, Try.ntmps6
  go_wp2_with (go_at_call 9; refine (awake_any _).mono ?_; rintro e w1 ⟨rfl, hb1⟩)
  refine (add2_ok _ _ rfl a b ha hb h1).mono ?_
  rintro e w2 ⟨rfl, rfl⟩
  go_wp2_with fail
  refine (add3_no _ _ (by simp) a b c ha hb hc h2).mono ?_
  rintro e w2 ⟨rfl, rfl⟩
  go_wp2_with fail
  refine (add2_no _ _ (by simp) (a + b) c (by omega) hc h2).mono ?_
  rintro e w2 ⟨rfl, rfl⟩
  go_wp2_with fail
  refine (add3_ok _ _ (by simp) a 0 0 ha (by omega) (by omega) (by omega)).mono ?_
  rintro e w2 ⟨rfl, rfl⟩
  go_wp2_with fail
  refine (add_nil _).mono ?_
  rintro e w2 ⟨rfl, rfl⟩
  go_wp2_with fail
  go_ret
  exact ⟨rfl, ball (ball (ball (ball hb1 _) _) _) _⟩

set_option maxHeartbeats 1000000 in
theorem sums_3 (a b c : Int) (w : World) (ha : 0 ≤ a ∧ a ≤ 18446744073709551615) (hb : 0 ≤ b ∧ b ≤ 18446744073709551615) (hc : 0 ≤ c ∧ c ≤ 18446744073709551615) (h1 : 18446744073709551615 < a + b) :
    Calls Try.prog 6 #[.int .u64 a, .int .u64 b, .int .u64 c] w fun e w' => e = .returned (.bool true) ∧ Below w.heap.size w w' := by
  have hab : ¬ a ≤ 18446744073709551615 - b := by omega
  go_enter Try.func6, Try.ntmps6
  go_wp2_with (go_at_call 9; refine (awake_any _).mono ?_; rintro e w1 ⟨rfl, hb1⟩)
  refine (add2_no _ _ rfl a b ha hb h1).mono ?_
  rintro e w2 ⟨rfl, rfl⟩
  go_wp2_with fail
  refine (add3_no _ _ (by simp) a b c ha hb hc (by omega)).mono ?_
  rintro e w2 ⟨rfl, rfl⟩
  go_wp2_with fail
  refine (add2_ok _ _ (by simp) 0 c (by omega) hc (by omega)).mono ?_
  rintro e w2 ⟨rfl, rfl⟩
  go_wp2_with fail
  refine (add3_ok _ _ (by simp) a 0 0 ha (by omega) (by omega) (by omega)).mono ?_
  rintro e w2 ⟨rfl, rfl⟩
  go_wp2_with fail
  refine (add_nil _).mono ?_
  rintro e w2 ⟨rfl, rfl⟩
  go_wp2_with fail
  go_ret
  exact ⟨rfl, ball (ball (ball (ball hb1 _) _) _) _⟩

end Go.Proofs.Ytkbbknbdkbcaeaa
