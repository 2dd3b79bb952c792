/-
  The walk of EqualChoose: one of two numbers is chosen by the lowest bit alone: the law returns true.
-/
import Derived.Test.YtggkapgfljdgdaaJ4
namespace Go.Proofs.Ytggkapgfljdgdaa
set_option linter.unusedVariables false
open Go.RowKit Plain

set_option maxHeartbeats 1000000 in
theorem chooses_is (bit one other : Int) (w : World) (h1 : 0 ≤ bit ∧ bit ≤ 18446744073709551615) (h2 : 0 ≤ one ∧ one ≤ 18446744073709551615) (h3 : 0 ≤ other ∧ other ≤ 18446744073709551615) :
    Calls Try.prog 4 #[.int .u64 bit, .int .u64 one, .int .u64 other] w fun e w' => e = .returned (.bool true) ∧ w = w' := by
  have HC : Box (Calls Try.prog 12 #[.int .u64 bit, .int .u64 one, .int .u64 other] w fun e w' => e = .returned (.int .u64 (cho bit one other)) ∧ w = w') := ⟨choose_any bit one other w h1 h2 h3⟩
  by_cases h : bit % 2 = 1
  · rw [show cho bit one other = one by simp [cho, h]] at HC
    go_enter Try.func4, Try.ntmps4
    go_wp2_with (first
      | (go_at_call 8; refine (awake_any _).mono ?_; rintro e w' ⟨rfl, rfl⟩)
      | (go_at_call 12; refine Calls.mono HC.out ?_; rintro e w' ⟨rfl, rfl⟩))
    go_ret
    exact ⟨rfl, rfl⟩
  · rw [show cho bit one other = other by simp [cho, h]] at HC
    go_enter Try.func4, Try.ntmps4
    go_wp2_with (first
      | (go_at_call 8; refine (awake_any _).mono ?_; rintro e w' ⟨rfl, rfl⟩)
      | (go_at_call 12; refine Calls.mono HC.out ?_; rintro e w' ⟨rfl, rfl⟩))
    go_ret
    exact ⟨rfl, rfl⟩
theorem equalChoose_walk (a b c : Int) (w : World) (w1 : (Lit.int .u64 a).wf = true) (w2 : (Lit.int .u64 b).wf = true) (w3 : (Lit.int .u64 c).wf = true) :
    Calls Try.prog 4 #[.int .u64 a, .int .u64 b, .int .u64 c] w fun e w' => e = .returned (.bool true) ∧ Below w.heap.size w w' := by
  have b1 := bounds_u64 w1
  have b2 := bounds_u64 w2
  have b3 := bounds_u64 w3
  refine (chooses_is a b c w ⟨by omega, by omega⟩ ⟨by omega, by omega⟩ ⟨by omega, by omega⟩).mono ?_
  rintro e w' ⟨rfl, rfl⟩
  exact ⟨rfl, Below.refl _ _⟩
end Go.Proofs.Ytggkapgfljdgdaa
