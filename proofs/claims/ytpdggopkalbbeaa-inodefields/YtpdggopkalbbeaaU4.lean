/-
  What the Go functions fits and check of package word answer, for every argument.
-/
import Derived.Test.YtpdggopkalbbeaaRows
import Derived.WalkKit
import Derived.WalkSpells
import Derived.WalkLawsBesides
namespace Go.Proofs.Ytpdggopkalbbeaa
set_option linter.unusedVariables false
open Go.RowKit

set_option maxHeartbeats 400000 in
theorem fits_yes (n : Int) (w : World) (h1 : 1 ≤ n) (h2 : n ≤ 8) :
    Calls Try.prog 23 #[.int .i64 n] w fun e w' => e = .returned (.bool true) ∧ w = w' := by
  go_enter Try.func23, Try.ntmps23
  go_wp2
  go_ret
  exact ⟨rfl, rfl⟩

set_option maxHeartbeats 400000 in
theorem fits_no (n : Int) (w : World) (h : n < 1 ∨ 8 < n) :
    Calls Try.prog 23 #[.int .i64 n] w fun e w' => e = .returned (.bool false) ∧ w = w' := by
  rcases h with h | h
  · have hd : decide (1 ≤ n) = false := by simp; omega
    go_enter Try.func23, Try.ntmps23
    go_wp2
    go_ret
    exact ⟨rfl, rfl⟩
  · have h1 : 1 ≤ n := by omega
    have h2 : ¬ n ≤ 8 := by omega
    go_enter Try.func23, Try.ntmps23
    go_wp2
    go_ret
    exact ⟨rfl, rfl⟩

set_option maxHeartbeats 400000 in
theorem check_arg (a : Option Addr) (len cap : Nat) (at' n : Int) (w : World) (h : n < 1 ∨ 8 < n) :
    Calls Try.prog 25 #[.slice a len cap, .int .i64 at', .int .i64 n] w fun e w' => e = .returned (.int .i64 1) ∧ w = w' := by
  go_enter Try.func25, Try.ntmps25
  go_wp2_with (go_at_call 23; refine (fits_no _ _ h).mono ?_; rintro e w' ⟨rfl, rfl⟩)
  go_ret
  exact ⟨rfl, rfl⟩

set_option maxHeartbeats 400000 in
theorem check_range (a : Option Addr) (len cap : Nat) (at' n : Int) (w : World) (h1 : 1 ≤ n) (h2 : n ≤ 8) (hl : len ≤ maxLen) (h : at' < 0 ∨ (len : Int) - n < at') :
    Calls Try.prog 25 #[.slice a len cap, .int .i64 at', .int .i64 n] w fun e w' => e = .returned (.int .i64 12) ∧ w = w' := by
  unfold maxLen at hl
  by_cases h0 : at' < 0
  · go_enter Try.func25, Try.ntmps25
    go_wp2_with (go_at_call 23; refine (fits_yes _ _ h1 h2).mono ?_; rintro e w' ⟨rfl, rfl⟩)
    go_ret
    exact ⟨rfl, rfl⟩
  · have h3 : (len : Int) - n < at' := by omega
    clear h
    go_enter Try.func25, Try.ntmps25
    go_wp2_with (go_at_call 23; refine (fits_yes _ _ h1 h2).mono ?_; rintro e w' ⟨rfl, rfl⟩)
    go_ret
    exact ⟨rfl, rfl⟩

set_option maxHeartbeats 400000 in
theorem check_ok (a : Option Addr) (len cap : Nat) (at' n : Int) (w : World) (h1 : 1 ≤ n) (h2 : n ≤ 8) (hl : len ≤ maxLen) (h0 : 0 ≤ at') (h3 : at' + n ≤ (len : Int)) :
    Calls Try.prog 25 #[.slice a len cap, .int .i64 at', .int .i64 n] w fun e w' => e = .returned (.int .i64 0) ∧ w = w' := by
  unfold maxLen at hl
  have h4 : ¬ (len : Int) - n < at' := by omega
  have h5 : ¬ at' < 0 := by omega
  go_enter Try.func25, Try.ntmps25
  go_wp2_with (go_at_call 23; refine (fits_yes _ _ h1 h2).mono ?_; rintro e w' ⟨rfl, rfl⟩)
  go_ret
  exact ⟨rfl, rfl⟩

end Go.Proofs.Ytpdggopkalbbeaa
