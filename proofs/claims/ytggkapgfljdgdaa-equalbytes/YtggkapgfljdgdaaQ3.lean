/-
  The walk of EqualBytes, whole: the law returns true.
-/
import Derived.Test.YtggkapgfljdgdaaQ2
namespace Go.Proofs.Ytggkapgfljdgdaa
set_option linter.unusedVariables false
open Go.RowKit Plain

set_option maxHeartbeats 1000000 in
theorem bytes_out (a b : Option Addr) (la ca lb cb : Nat) (l : Option Addr) (n cl : Nat) (w : World) (m1 : la ≤ 9223372036854775807) (m2 : lb ≤ 9223372036854775807) (m3 : n ≤ 9223372036854775807) (h : 3000 < la ∨ 3000 < lb ∨ 100 < n) :
    Calls Try.prog 3 #[.slice a la ca, .slice b lb cb, .slice l n cl] w fun e w' => e = .returned (.bool true) ∧ ∃ m, w' = w.drewN m := by
  by_cases h1 : 3000 < la
  · have d1 : 3000 < (la : Int) := by omega
    clear h h1
    go_enter Try.func3, Try.ntmps3
    go_wp2_with (go_at_call 8; refine (awake_any _).mono ?_; rintro e w' ⟨rfl, rfl⟩)
    go_ret
    exact ⟨rfl, 0, rfl⟩
  · have d1 : ¬ 3000 < (la : Int) := by omega
    by_cases h2 : 3000 < lb
    · have d2 : 3000 < (lb : Int) := by omega
      clear h h1 h2
      go_enter Try.func3, Try.ntmps3
      go_wp2_with (go_at_call 8; refine (awake_any _).mono ?_; rintro e w' ⟨rfl, rfl⟩)
      go_ret
      exact ⟨rfl, 0, rfl⟩
    · have d2 : ¬ 3000 < (lb : Int) := by omega
      have d3 : 100 < (n : Int) := by omega
      clear h h1 h2
      go_enter Try.func3, Try.ntmps3
      go_wp2_with (go_at_call 8; refine (awake_any _).mono ?_; rintro e w' ⟨rfl, rfl⟩)
      go_ret
      exact ⟨rfl, 0, rfl⟩

theorem drew_below {w x : World} (h : ∃ m, x = w.drewN m) : Below w.heap.size w x := by
  obtain ⟨m, rfl⟩ := h
  exact below_drewN (Below.refl _ _) m

theorem equalBytes_walk (a : Option Addr) (la ca : Nat) (zA : List Int) (b : Option Addr) (lb cb : Nat) (zB : List Int) (l : Option Addr) (n cl : Nat) (va : Nat → Option Addr) (vl vc : Nat → Nat) (Z : Nat → List Int) (w : World) (hA : IsRow .u8 w a la ca zA) (hB : IsRow .u8 w b lb cb zB) (hP : AreRows w l n cl va vl vc Z) :
    Calls Try.prog 3 #[.slice a la ca, .slice b lb cb, .slice l n cl] w fun e w' => e = .returned (.bool true) ∧ Below w.heap.size w w' := by
  have mA := hA.pc
  have mB := hB.pc
  have mP := hP.pcs
  by_cases h : 3000 < la ∨ 3000 < lb ∨ 100 < n
  · refine (bytes_out a b la ca lb cb l n cl w (by omega) (by omega) (by omega) h).mono ?_
    rintro e w' ⟨rfl, hb⟩
    exact ⟨rfl, drew_below hb⟩
  · refine (bytes_core a b la ca lb cb _ _ l n cl va vl vc _ w mA.1 mB.1 mP.1 (by omega) (by omega) (by omega) _ _ _ rfl (str_beq _ _ mA.1.2.1 mB.1.2.1) rfl rfl).mono ?_
    rintro e w' ⟨rfl, hb⟩
    exact ⟨rfl, drew_below hb⟩
end Go.Proofs.Ytggkapgfljdgdaa
