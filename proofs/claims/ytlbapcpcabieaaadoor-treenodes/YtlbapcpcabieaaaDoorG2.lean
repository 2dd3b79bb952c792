/-
  What the Go functions Stamp, Version and Side of package tree answer, for every argument.
-/
import Derived.Test.YtlbapcpcabieaaaDoorRows
import Derived.WalkKit
import Derived.WalkSpells
import Derived.WalkLawsBesides
import Derived.Test.YtlbapcpcabieaaaDoorG1
namespace Go.Proofs.YtlbapcpcabieaaaDoor
set_option linter.unusedVariables false
open Go.RowKit Plain

/-- May a version and a side be in a stamp? -/
def mayS (v s : Int) : Bool := decide (1 ≤ v) && decide (v ≤ 9223372036854775807) && decide (0 ≤ s) && decide (s ≤ 1)
theorem mayS_iff (v s : Int) : mayS v s = true ↔ (1 ≤ v ∧ v ≤ 9223372036854775807) ∧ 0 ≤ s ∧ s ≤ 1 := by
  simp [mayS, and_assoc]
set_option maxHeartbeats 400000 in
theorem stamp_ok (v s : Int) (w : World) (hv : 1 ≤ v) (hv2 : v ≤ 9223372036854775807) (hs : 0 ≤ s) (hs2 : s ≤ 1) :
    Calls Tryd.prog 17 #[.int .u64 v, .int .i64 s] w fun e w' => e = .returned (.tuple #[.int .u64 (2 * v + s), .int .i64 0]) ∧ w = w' := by
  go_enter Tryd.func17, Tryd.ntmps17
  go_wp2
  go_ret2
  exact ⟨rfl, rfl⟩
set_option maxHeartbeats 400000 in
theorem stamp_no (v s : Int) (w : World) (hv : N64 v) (h : mayS v s = false) :
    Calls Tryd.prog 17 #[.int .u64 v, .int .i64 s] w fun e w' => e = .returned (.tuple #[.int .u64 0, .int .i64 1]) ∧ w = w' := by
  have hn : ¬ ((1 ≤ v ∧ v ≤ 9223372036854775807) ∧ 0 ≤ s ∧ s ≤ 1) := fun hh => by rw [(mayS_iff v s).2 hh] at h; cases h
  clear h
  unfold N64 at hv
  by_cases h1 : v < 1
  · clear hn
    go_enter Tryd.func17, Tryd.ntmps17
    go_wp2
    go_ret2
    exact ⟨rfl, rfl⟩
  · by_cases h2 : 9223372036854775807 < v
    · clear hn
      go_enter Tryd.func17, Tryd.ntmps17
      go_wp2
      go_ret2
      exact ⟨rfl, rfl⟩
    · by_cases h3 : s < 0
      · clear hn
        go_enter Tryd.func17, Tryd.ntmps17
        go_wp2
        go_ret2
        exact ⟨rfl, rfl⟩
      · have h4 : 1 < s := by omega
        clear hn
        go_enter Tryd.func17, Tryd.ntmps17
        go_wp2
        go_ret2
        exact ⟨rfl, rfl⟩
set_option maxHeartbeats 400000 in
theorem version_any (s : Int) (w : World) (hs : N64 s) :
    Calls Tryd.prog 18 #[.int .u64 s] w fun e w' => e = .returned (.int .u64 (s / 2)) ∧ w = w' := by
  unfold N64 at hs
  go_enter Tryd.func18, Tryd.ntmps18
  go_wp2
  go_ret
  exact ⟨rfl, rfl⟩
set_option maxHeartbeats 400000 in
theorem side_any (s : Int) (w : World) (hs : N64 s) :
    Calls Tryd.prog 19 #[.int .u64 s] w fun e w' => e = .returned (.int .i64 (s % 2)) ∧ w = w' := by
  unfold N64 at hs
  go_enter Tryd.func19, Tryd.ntmps19
  go_wp2
  go_ret
  exact ⟨rfl, rfl⟩
end Go.Proofs.YtlbapcpcabieaaaDoor
