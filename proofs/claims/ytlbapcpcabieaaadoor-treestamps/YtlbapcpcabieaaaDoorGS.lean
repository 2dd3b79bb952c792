/-
  TreeStamps, walked.
-/
import Derived.Test.YtlbapcpcabieaaaDoorG8
namespace Go.Proofs.YtlbapcpcabieaaaDoor
set_option linter.unusedVariables false
open Go.RowKit Plain

set_option maxRecDepth 20000 in
set_option maxHeartbeats 1000000 in
theorem stamps_ok (v s : Int) (w : World) (hT : Dig.Tabs w) (hv : 1 ≤ v) (hv2 : v ≤ 9223372036854775807) (hs : 0 ≤ s) (hs2 : s ≤ 1) :
    Calls Tryd.prog 5 #[.int .u64 v, .int .i64 s] w fun e w' => e = .returned (.bool true) ∧ Below w.heap.size w w' := by
  have HA : Box (Calls Tryd.prog 8 #[] w fun e w' => e = .returned (.bool true) ∧ Below w.heap.size w w') := ⟨awake_any w hT⟩
  have C1 : Box (∀ x, Calls Tryd.prog 17 #[.int .u64 v, .int .i64 s] x fun e w' => e = .returned (.tuple #[.int .u64 (2 * v + s), .int .i64 0]) ∧ x = w') := ⟨fun x => stamp_ok v s x hv hv2 hs hs2⟩
  have C2 : Box (∀ x, Calls Tryd.prog 18 #[.int .u64 (2 * v + s)] x fun e w' => e = .returned (.int .u64 v) ∧ x = w') := ⟨fun x => by
    have := version_any (2 * v + s) x ⟨by omega, by omega⟩
    rwa [show (2 * v + s) / 2 = v by omega] at this⟩
  have C3 : Box (∀ x, Calls Tryd.prog 19 #[.int .u64 (2 * v + s)] x fun e w' => e = .returned (.int .i64 s) ∧ x = w') := ⟨fun x => by
    have := side_any (2 * v + s) x ⟨by omega, by omega⟩
    rwa [show (2 * v + s) % 2 = s by omega] at this⟩
  have h0 : (v == 0) = false := by simp; omega
  have h1 : ¬ (9223372036854775808 ≤ v) := by omega
  have h2 : ¬ (s < 0) := by omega
  have h3 : ¬ (1 < s) := by omega
  have h4 : 1 < 2 * v + s := by omega
  generalize 2 * v + s = z at C1 C2 C3 h4
  clear hv hv2 hs hs2 hT
  go_enter Tryd.func5, Tryd.ntmps5
  go_wp2_with (first
    | (go_at_call 8; refine Calls.mono HA.out ?_; rintro e w1 ⟨rfl, hb⟩; have HB : Box (Below w.heap.size w w1) := ⟨hb⟩; clear hb)
    | (go_at_call 17; refine Calls.mono (C1.out _) ?_; rintro e w' ⟨rfl, rfl⟩)
    | (go_at_call 18; refine Calls.mono (C2.out _) ?_; rintro e w' ⟨rfl, rfl⟩)
    | (go_at_call 19; refine Calls.mono (C3.out _) ?_; rintro e w' ⟨rfl, rfl⟩))
  go_ret
  exact ⟨rfl, HB.out⟩
set_option maxRecDepth 20000 in
set_option maxHeartbeats 1000000 in
theorem stamps_no (v s : Int) (w : World) (hT : Dig.Tabs w) (hv : N64 v) (h : mayS v s = false) :
    Calls Tryd.prog 5 #[.int .u64 v, .int .i64 s] w fun e w' => e = .returned (.bool true) ∧ Below w.heap.size w w' := by
  have HA : Box (Calls Tryd.prog 8 #[] w fun e w' => e = .returned (.bool true) ∧ Below w.heap.size w w') := ⟨awake_any w hT⟩
  have C1 : Box (∀ x, Calls Tryd.prog 17 #[.int .u64 v, .int .i64 s] x fun e w' => e = .returned (.tuple #[.int .u64 0, .int .i64 1]) ∧ x = w') := ⟨fun x => stamp_no v s x hv h⟩
  have hn : ¬ ((1 ≤ v ∧ v ≤ 9223372036854775807) ∧ 0 ≤ s ∧ s ≤ 1) := fun hh => by rw [(mayS_iff v s).2 hh] at h; cases h
  have key : (v == 0) = true ∨ ((v == 0) = false ∧ 9223372036854775808 ≤ v) ∨ ((v == 0) = false ∧ ¬ 9223372036854775808 ≤ v ∧ s < 0) ∨ ((v == 0) = false ∧ ¬ 9223372036854775808 ≤ v ∧ ¬ s < 0 ∧ 1 < s) := by
    unfold N64 at hv
    by_cases a : v = 0
    · exact .inl (by simp [a])
    · have a' : (v == 0) = false := by simpa using a
      by_cases b : 9223372036854775808 ≤ v
      · exact .inr (.inl ⟨a', b⟩)
      · by_cases c : s < 0
        · exact .inr (.inr (.inl ⟨a', b, c⟩))
        · exact .inr (.inr (.inr ⟨a', b, c, by omega⟩))
  clear hn h hT hv
  rcases key with k1 | ⟨k1, k2⟩ | ⟨k1, k2, k3⟩ | ⟨k1, k2, k3, k4⟩
  all_goals
    go_enter Tryd.func5, Tryd.ntmps5
    go_wp2_with (first
      | (go_at_call 8; refine Calls.mono HA.out ?_; rintro e w1 ⟨rfl, hb⟩; have HB : Box (Below w.heap.size w w1) := ⟨hb⟩; clear hb)
      | (go_at_call 17; refine Calls.mono (C1.out _) ?_; rintro e w' ⟨rfl, rfl⟩))
    go_ret
    exact ⟨rfl, HB.out⟩
theorem treeStamps_walk (v s : Int) (w : World) (hT : Dig.Tabs w) (hv : (Lit.int .u64 v).wf = true) (hs : (Lit.int .i64 s).wf = true) :
    Calls Tryd.prog 5 #[.int .u64 v, .int .i64 s] w fun e w' => e = .returned (.bool true) ∧ Below w.heap.size w w' := by
  have b := bounds_u64 hv
  cases h : mayS v s
  · exact stamps_no v s w hT ⟨by omega, by omega⟩ h
  · obtain ⟨⟨h1, h2⟩, h3, h4⟩ := (mayS_iff v s).1 h
    exact stamps_ok v s w hT h1 h2 h3 h4
end Go.Proofs.YtlbapcpcabieaaaDoor
