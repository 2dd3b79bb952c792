/-
  What the Go functions that turn a word right answer (package digest, its library's RotateLeft32, the reference), for every word and 1 to 31 places.
-/
import Derived.Test.YtlbapcpcabieaaaDoorRows
import Derived.Test.YtlbapcpcabieaaaDoorHP1
import Derived.WalkKit
import Derived.WalkSpells
import Derived.WalkLawsBesides
namespace Go.Proofs.YtlbapcpcabieaaaDoor.Dig
set_option linter.unusedVariables false
open Go.RowKit Go.Proofs.YtlbapcpcabieaaaDoor.Dig.Plain

theorem rotl_any (x : Int) (n : Nat) (w : World) (h : W32 x) (hn : 1 ≤ n) (hn' : n ≤ 31) :
    Calls Tryd.prog 39 #[.int .u32 x, .int .i64 (-(n : Int))] w fun e w' => e = .returned (.int .u32 (rotr x n)) ∧ w = w' := by
  obtain ⟨h0, h1⟩ := h
  have hb := and31 n hn hn'
  have HR : Hid (bits .or .u32 (x * 2 ^ (32 - n) % 4294967296) (x / 2 ^ n) = rotr x n) := by unfold rotr; exact bits_or_comm _ _ _
  have e1 : (32 - (n : Int)).toNat = 32 - n := by omega
  have e2 : (32 - (32 - (n : Int))).toNat = n := by omega
  go_enter Tryd.func39, Tryd.ntmps39
  go_wp2
  go_ret
  exact ⟨by rw [← HR.out]; rfl, rfl⟩
theorem right_any (x : Int) (n : Nat) (w : World) (h : W32 x) (hn : 1 ≤ n) (hn' : n ≤ 31) :
    Calls Tryd.prog 38 #[.int .u32 x, .int .i64 n] w fun e w' => e = .returned (.int .u32 (rotr x n)) ∧ w = w' := by
  go_enter Tryd.func38, Tryd.ntmps38
  go_wp2_with (go_at_call 39; refine (rotl_any _ _ _ h hn hn').mono ?_; rintro e w' ⟨rfl, rfl⟩)
  go_ret
  exact ⟨rfl, rfl⟩
theorem rright_any (x : Int) (n : Nat) (w : World) (h : W32 x) (hn : 1 ≤ n) (hn' : n ≤ 31) :
    Calls Tryd.prog 34 #[.int .u32 x, .int .u64 n] w fun e w' => e = .returned (.int .u32 (rotr x n)) ∧ w = w' := by
  obtain ⟨h0, h1⟩ := h
  go_enter Tryd.func34, Tryd.ntmps34
  go_wp2
  go_ret
  exact ⟨rfl, rfl⟩
theorem right_k (x k : Int) (w : World) (h : W32 x) (hn : 1 ≤ k) (hn' : k ≤ 31) :
    Calls Tryd.prog 38 #[.int .u32 x, .int .i64 k] w fun e w' => e = .returned (.int .u32 (rotr x k)) ∧ w' = w := by
  obtain ⟨n, rfl⟩ := Int.eq_ofNat_of_zero_le (by omega : 0 ≤ k)
  exact (right_any x n w h (by omega) (by omega)).mono fun _ _ ⟨he, hw⟩ => ⟨he, hw.symm⟩
theorem rright_k (x k : Int) (w : World) (h : W32 x) (hn : 1 ≤ k) (hn' : k ≤ 31) :
    Calls Tryd.prog 34 #[.int .u32 x, .int .u64 k] w fun e w' => e = .returned (.int .u32 (rotr x k)) ∧ w' = w := by
  obtain ⟨n, rfl⟩ := Int.eq_ofNat_of_zero_le (by omega : 0 ≤ k)
  exact (rright_any x n w h (by omega) (by omega)).mono fun _ _ ⟨he, hw⟩ => ⟨he, hw.symm⟩
end Go.Proofs.YtlbapcpcabieaaaDoor.Dig
