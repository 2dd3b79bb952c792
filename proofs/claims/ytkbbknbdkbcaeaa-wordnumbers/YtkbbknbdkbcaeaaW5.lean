/-
  What the Go function Add of package word answers, for every list of numbers.
-/
import Derived.Test.YtkbbknbdkbcaeaaW4
namespace Go.Proofs.Ytkbbknbdkbcaeaa
set_option linter.unusedVariables false
open Go.RowKit Plain

def addEnd (s : Int) : Ending := if s ≤ 18446744073709551615 then .returned (.tuple #[.int .u64 s, .bool true]) else .returned (.tuple #[.int .u64 0, .bool false])
theorem addEnd_ok {s : Int} (h : s ≤ 18446744073709551615) : addEnd s = .returned (.tuple #[.int .u64 s, .bool true]) := if_pos h
theorem addEnd_no {s : Int} (h : 18446744073709551615 < s) : addEnd s = .returned (.tuple #[.int .u64 0, .bool false]) := if_neg (by omega)

set_option maxHeartbeats 400000 in
theorem add_nil (w : World) :
    Calls Try.prog 16 #[.slice none 0 0] w fun e w' => e = .returned (.tuple #[.int .u64 0, .bool true]) ∧ w = w' := by
  go_enter Try.func16, Try.ntmps16
  go_wp2
  go_loop [4, 9] (fun t i => i = .int .i64 0 ∧ t = .int .u64 0) (fun _ i => 0)
  case atStart => exact ⟨rfl, rfl⟩
  case round =>
    obtain ⟨rfl, rfl⟩ := hrel
    go_wp2
    go_ret2
    exact ⟨rfl, rfl⟩

set_option maxHeartbeats 400000 in
theorem add_any (a : Option Addr) (len cap : Nat) (L : List Int) (w : World) (hb : Nums w a len L) (hl : len ≤ maxLen) :
    Calls Try.prog 16 #[.slice a len cap] w fun e w' => e = addEnd (sumTo L len) ∧ w = w' := by
  obtain ⟨hL, hz, hc⟩ := hb
  have hl' := hl
  unfold maxLen at hl'
  go_enter Try.func16, Try.ntmps16
  go_wp2
  go_loop [4, 9] (fun t i => ∃ k : Nat, k ≤ len ∧ i = .int .i64 k ∧ sumTo L k ≤ 18446744073709551615 ∧ t = .int .u64 (sumTo L k)) (fun _ i => len - (intOf i).toNat)
  case atStart => exact ⟨0, Nat.zero_le _, rfl, by simp [sumTo], rfl⟩
  case round =>
    obtain ⟨k, hk, rfl, hs, rfl⟩ := hrel
    by_cases hlt : k < len
    · obtain ⟨b, off, rfl, hlt', hc⟩ := hc (by omega)
      have hck := hc k hlt
      have hzk := hz k
      have hnn := sumTo_nonneg L hz k
      have hsu : sumTo L (k + 1) = sumTo L k + L.getD k 0 := rfl
      have HM : Hid (sumTo L (k + 1) ≤ sumTo L len) := sumTo_mono L hz (k + 1) len hlt
      generalize L.getD k 0 = z at hck hzk hsu
      have HS : Hid (sumTo L (k + 1) = sumTo L k + z) := hsu
      clear hsu hc hz
      generalize hgen : sumTo L k = s at hs hnn HS
      clear hgen
      by_cases ho : s + z ≤ 18446744073709551615
      · have hno : ¬ s + z < z := by omega
        go_wp2
        go_round
        case rel => exact ⟨k + 1, by omega, by go_num, by rw [HS.out]; exact ho, by rw [HS.out]⟩
        case measure => simp [intOf]; omega
      · have hov := wrap_over s z ⟨hnn, hs⟩ hzk (by omega)
        have HF : Hid (18446744073709551615 < sumTo L len) := by have h1 := HM.out; have h2 := HS.out; show _ < _; omega
        go_wp2
        go_ret2
        exact ⟨by rw [addEnd_no HF.out]; rfl, rfl⟩
    · obtain rfl : k = len := by omega
      have HF : Hid (sumTo L k ≤ 18446744073709551615) := hs
      clear hc hz
      go_wp2
      go_ret2
      exact ⟨by rw [addEnd_ok HF.out]; rfl, rfl⟩


theorem add_ok (a : Option Addr) (len cap : Nat) (L : List Int) (w : World) (hb : Nums w a len L) (hl : len ≤ maxLen) (h : sumTo L len ≤ 18446744073709551615) :
    Calls Try.prog 16 #[.slice a len cap] w fun e w' => e = .returned (.tuple #[.int .u64 (sumTo L len), .bool true]) ∧ w = w' :=
  (add_any a len cap L w hb hl).mono fun _ _ ⟨he, hw⟩ => ⟨by rw [he, addEnd_ok h], hw⟩

theorem add_no (a : Option Addr) (len cap : Nat) (L : List Int) (w : World) (hb : Nums w a len L) (hl : len ≤ maxLen) (h : 18446744073709551615 < sumTo L len) :
    Calls Try.prog 16 #[.slice a len cap] w fun e w' => e = .returned (.tuple #[.int .u64 0, .bool false]) ∧ w = w' :=
  (add_any a len cap L w hb hl).mono fun _ _ ⟨he, hw⟩ => ⟨by rw [he, addEnd_no h], hw⟩

end Go.Proofs.Ytkbbknbdkbcaeaa
