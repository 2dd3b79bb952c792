/-
  What the reference's Pad and Add answer, for every argument that the statements hand them.
-/
import Derived.Test.YtkbbknbdkbcaeaaW7
import Derived.Test.YtkbbknbdkbcaeaaP4
namespace Go.Proofs.Ytkbbknbdkbcaeaa
set_option linter.unusedVariables false
open Go.RowKit Plain

set_option maxHeartbeats 400000 in
theorem rpad_any (a : Option Addr) (len cap : Nat) (L : List Int) (n : Int) (N : Nat) (w : World) (hb : Bytes w a len L) (hl : len ≤ maxLen) (hN : n.toNat = N) (hN2 : N ≤ 3000) :
    Calls Try.prog 19 #[.slice a len cap, .int .i64 n] w fun e w' => ∃ a' cap', e = .returned (.slice a' N cap') ∧ Out w w' a' N cap' (padTo L N) := by
  obtain ⟨i0, hi, hz0, hz1, hz2⟩ := info_parts Try.info5
  have hl' := hl
  unfold maxLen at hl'
  have hLl := hb.1
  go_enter Try.func19, Try.ntmps19
  go_wp2
  go_loopw [5, 6] (fun v i wr => ∃ j : Nat, j ≤ N ∧ i = .int .i64 j ∧ wr.ownsRow w.heap.size 5 1 v j ((padTo L j).map (Value.int .u8)) ∧ Below w.heap.size w wr) (fun _ i _ => N - (intOf i).toNat)
  case atStart => exact ⟨0, Nat.zero_le _, rfl, by rw [padTo_zero]; exact World.ownsRow_nil _ _ _ _, Below.refl _ _⟩
  case round =>
    obtain ⟨j, hj, rfl, hown, hbel⟩ := hrel
    have hsz := hbel.size
    by_cases hlt : j < N
    · have hltn : (j : Int) < n := by omega
      by_cases hin : j < len
      · obtain ⟨b, off, rfl, hblt, hc⟩ := (hb.below hbel).2.2 (by omega)
        have hck := hc j hin
        have hr := padTo_low L j (by omega)
        generalize L.getD j 0 = z at hck hr
        have HR : Hid (padTo L (j + 1) = padTo L j ++ [z]) := hr
        clear hr hc hb
        go_wp2_with (at_builtin; refine wpList_append_own _ rfl (.tmp 16) (.tmp 21) 22 rfl w.heap.size 5 i0 (.int .u8 0) 1 1 Try.underlying22 hi hz0 hz1 hz2 rfl (by decide) _ _ _ rfl (hown.alloc _) _ 1 1 [.int .u8 z] rfl rfl (cell_one_new _ _ _) (oneCell_int z) (by unfold maxLen; omega) (by omega) (by simp; omega) ?_; intro v' w3 hown3 hgrow3 _; have hbel3 := (hbel.alloc hsz _).grown hgrow3 (by simp; omega) (own_block_le hown); have hown4 := own_snoc hown3; clear hgrow3 hown hown3)
        go_roundw
        case rel => exact ⟨j + 1, by omega, by go_num, by rw [HR.out]; exact hown4, hbel3⟩
        case measure => simp [intOf]; omega
      · have hr := padTo_high L j (by omega)
        have HR : Hid (padTo L (j + 1) = padTo L j ++ [0]) := hr
        clear hr hb
        go_wp2_with (at_builtin; refine wpList_append_own _ rfl (.tmp 23) (.tmp 24) 22 rfl w.heap.size 5 i0 (.int .u8 0) 1 1 Try.underlying22 hi hz0 hz1 hz2 rfl (by decide) _ _ _ rfl (hown.alloc _) _ 1 1 [.int .u8 0] rfl rfl (cell_one_new _ _ _) (oneCell_int 0) (by unfold maxLen; omega) (by omega) (by simp; omega) ?_; intro v' w3 hown3 hgrow3 _; have hbel3 := (hbel.alloc hsz _).grown hgrow3 (by simp; omega) (own_block_le hown); have hown4 := own_snoc hown3; clear hgrow3 hown hown3)
        go_roundw
        case rel => exact ⟨j + 1, by omega, by go_num, by rw [HR.out]; exact hown4, hbel3⟩
        case measure => simp [intOf]; omega
    · obtain rfl : j = N := by omega
      have hltn : ¬ (j : Int) < n := by omega
      obtain ⟨a', cap', rfl⟩ := own_form hown
      go_wp2
      go_ret
      exact ⟨a', cap', rfl, length_padTo L j, hown, hbel⟩

set_option maxHeartbeats 400000 in
theorem radd_any (a : Option Addr) (len cap : Nat) (L : List Int) (w : World) (hb : Nums w a len L) (hl : len ≤ maxLen) :
    Calls Try.prog 17 #[.slice a len cap] w fun e w' => e = addEnd (sumTo L len) ∧ w = w' := by
  obtain ⟨hL, hz, hc⟩ := hb
  have hl' := hl
  unfold maxLen at hl'
  go_enter Try.func17, Try.ntmps17
  go_wp2
  go_loop [4, 5] (fun t i => ∃ k : Nat, k ≤ len ∧ i = .int .i64 k ∧ sumTo L k ≤ 18446744073709551615 ∧ t = .int .u64 (sumTo L k)) (fun _ i => len - (intOf i).toNat)
  case atStart => exact ⟨0, Nat.zero_le _, rfl, by simp [sumTo], rfl⟩
  case round =>
    obtain ⟨k, hk, rfl, hs, rfl⟩ := hrel
    by_cases hlt : k < len
    · obtain ⟨b, off, rfl, hlt', hc⟩ := hc (by omega)
      have hck := hc k hlt
      have hzk := hz k
      have hnn := sumTo_nonneg L hz k
      have hsu : sumTo L (k + 1) = sumTo L k + L.getD k 0 := rfl
      have HM : Hid (sumTo L (k + 1) ≤ sumTo L len) := sumTo_mono L hz (k + 1) len hlt
      generalize L.getD k 0 = z at hck hzk hsu
      have HS : Hid (sumTo L (k + 1) = sumTo L k + z) := hsu
      clear hsu hc hz
      generalize hgen : sumTo L k = s at hs hnn HS
      clear hgen
      by_cases ho : s + z ≤ 18446744073709551615
      · have hno : ¬ 18446744073709551615 - s < z := by omega
        go_wp2
        go_round
        case rel => exact ⟨k + 1, by omega, by go_num, by rw [HS.out]; exact ho, by rw [HS.out]⟩
        case measure => simp [intOf]; omega
      · have hov : 18446744073709551615 - s < z := by omega
        have HF : Hid (18446744073709551615 < sumTo L len) := by have h1 := HM.out; have h2 := HS.out; show _ < _; omega
        go_wp2
        go_ret2
        exact ⟨by rw [addEnd_no HF.out]; rfl, rfl⟩
    · obtain rfl : k = len := by omega
      have HF : Hid (sumTo L k ≤ 18446744073709551615) := hs
      clear hc hz
      go_wp2
      go_ret2
      exact ⟨by rw [addEnd_ok HF.out]; rfl, rfl⟩

end Go.Proofs.Ytkbbknbdkbcaeaa
