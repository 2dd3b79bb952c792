/-
  What the reference's Put and Get answer, for every argument that the statements hand them.
-/
import Derived.Test.YtpdggopkalbbeaaU6
import Derived.Test.YtpdggopkalbbeaaU3
import Derived.Laws.AppendOwn
import Derived.OwnWalk
namespace Go.Proofs.Ytpdggopkalbbeaa
set_option linter.unusedVariables false
open Go.RowKit Plain

theorem own_snoc {w' : World} {base n : Nat} {v : Value} {L : List Int} {z : Int} (h : w'.ownsRow base 5 1 v (n + 1) (L.map (Value.int .u8) ++ [.int .u8 z])) : w'.ownsRow base 5 1 v (n + 1) ((L ++ [z]).map (Value.int .u8)) := by
  rw [List.map_append]; exact h
theorem oneCell_int (z : Int) : ∀ u ∈ [Value.int .u8 z], u.oneCell' = true := by
  intro u hu
  simp at hu
  subst hu
  rfl

theorem mul_step (k : Nat) (hk : k < 8) (z M t : Int) (hM : M = 2 ^ (8 * k)) (hz : 0 ≤ z ∧ z ≤ 255) (ht : 0 ≤ t ∧ t < 2 ^ (8 * k)) :
    IntKind.u64.wrap (z * M) = z * M ∧ 0 ≤ z * M ∧ t + z * M ≤ 18446744073709551615 := by
  have hp : (0 : Int) < 2 ^ (8 * k) := Int.pow_pos (by omega)
  have h1 : z * M ≤ 255 * M := Int.mul_le_mul_of_nonneg_right hz.2 (by omega)
  have h0 : 0 ≤ z * M := Int.mul_nonneg hz.1 (by omega)
  have h2 : (2 : Int) ^ (8 * k) ≤ 2 ^ 56 := by
    have := Nat.pow_le_pow_right (n := 2) (by omega) (show 8 * k ≤ 56 by omega)
    exact_mod_cast this
  rw [← hM] at ht h2 hp
  refine ⟨?_, h0, by omega⟩
  rw [IntKind.wrap_u64]
  exact Int.emod_eq_of_lt h0 (by omega)
theorem pow_step (k : Nat) (hk : k < 7) (M : Int) (hM : M = 2 ^ (8 * k)) : IntKind.u64.wrap (M * 256) = 2 ^ (8 * (k + 1)) := by
  have h2 : (2 : Int) ^ (8 * k) ≤ 2 ^ 48 := by
    have := Nat.pow_le_pow_right (n := 2) (by omega) (show 8 * k ≤ 48 by omega)
    exact_mod_cast this
  have hp : (0 : Int) < 2 ^ (8 * k) := Int.pow_pos (by omega)
  rw [IntKind.wrap_u64, pow8, ← hM, Int.mul_comm]
  rw [← hM] at h2 hp
  exact Int.emod_eq_of_lt (by omega) (by omega)

set_option maxHeartbeats 400000 in
theorem rget_ok (a : Option Addr) (len cap : Nat) (L : List Int) (p n : Nat) (w : World) (hb : Bytes w a len L) (hl : len ≤ maxLen) (hn1 : 1 ≤ n) (hn2 : n ≤ 8) (hp : p + n ≤ len) :
    Calls Try.prog 21 #[.slice a len cap, .int .i64 p, .int .i64 n] w fun e w' => e = .returned (.tuple #[.int .u64 (num L p n), .int .i64 0]) ∧ w = w' := by
  obtain ⟨hL, hz, hc⟩ := hb
  obtain ⟨b, off, rfl, hlt, hc⟩ := hc (by omega)
  have hl' := hl
  unfold maxLen at hl'
  have h3 : ¬ (n : Int) < 1 := by omega
  have h4 : ¬ 8 < (n : Int) := by omega
  have h5 : ¬ (p : Int) < 0 := by omega
  have h6 : ¬ (len : Int) < (p : Int) := by omega
  have h7 : ¬ (len : Int) - (p : Int) < (n : Int) := by omega
  go_enter Try.func21, Try.ntmps21
  go_wp2
  go_loop [8, 9, 10] (fun t m i => ∃ (k : Nat) (M : Int), k ≤ n ∧ i = .int .i64 k ∧ t = .int .u64 (num L p k) ∧ m = .int .u64 M ∧ (k < n → M = 2 ^ (8 * k))) (fun _ _ i => n - (intOf i).toNat)
  case atStart => exact ⟨0, 1, Nat.zero_le _, rfl, rfl, rfl, fun _ => rfl⟩
  case round =>
    obtain ⟨k, M, hk, rfl, rfl, rfl, hM⟩ := hrel
    by_cases hlt : k < n
    · have hck := hc (p + k) (by omega)
      have hzk := hz (p + k)
      have hs : num L p (k + 1) = num L p k + L.getD (p + k) 0 * 2 ^ (8 * k) := rfl
      generalize L.getD (p + k) 0 = z at hck hzk hs
      have hnb := num_bd L p hz k
      generalize num L p k = t at hnb hs
      obtain ⟨hw1, hw2, hw3⟩ := mul_step k (by omega) z M t (hM hlt) hzk hnb
      rw [← hM hlt] at hs hnb
      have HM : Hid (k + 1 < n → IntKind.u64.wrap (M * 256) = 2 ^ (8 * (k + 1))) := fun h => pow_step k (by omega) M (hM hlt)
      have HS : Hid (IntKind.u64.wrap (t + IntKind.u64.wrap (z * M)) = num L p (k + 1)) := by
        show IntKind.u64.wrap (t + IntKind.u64.wrap (z * M)) = num L p (k + 1)
        rw [hs, hw1, IntKind.wrap_u64]
        exact Int.emod_eq_of_lt (by omega) (by omega)
      clear hc hz hs hM hw1 hw2 hw3
      go_wp2
      go_round
      case rel => exact ⟨k + 1, _, by omega, by go_num, by rw [HS.out], rfl, HM.out⟩
      case measure => simp [intOf]; omega
    · obtain rfl : k = n := by omega
      clear hM hc hz
      go_wp2
      go_ret2
      exact ⟨rfl, rfl⟩


set_option maxHeartbeats 400000 in
theorem rput_big (x n : Int) (w : World) (h : 8 < n) :
    Calls Try.prog 22 #[.int .u64 x, .int .i64 n] w fun e w' => e = .returned (.slice none 0 0) ∧ w = w' := by
  go_enter Try.func22, Try.ntmps22
  go_wp2
  go_ret
  exact ⟨rfl, rfl⟩

theorem div_step (x : Int) (j : Nat) : x / 2 ^ (8 * j) / 256 = x / 2 ^ (8 * (j + 1)) := by
  rw [pow8, Int.mul_comm, Int.ediv_ediv_of_nonneg (Int.le_of_lt (Int.pow_pos (by omega)))]

set_option maxHeartbeats 400000 in
theorem rput_any (x n : Int) (N : Nat) (w : World) (hx : 0 ≤ x ∧ x ≤ 18446744073709551615) (hN : n.toNat = N) (h8 : n ≤ 8) :
    Calls Try.prog 22 #[.int .u64 x, .int .i64 n] w fun e w' => ∃ a' cap', e = .returned (.slice a' N cap') ∧ Out w w' a' N cap' (bytesOf x N) := by
  obtain ⟨i0, hi, hz0, hz1, hz2⟩ := info_parts Try.info5
  have h8' : ¬ 8 < n := by omega
  go_enter Try.func22, Try.ntmps22
  go_wp2
  go_loopw [0, 5, 6] (fun t v i wr => ∃ j : Nat, j ≤ N ∧ i = .int .i64 j ∧ t = .int .u64 (x / 2 ^ (8 * j)) ∧ wr.ownsRow w.heap.size 5 1 v j ((bytesOf x j).map (Value.int .u8)) ∧ Below w.heap.size w wr) (fun _ _ i _ => N - (intOf i).toNat)
  case atStart => exact ⟨0, Nat.zero_le _, rfl, by simp, World.ownsRow_nil _ _ _ _, Below.refl _ _⟩
  case round =>
    obtain ⟨j, hj, rfl, rfl, hown, hbel⟩ := hrel
    have hsz := hbel.size
    by_cases hlt : j < N
    · have hltn : (j : Int) < n := by omega
      have hr : bytesOf x (j + 1) = bytesOf x j ++ [x / 2 ^ (8 * j) % 256] := rfl
      have hd := div_step x j
      have hy : 0 ≤ x / 2 ^ (8 * j) ∧ x / 2 ^ (8 * j) ≤ 18446744073709551615 := by
        have hp : (0 : Int) < 2 ^ (8 * j) := Int.pow_pos (by omega)
        have h1 := Int.ediv_le_self (2 ^ (8 * j)) hx.1
        exact ⟨Int.ediv_nonneg hx.1 (by omega), by omega⟩
      generalize x / 2 ^ (8 * j) = y at hr hd hy
      have HR : Hid (bytesOf x (j + 1) = bytesOf x j ++ [y % 256]) := hr
      have HD : Hid (y / 256 = x / 2 ^ (8 * (j + 1))) := hd
      clear hr hd
      go_wp2_with (at_builtin; refine wpList_append_own _ rfl (.tmp 15) (.tmp 19) 27 rfl w.heap.size 5 i0 (.int .u8 0) 1 1 Try.underlying27 hi hz0 hz1 hz2 rfl (by decide) _ _ _ rfl (hown.alloc _) _ 1 1 [.int .u8 (y % 256)] rfl rfl (cell_one_new _ _ _) (oneCell_int _) (by unfold maxLen; omega) (by omega) (by simp; omega) ?_; intro v' w3 hown3 hgrow3 _; have hbel3 := (hbel.alloc hsz _).grown hgrow3 (by simp; omega) (own_block_le hown); have hown4 := own_snoc hown3; clear hgrow3 hown hown3)
      go_roundw
      case rel => exact ⟨j + 1, by omega, by go_num, by rw [← HD.out], by rw [HR.out]; exact hown4, hbel3⟩
      case measure => simp [intOf]; omega
    · obtain rfl : j = N := by omega
      have hltn : ¬ (j : Int) < n := by omega
      obtain ⟨a', cap', rfl⟩ := own_form hown
      go_wp2
      go_ret
      exact ⟨a', cap', rfl, length_bytesOf x j, hown, hbel⟩

end Go.Proofs.Ytpdggopkalbbeaa
