/-
  What the Go functions lay and Get of package word do, for every argument that the statements hand them.
-/
import Derived.Test.YtpdggopkalbbeaaU4
import Derived.Test.YtpdggopkalbbeaaU1
namespace Go.Proofs.Ytpdggopkalbbeaa
set_option linter.unusedVariables false
open Go.RowKit Plain

set_option maxHeartbeats 400000 in
theorem lay_any (g off n cap : Nat) (cur : List Value) (x : Int) (w : World) (hx0 : 0 ≤ x) (hx1 : x ≤ 18446744073709551615) (hn : n ≤ 8) (hg : w.heap[g]? = some (.cells cur.toArray 5 (0, 0))) (hfit : off + n ≤ cur.length) :
    Calls Try.prog 24 #[.slice (some ⟨g, off, none⟩) n cap, .int .u64 x] w fun e w' => e = .returned (.tuple #[]) ∧ w'.heap[g]? = some (.cells (splice cur off (bys x n)).toArray 5 (0, 0)) ∧ w.grownBy w' (some g) ∧ w'.heap.size = w.heap.size := by
  go_enter Try.func24, Try.ntmps24
  go_wp2
  go_loopw [7] (fun i wr => ∃ k : Nat, k ≤ n ∧ i = .int .i64 k ∧ wr.heap[g]? = some (.cells (splice cur off (bys x k)).toArray 5 (0, 0)) ∧ w.grownBy wr (some g) ∧ wr.heap.size = w.heap.size) (fun i _ => n - (intOf i).toNat)
  case atStart => exact ⟨0, Nat.zero_le _, rfl, by rw [bys_zero, splice_nil]; exact hg, World.grownBy.refl _ _, rfl⟩
  case round =>
    obtain ⟨k, hk, rfl, hg', hgr, hsz⟩ := hrel
    by_cases hlt : k < n
    · have hf : wr.frozen? ⟨g, off + k, none⟩ = false := frozen_of_row wr g (off + k) _ 5 hg'
      obtain ⟨v, hc⟩ := cell_row wr g (off + k) _ 5 hg' (by rw [length_splice _ _ _ (by rw [length_bys]; omega)]; omega)
      have R := lay_step w wr g off k cur x (by omega) hg' hgr hsz
      go_wp2
      go_roundw
      case rel => exact ⟨k + 1, by omega, by go_num, R⟩
      case measure => simp [intOf]; omega
    · obtain rfl : k = n := by omega
      go_wp2
      go_end0
      exact ⟨rfl, hg', hgr, hsz⟩

set_option maxHeartbeats 400000 in
theorem get_ok (a : Option Addr) (len cap : Nat) (L : List Int) (p n : Nat) (w : World) (hb : Bytes w a len L) (hl : len ≤ maxLen) (hn1 : 1 ≤ n) (hn2 : n ≤ 8) (hp : p + n ≤ len) :
    Calls Try.prog 19 #[.slice a len cap, .int .i64 p, .int .i64 n] w fun e w' => e = .returned (.tuple #[.int .u64 (num L p n), .int .i64 0]) ∧ w = w' := by
  obtain ⟨hL, hz, hc⟩ := hb
  obtain ⟨b, off, rfl, hlt, hc⟩ := hc (by omega)
  have hl' := hl
  unfold maxLen at hl'
  go_enter Try.func19, Try.ntmps19
  go_wp2_with (go_at_call 25; refine (check_ok _ _ _ _ _ _ (by omega) (by omega) hl (by omega) (by omega)).mono ?_; rintro e w' ⟨rfl, rfl⟩)
  go_loop [9, 19] (fun t i => ∃ k : Nat, k ≤ n ∧ i = .int .i64 k ∧ t = .int .u64 (num L p k)) (fun _ i => n - (intOf i).toNat)
  case atStart => exact ⟨0, Nat.zero_le _, rfl, rfl⟩
  case round =>
    obtain ⟨k, hk, rfl, rfl⟩ := hrel
    by_cases hlt : k < n
    · have hck := hc (p + k) (by omega)
      have hzk := hz (p + k)
      have hs : num L p (k + 1) = num L p k + L.getD (p + k) 0 * 2 ^ (8 * k) := rfl
      generalize L.getD (p + k) 0 = z at hck hzk hs
      have hnb := num_bd L p hz k
      generalize num L p k = t at hnb hs
      have HS : Hid (bits .or .u64 t (IntKind.u64.wrap (z * 2 ^ (8 * k))) = num L p (k + 1)) := by rw [hs]; exact or_step k (by omega) t z hnb hzk
      clear hc hz hs
      go_wp2
      go_round
      case rel => exact ⟨k + 1, by omega, by go_num, by rw [HS.out]⟩
      case measure => simp [intOf]; omega
    · obtain rfl : k = n := by omega
      go_wp2
      go_ret2
      exact ⟨rfl, rfl⟩


set_option maxHeartbeats 400000 in
theorem get_arg (a : Option Addr) (len cap : Nat) (p n : Int) (w : World) (h : n < 1 ∨ 8 < n) :
    Calls Try.prog 19 #[.slice a len cap, .int .i64 p, .int .i64 n] w fun e w' => e = .returned (.tuple #[.int .u64 0, .int .i64 1]) ∧ w = w' := by
  go_enter Try.func19, Try.ntmps19
  go_wp2_with (go_at_call 25; refine (check_arg _ _ _ _ _ _ h).mono ?_; rintro e w' ⟨rfl, rfl⟩)
  go_ret2
  exact ⟨rfl, rfl⟩

set_option maxHeartbeats 400000 in
theorem get_range (a : Option Addr) (len cap : Nat) (p n : Int) (w : World) (h1 : 1 ≤ n) (h2 : n ≤ 8) (hl : len ≤ maxLen) (h : p < 0 ∨ (len : Int) - n < p) :
    Calls Try.prog 19 #[.slice a len cap, .int .i64 p, .int .i64 n] w fun e w' => e = .returned (.tuple #[.int .u64 0, .int .i64 12]) ∧ w = w' := by
  go_enter Try.func19, Try.ntmps19
  go_wp2_with (go_at_call 25; refine (check_range _ _ _ _ _ _ h1 h2 hl h).mono ?_; rintro e w' ⟨rfl, rfl⟩)
  go_ret2
  exact ⟨rfl, rfl⟩

end Go.Proofs.Ytpdggopkalbbeaa
