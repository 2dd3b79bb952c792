/-
  What the reference's Items, Item, Level, Place and Path answer, for every shape that may be.
-/
import Derived.Test.YtpdponcfgbceaaaH5
namespace Go.Proofs.Ytpdponcfgbceaaa
set_option linter.unusedVariables false
open Go.RowKit Plain

set_option maxHeartbeats 400000 in
theorem ritems_any (a : Option Addr) (n cap : Nat) (L : List Int) (w : World) (hI : Ints w a n L) (hb : ∀ i, 0 ≤ L.getD i 0 ∧ L.getD i 0 ≤ 1024) (hs : ∀ k, 0 ≤ sumTo L k ∧ sumTo L k ≤ 1024 * (k : Int)) (hn : n ≤ 6) :
    Calls Try.prog 21 #[.slice a n cap] w fun e w' => e = .returned (.int .i64 (sumTo L n)) ∧ w = w' := by
  have HI : Box (Ints w a n L) := ⟨hI⟩
  have HS : Box ((∀ i, 0 ≤ L.getD i 0 ∧ L.getD i 0 ≤ 1024) ∧ ∀ k, 0 ≤ sumTo L k ∧ sumTo L k ≤ 1024 * (k : Int)) := ⟨hb, hs⟩
  clear hI hb hs
  go_enter Try.func21, Try.ntmps21
  go_wp2
  go_loop [3, 4] (fun s i => ∃ j : Nat, j ≤ n ∧ i = .int .i64 j ∧ s = .int .i64 (sumTo L j)) (fun _ i => n - (intOf i).toNat)
  case atStart => exact ⟨0, Nat.zero_le _, rfl, rfl⟩
  case round =>
    obtain ⟨j, hj, rfl, rfl⟩ := hrel
    by_cases hlt : j < n
    · obtain ⟨b1, o1, e1, _, c1⟩ := HI.out.2 (by omega)
      subst e1
      have d1 := c1 j hlt
      clear c1
      have hb := HS.out.1 j
      have hs0 := HS.out.2 j
      have hs : Box (sumTo L j + L.getD j 0 = sumTo L (j + 1)) := ⟨rfl⟩
      generalize sumTo L j = s at hs hs0
      generalize L.getD j 0 = z at d1 hs hb
      go_wp2
      go_round
      case rel => exact ⟨j + 1, by omega, by go_num, by rw [hs.out]⟩
      case measure => simp [intOf]; omega
    · obtain rfl : j = n := by omega
      go_wp2
      go_ret
      exact ⟨rfl, rfl⟩

theorem take_get (L : List Int) (l i : Nat) : (L.take l).getD i 0 = if i < l then L.getD i 0 else 0 := by
  by_cases h : i < l
  · simp [List.getD, h]
  · rw [if_neg h, getD_high0 _ _ (by rw [List.length_take]; omega)]
theorem sumTo_take (L : List Int) (l j : Nat) (h : j ≤ l) : sumTo (L.take l) j = sumTo L j := by
  induction j with
  | zero => rfl
  | succ j ih => rw [sumTo, sumTo, ih (by omega), take_get, if_pos (by omega)]
theorem bd_take {L : List Int} (h : ∀ i, 0 ≤ L.getD i 0 ∧ L.getD i 0 ≤ 1024) (l : Nat) : ∀ i, 0 ≤ (L.take l).getD i 0 ∧ (L.take l).getD i 0 ≤ 1024 := by
  intro i
  rw [take_get]
  split
  · exact h i
  · omega
theorem bd_sum {L : List Int} (h : ∀ i, 0 ≤ L.getD i 0 ∧ L.getD i 0 ≤ 1024) (k : Nat) : 0 ≤ sumTo L k ∧ sumTo L k ≤ 1024 * (k : Int) := by
  induction k with
  | zero => simp [sumTo]
  | succ k ih =>
    have := h k
    rw [sumTo]
    omega

set_option maxHeartbeats 1000000 in
theorem ritem_ok (a : Option Addr) (n cap l : Nat) (i : Int) (L : List Int) (w : World) (hI : Ints w a n L) (hS : Shp L) (hcap : n ≤ cap) (hl : l < n) (hi : 0 ≤ i) (hL : i < L.getD l 0) :
    Calls Try.prog 13 #[.slice a n cap, .int .i64 l, .int .i64 i] w fun e w' => e = .returned (.tuple #[.int .i64 (sumTo L l + i), .int .i64 0]) ∧ w = w' := by
  have hn : n ≤ 6 := by rw [← hI.1]; exact hS.hi
  obtain ⟨a', hsl, hB'⟩ := islice_hi a n cap l (by omega) hcap
  have HC : Box (Calls Try.prog 21 #[.slice a' l cap] w fun e w' => e = .returned (.int .i64 (sumTo L l)) ∧ w = w') := ⟨by
    have := ritems_any a' l cap (L.take l) w (hB' w L hI) (bd_take hS.any l) (bd_sum (bd_take hS.any l)) (by omega)
    rwa [sumTo_take L l l (Nat.le_refl _)] at this⟩
  obtain ⟨b1, o1, e1, _, c1⟩ := hI.2 (by omega)
  subst e1
  have d1 := c1 l hl
  have h3 := hS.sum l
  have h4 := hS.any l
  clear hI hS c1 hB'
  generalize L.getD l 0 = z at d1 hL h4
  generalize sumTo L l = s at HC h3 ⊢
  go_enter Try.func13, Try.ntmps13
  go_wp2_with (go_at_call 21; refine Calls.mono HC.out ?_; rintro e w' ⟨rfl, rfl⟩)
  go_ret2
  exact ⟨rfl, rfl⟩

set_option maxHeartbeats 1000000 in
theorem ritem_no (a : Option Addr) (n cap : Nat) (level i : Int) (L : List Int) (w : World) (hI : Ints w a n L)
    (h : level < 0 ∨ (n : Int) ≤ level ∨ i < 0 ∨ ∃ l : Nat, level = (l : Int) ∧ l < n ∧ 0 ≤ i ∧ L.getD l 0 ≤ i) :
    Calls Try.prog 13 #[.slice a n cap, .int .i64 level, .int .i64 i] w fun e w' => e = .returned (.tuple #[.int .i64 0, .int .i64 12]) ∧ w = w' := by
  by_cases h1 : level < 0
  · clear h hI
    go_enter Try.func13, Try.ntmps13
    go_wp2
    go_ret2
    exact ⟨rfl, rfl⟩
  by_cases h2 : (n : Int) ≤ level
  · clear h hI
    go_enter Try.func13, Try.ntmps13
    go_wp2
    go_ret2
    exact ⟨rfl, rfl⟩
  by_cases h3 : i < 0
  · clear h hI
    go_enter Try.func13, Try.ntmps13
    go_wp2
    go_ret2
    exact ⟨rfl, rfl⟩
  obtain ⟨l, rfl, hl, _, hz⟩ : ∃ l : Nat, level = (l : Int) ∧ l < n ∧ 0 ≤ i ∧ L.getD l 0 ≤ i := by
    rcases h with h | h | h | h
    · omega
    · omega
    · omega
    · exact h
  obtain ⟨b1, o1, e1, _, c1⟩ := hI.2 (by omega)
  subst e1
  have d1 := c1 l hl
  clear h hI c1 h1
  generalize L.getD l 0 = z at d1 hz
  go_enter Try.func13, Try.ntmps13
  go_wp2
  go_ret2
  exact ⟨rfl, rfl⟩
theorem ritem_any (a : Option Addr) (n cap : Nat) (level i x y : Int) (L : List Int) (w : World) (hI : Ints w a n L) (hS : Shp L) (hcap : n ≤ cap) (h : Itm L n level i x y) :
    Calls Try.prog 13 #[.slice a n cap, .int .i64 level, .int .i64 i] w fun e w' => e = .returned (.tuple #[.int .i64 x, .int .i64 y]) ∧ w = w' := by
  rcases h with ⟨l, rfl, hl, hi, hL, rfl, rfl⟩ | ⟨h, rfl, rfl⟩
  · exact ritem_ok a n cap l i L w hI hS hcap hl hi hL
  · exact ritem_no a n cap level i L w hI h
end Go.Proofs.Ytpdponcfgbceaaa
