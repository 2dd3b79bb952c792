/-
  Shapes of trees in plain numbers: widths, sums of widths, paths; nothing of the program is said here.
-/
import Derived.Test.YtpdponcfgbceaaaA1
namespace Go.Proofs.Ytpdponcfgbceaaa.Plain
set_option linter.unusedVariables false
open Go.RowKit

/-- How many items stand above n. -/
def up (n : Nat) : Nat := (n + 3) / 4
/-- The widths above a level of n items, f of them at most. -/
def ups : Nat → Nat → List Int
  | 0, _ => []
  | f + 1, n => if n ≤ 1 then [] else ((up n : Nat) : Int) :: ups f (up n)
/-- The widths of a tree of n leaves (n at most 1024). -/
def wid (n : Nat) : List Int := (n : Int) :: ((up n : Nat) : Int) :: ups 4 (up n)
theorem ups_end (f n : Nat) (h : n ≤ 1) : ups f n = [] := by
  cases f with
  | zero => rfl
  | succ f => simp [ups, h]
theorem ups_step (f n : Nat) (h : 1 < n) (hf : n ≤ 4 ^ f) : ∃ g, ups f n = ((up n : Nat) : Int) :: ups g (up n) ∧ up n ≤ 4 ^ g := by
  cases f with
  | zero => simp at hf; omega
  | succ f =>
    refine ⟨f, by simp [ups]; omega, ?_⟩
    rw [Nat.pow_succ] at hf
    unfold up
    omega
/-- All that is asked of a shape's widths. -/
structure Shp (L : List Int) : Prop where
  lo : 2 ≤ L.length
  hi : L.length ≤ 6
  bd : ∀ i, i < L.length → 1 ≤ L.getD i 0 ∧ L.getD i 0 ≤ 1024
  st : ∀ i, i + 1 < L.length → L.getD (i + 1) 0 = (L.getD i 0 + 3) / 4
  one : ∀ i, 0 < i → i + 1 < L.length → L.getD i 0 ≠ 1
  top : L.getD (L.length - 1) 0 = 1
def shpB (L : List Int) : Bool :=
  decide (2 ≤ L.length) && decide (L.length ≤ 6) && (List.range L.length).all (fun i => decide (1 ≤ L.getD i 0) && decide (L.getD i 0 ≤ 1024)) &&
    (List.range L.length).all (fun i => !decide (i + 1 < L.length) || decide (L.getD (i + 1) 0 = (L.getD i 0 + 3) / 4)) &&
    (List.range L.length).all (fun i => !decide (0 < i) || !decide (i + 1 < L.length) || !decide (L.getD i 0 = 1)) && decide (L.getD (L.length - 1) 0 = 1)
theorem shp_of (L : List Int) (h : shpB L = true) : Shp L := by
  simp only [shpB, Bool.and_eq_true, Bool.or_eq_true, Bool.not_eq_true', List.all_eq_true, List.mem_range, decide_eq_true_eq, decide_eq_false_iff_not] at h
  obtain ⟨⟨⟨⟨⟨h1, h2⟩, h3⟩, h4⟩, h5⟩, h6⟩ := h
  refine ⟨h1, h2, h3, fun i hi => ?_, fun i h0 hi => ?_, h6⟩
  · rcases h4 i (by omega) with h | h
    · omega
    · exact h
  · rcases h5 i (by omega) with (h | h) | h
    · omega
    · omega
    · exact h
theorem all_shp : (List.range 1024).all (fun n => shpB (wid (n + 1))) = true := by decide +kernel
theorem shp_wid (n : Nat) (h1 : 1 ≤ n) (h2 : n ≤ 1024) : Shp (wid n) := by
  have h := List.all_eq_true.1 all_shp (n - 1) (List.mem_range.2 (by omega))
  rw [show n - 1 + 1 = n by omega] at h
  exact shp_of _ h
theorem all_less : (List.range 1024).all (fun n => decide (n + 1 < 4) || decide (sumTo (wid (n + 1)) (wid (n + 1)).length - ((n + 1 : Nat) : Int) < ((n + 1 : Nat) : Int))) = true := by decide +kernel
theorem less_wid (n : Nat) (h1 : 1 ≤ n) (h2 : n ≤ 1024) (h4 : 4 ≤ n) : sumTo (wid n) (wid n).length - (n : Int) < (n : Int) := by
  have h := List.all_eq_true.1 all_less (n - 1) (List.mem_range.2 (by omega))
  rw [show n - 1 + 1 = n by omega] at h
  simp only [Bool.or_eq_true, decide_eq_true_eq] at h
  omega
theorem wid_zero (n : Nat) : (wid n).getD 0 0 = (n : Int) := rfl
theorem Shp.any {L : List Int} (h : Shp L) (i : Nat) : 0 ≤ L.getD i 0 ∧ L.getD i 0 ≤ 1024 := by
  by_cases hi : i < L.length
  · have := h.bd i hi; omega
  · rw [getD_high0 L i (by omega)]; omega
theorem Shp.sum {L : List Int} (h : Shp L) (k : Nat) : 0 ≤ sumTo L k ∧ sumTo L k ≤ 1024 * (k : Int) := by
  induction k with
  | zero => simp [sumTo]
  | succ k ih =>
    have := h.any k
    rw [sumTo]
    omega
theorem Shp.mono {L : List Int} (h : Shp L) (j k : Nat) (hk : j ≤ k) : sumTo L j ≤ sumTo L k := by
  induction k with
  | zero => rw [Nat.le_zero.1 hk]; exact Int.le_refl _
  | succ k ih =>
    by_cases e : j = k + 1
    · rw [e]; exact Int.le_refl _
    · have := ih (by omega)
      have := h.any k
      rw [sumTo]; omega
/-- Each item stands on one level. -/
theorem find_level (L : List Int) (n : Nat) (x : Int) (h0 : 0 ≤ x) (h : x < sumTo L n) : ∃ l, l < n ∧ sumTo L l ≤ x ∧ x < sumTo L (l + 1) := by
  induction n with
  | zero => simp [sumTo] at h; omega
  | succ n ih =>
    by_cases e : x < sumTo L n
    · obtain ⟨l, h1, h2⟩ := ih e
      exact ⟨l, by omega, h2⟩
    · exact ⟨n, by omega, by omega, h⟩
/-- The first k items of a leaf's path. -/
def pth (L : List Int) (q : Nat) : Nat → List Int
  | 0 => []
  | k + 1 => pth L q k ++ [sumTo L k + ((q / 4 ^ k : Nat) : Int)]
theorem length_pth (L : List Int) (q k : Nat) : (pth L q k).length = k := by
  induction k with
  | zero => rfl
  | succ k ih => simp [pth, ih]
theorem pth_get (L : List Int) (q n k : Nat) (h : k < n) : (pth L q n).getD k 0 = sumTo L k + ((q / 4 ^ k : Nat) : Int) := by
  induction n with
  | zero => omega
  | succ n ih =>
    rw [pth, getD_app, length_pth]
    by_cases e : k < n
    · rw [if_pos e, ih e]
    · obtain rfl : k = n := by omega
      rw [if_neg e]
      simp
theorem quart (q k : Nat) : q / 4 ^ (k + 1) = q / 4 ^ k / 4 := by rw [Nat.pow_succ, Nat.div_div_eq_div_mul]
/-- A path's items are there, each on its level. -/
theorem Shp.quart_lt {L : List Int} (h : Shp L) (q : Nat) (hq : (q : Int) < L.getD 0 0) (k : Nat) (hk : k < L.length) : ((q / 4 ^ k : Nat) : Int) < L.getD k 0 := by
  induction k with
  | zero => simpa using hq
  | succ k ih =>
    have := ih (by omega)
    have := h.st k hk
    rw [quart]
    omega
theorem Shp.quart_top {L : List Int} (h : Shp L) (q : Nat) (hq : (q : Int) < L.getD 0 0) : q / 4 ^ (L.length - 1) = 0 := by
  have := h.quart_lt q hq (L.length - 1) (by have := h.lo; omega)
  rw [h.top] at this
  generalize q / 4 ^ (L.length - 1) = z at this ⊢
  omega
end Go.Proofs.Ytpdponcfgbceaaa.Plain
