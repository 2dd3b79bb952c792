/-
  What the functions Road answer, the code's and the reference's, for every number.
-/
import Derived.Test.YtpdggopkalbbeaaNA
namespace Go.Proofs.Ytpdggopkalbbeaa
set_option linter.unusedVariables false
open Go.RowKit Plain

/-- A row of ints in memory. -/
def Way (w : World) (a : Option Addr) (L : List Int) : Prop := 0 < L.length → ∃ b, a = some ⟨b, 0, none⟩ ∧ b < w.heap.size ∧ ∀ j, j < L.length → w.cell? ⟨b, j, none⟩ = some (.int .i64 (L.getD j 0))
theorem Way.on {w w' : World} {a : Option Addr} {L : List Int} (h : Way w a L) (hb : Below w.heap.size w w') : Way w' a L := fun hp => by
  obtain ⟨b, e, hlt, hc⟩ := h hp
  refine ⟨b, e, Nat.lt_of_lt_of_le hlt hb.size, fun j hj => ?_⟩
  rw [← hc j hj]
  unfold World.cell?
  simp only
  rw [hb.block b hlt]
theorem way_nil (w : World) (a : Option Addr) : Way w a [] := fun h => by simp at h
theorem way_new (w : World) (L : List Int) : Way (w.alloc (.cells (i64s L) 3)) (some ⟨w.heap.size, 0, none⟩) L := fun _ => by
  refine ⟨w.heap.size, rfl, by simp, fun j hj => ?_⟩
  rw [cell_of_row _ _ _ _ _ _ (al_at rfl)]
  simp [i64s, hj]
/-- Which number, which places, which error. -/
def rk (i : Int) : Int := if i < 0 ∨ 6483 ≤ i then 0 else if i < 3 then i else if i < 83 then 3 else 4
def rl (i : Int) : List Int := if i < 3 ∨ 6483 ≤ i then [] else if i < 83 then [i - 3] else [(i - 83) / 80, (i - 83) % 80]
def re (i : Int) : Int := if i < 0 ∨ 6483 ≤ i then 27 else 0

set_option maxHeartbeats 1000000 in
theorem road_any (i : Int) (w : World) (h9 : -9223372036854775808 ≤ i ∧ i ≤ 9223372036854775807) : Calls Try.prog 14 #[.int .i64 i] w fun e w' => ∃ a, e = .returned (.tuple #[.int .i64 (rk i), .slice a (rl i).length (rl i).length, .int .i64 (re i)]) ∧ Way w' a (rl i) ∧ Below w.heap.size w w' := by
  by_cases h0 : i < 0
  · have e1 : rk i = 0 := if_pos (.inl h0)
    have e2 : rl i = [] := if_pos (.inl (by omega))
    have e3 : re i = 27 := if_pos (.inl h0)
    rw [e1, e2, e3]
    clear e1 e2 e3
    go_enter Try.func14, Try.ntmps14
    go_wp2
    go_ret3
    exact ⟨none, rfl, way_nil _ _, Below.refl _ _⟩
  by_cases h1 : 6483 ≤ i
  · have e1 : rk i = 0 := if_pos (.inr h1)
    have e2 : rl i = [] := if_pos (.inr h1)
    have e3 : re i = 27 := if_pos (.inr h1)
    rw [e1, e2, e3]
    clear e1 e2 e3
    go_enter Try.func14, Try.ntmps14
    go_wp2
    go_ret3
    exact ⟨none, rfl, way_nil _ _, Below.refl _ _⟩
  have e3 : re i = 0 := if_neg (by omega)
  by_cases h2 : i < 3
  · have e1 : rk i = i := by unfold rk; rw [if_neg (by omega), if_pos h2]
    have e2 : rl i = [] := if_pos (.inl h2)
    rw [e1, e2, e3]
    clear e1 e2 e3
    go_enter Try.func14, Try.ntmps14
    go_wp2
    go_ret3
    exact ⟨none, rfl, way_nil _ _, Below.refl _ _⟩
  by_cases h3 : i < 83
  · have e1 : rk i = 3 := by unfold rk; rw [if_neg (by omega), if_neg h2, if_pos h3]
    have e2 : rl i = [i - 3] := by unfold rl; rw [if_neg (by omega), if_pos h3]
    rw [e1, e2, e3]
    clear e1 e2 e3
    go_enter Try.func14, Try.ntmps14
    go_wp2
    go_ret3
    exact ⟨_, rfl, way_new w [i - 3], box_below _ _⟩
  · have e1 : rk i = 4 := by unfold rk; rw [if_neg (by omega), if_neg h2, if_neg h3]
    have e2 : rl i = [(i - 83) / 80, (i - 83) % 80] := by unfold rl; rw [if_neg (by omega), if_neg h3]
    rw [e1, e2, e3]
    clear e1 e2 e3
    have d1 : (i - 3 - 80).tdiv 80 = (i - 83) / 80 := by rw [Int.tdiv_eq_ediv_of_nonneg (by omega)]; congr 1; omega
    have d2 : (i - 3 - 80).tmod 80 = (i - 83) % 80 := by rw [Int.tmod_eq_emod_of_nonneg (by omega)]; congr 1; omega
    have b1 : 0 ≤ (i - 83) / 80 ∧ (i - 83) / 80 ≤ 80 := by omega
    have b2 : 0 ≤ (i - 83) % 80 ∧ (i - 83) % 80 ≤ 79 := by omega
    generalize (i - 83) / 80 = q at d1 b1 ⊢
    generalize (i - 83) % 80 = r at d2 b2 ⊢
    go_enter Try.func14, Try.ntmps14
    go_wp2
    go_ret3
    exact ⟨_, rfl, way_new w [q, r], box_below _ _⟩

set_option maxHeartbeats 1000000 in
theorem rroad_any (i : Int) (w : World) (h9 : -9223372036854775808 ≤ i ∧ i ≤ 9223372036854775807) : Calls Try.prog 15 #[.int .i64 i] w fun e w' => ∃ a, e = .returned (.tuple #[.int .i64 (rk i), .slice a (rl i).length (rl i).length, .int .i64 (re i)]) ∧ Way w' a (rl i) ∧ Below w.heap.size w w' := by
  by_cases h0 : i < 0
  · have e1 : rk i = 0 := if_pos (.inl h0)
    have e2 : rl i = [] := if_pos (.inl (by omega))
    have e3 : re i = 27 := if_pos (.inl h0)
    rw [e1, e2, e3]
    clear e1 e2 e3
    go_enter Try.func15, Try.ntmps15
    go_wp2
    go_ret3
    exact ⟨none, rfl, way_nil _ _, Below.refl _ _⟩
  by_cases h1 : 6482 < i
  · have e1 : rk i = 0 := if_pos (.inr (by omega))
    have e2 : rl i = [] := if_pos (.inr (by omega))
    have e3 : re i = 27 := if_pos (.inr (by omega))
    rw [e1, e2, e3]
    clear e1 e2 e3
    go_enter Try.func15, Try.ntmps15
    go_wp2
    go_ret3
    exact ⟨none, rfl, way_nil _ _, Below.refl _ _⟩
  have e3 : re i = 0 := if_neg (by omega)
  by_cases h2 : i < 3
  · have e1 : rk i = i := by unfold rk; rw [if_neg (by omega), if_pos h2]
    have e2 : rl i = [] := if_pos (.inl h2)
    rw [e1, e2, e3]
    clear e1 e2 e3
    go_enter Try.func15, Try.ntmps15
    go_wp2
    go_ret3
    exact ⟨none, rfl, way_nil _ _, Below.refl _ _⟩
  by_cases h3 : i < 83
  · have e1 : rk i = 3 := by unfold rk; rw [if_neg (by omega), if_neg h2, if_pos h3]
    have e2 : rl i = [i - 3] := by unfold rl; rw [if_neg (by omega), if_pos h3]
    rw [e1, e2, e3]
    clear e1 e2 e3
    go_enter Try.func15, Try.ntmps15
    go_wp2
    go_ret3
    exact ⟨_, rfl, way_new w [i - 3], box_below _ _⟩
  · have e1 : rk i = 4 := by unfold rk; rw [if_neg (by omega), if_neg h2, if_neg h3]
    have e2 : rl i = [(i - 83) / 80, (i - 83) % 80] := by unfold rl; rw [if_neg (by omega), if_neg h3]
    rw [e1, e2, e3]
    clear e1 e2 e3
    obtain ⟨m, rfl⟩ : ∃ m : Nat, i = 83 + (m : Int) := ⟨(i - 83).toNat, by omega⟩
    have HM : Box (m ≤ 6400) := ⟨by omega⟩
    have em : 83 + (m : Int) - 83 = m := by omega
    rw [em]
    obtain ⟨q, hq⟩ : ∃ q : Nat, Box ((m : Int) / 80 = q ∧ q = m / 80) := ⟨m / 80, ⟨by omega, rfl⟩⟩
    obtain ⟨r, hr⟩ : ∃ r : Nat, Box ((m : Int) % 80 = r ∧ r = m % 80) := ⟨m % 80, ⟨by omega, rfl⟩⟩
    rw [hq.out.1, hr.out.1]
    go_enter Try.func15, Try.ntmps15
    go_wp2
    clear h0 h1 h2 h3
    go_loop [5, 6] (fun u d => ∃ k j : Nat, Box (80 * k + j = m) ∧ j ≤ 6400 ∧ k ≤ 80 ∧ d = .int .i64 (k : Int) ∧ u = .int .i64 (j : Int)) (fun u _ => (intOf u).toNat)
    case atStart => exact ⟨0, m, ⟨by omega⟩, HM.out, by omega, rfl, by congr 1 <;> omega⟩
    case round =>
      obtain ⟨k, j, he, hj, hk, rfl, rfl⟩ := hrel
      by_cases hlt : 80 ≤ j
      · have g5 : (80 : Int) ≤ (j : Int) := by omega
        have hk1 : k + 1 ≤ 80 := by have := he.out; have := HM.out; omega
        go_wp2
        go_round
        case rel => exact ⟨k + 1, j - 80, ⟨by have := he.out; omega⟩, by omega, hk1, by go_num, by congr 1 <;> omega⟩
        case measure => simp [intOf]; omega
      · have g5 : ¬ (80 : Int) ≤ (j : Int) := by omega
        have HE : Box (k = q ∧ j = r) := ⟨by have := he.out; have := hq.out.2; have := hr.out.2; omega⟩
        clear he hq hr HM
        obtain ⟨rfl, rfl⟩ := HE.out
        clear HE
        go_wp2
        go_ret3
        exact ⟨_, rfl, way_new w [(k : Int), (j : Int)], box_below _ _⟩
end Go.Proofs.Ytpdggopkalbbeaa
