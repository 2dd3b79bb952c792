/-
  The walk of ShapeAbove: each level has as many items as stand above four of the one below: the law returns true.
-/
import Derived.Test.YtpdponcfgbceaaaH9
namespace Go.Proofs.Ytpdponcfgbceaaa
set_option linter.unusedVariables false
open Go.RowKit Plain

theorem Holds.drew {w : World} {S : Nat} {a : Option Addr} {n cap : Nat} {L : List Int} (h : Holds w S a n cap L) (k : Nat) : Holds (w.drewN k) S a n cap L := h.below (below_drewN (Below.refl _ _) k)

set_option maxRecDepth 20000 in
set_option maxHeartbeats 2000000 in
theorem above_core (leaves : Int) (k m n : Nat) (W : List Int) (w : World) (hl : 0 ≤ leaves ∧ leaves ≤ 65535) (hk : leaves % 1024 = (k : Int)) (hm : (k : Int) + 1 = (m : Int)) (h2 : m ≤ 1024) (hW : Shp W) (hWn : W.length = n) (hW0 : W.getD 0 0 = (m : Int)) (hT : 4 ≤ m → sumTo W n - (m : Int) < (m : Int))
    (CN : Box (∀ x, Calls Try.prog 9 #[.int .i64 m] x fun e w' => ∃ a cap, e = .returned (.tuple #[.agg #[.slice a n cap], .int .i64 0]) ∧ Ints w' a n W ∧ n ≤ cap ∧ Below x.heap.size x w')) :
    Calls Try.prog 7 #[.int .u16 leaves] w fun e w' => e = .returned (.bool true) ∧ Below w.heap.size w w' := by
  have CA : Box (∀ x, Calls Try.prog 8 #[] x fun e w' => e = .returned (.bool true) ∧ Below x.heap.size x w') := ⟨awake_any⟩
  have CI : Box (∀ x a cap, Ints x a n W → Calls Try.prog 20 #[.agg #[.slice a n cap]] x fun e w' => e = .returned (.int .i64 (sumTo W n)) ∧ Below x.heap.size x w') := ⟨fun x a cap h => items_any a n cap W x h hW⟩
  have HW : Box (Shp W) := ⟨hW⟩
  have HL : Box (W.length = n) := ⟨hWn⟩
  have H0 : Box (W.getD 0 0 = (m : Int)) := ⟨hW0⟩
  have HT : Box (4 ≤ m → sumTo W n - (m : Int) < (m : Int)) := ⟨hT⟩
  have hn6 : n ≤ 6 := by rw [← hWn]; exact hW.hi
  have hn2 : 2 ≤ n := by rw [← hWn]; exact hW.lo
  clear hW hWn hW0 hT
  go_enter Try.func7, Try.ntmps7
  go_upto_region 6 with (first
    | (refine wpList_newS w2 a n cap rfl _ _ rfl rfl rfl rfl ?_; intro z2 hz hb3; have H2 : Box (Holds z2 w2.heap.size a n cap W ∧ Below w.heap.size w z2) := ⟨⟨hz, hI.below hb3⟩, below_to (below_to H1.out hb2) hb3⟩; clear hz hb3 hI hb2 hcap)
    | (go_at_call 9; refine Calls.mono (CN.out w1) ?_; rintro e w2 ⟨a, cap, rfl, hI, hcap, hb2⟩)
    | (go_at_call 8; refine Calls.mono (CA.out w) ?_; rintro e w1 ⟨rfl, hb1⟩; have H1 : Box (Below w.heap.size w w1) := ⟨hb1⟩; clear hb1))
  generalize w2.heap.size = S at H2 ⊢
  obtain ⟨b1, o1, e1, _, c1⟩ := H2.out.1.2.2 (by omega)
  subst e1
  have hc := H2.out.1.cell
  have d0 : z2.cell? ⟨b1, o1, none⟩ = some (.int .i64 m) := by have := c1 0 (by omega); rw [H0.out] at this; exact this
  have g0 : ¬ (n : Int) < 2 := by omega
  clear c1
  go_wp2
  clear d0 hc
  go_loopw [7, 8] (fun s i wr => ∃ l : Nat, l ≤ n ∧ i = .int .i64 l ∧ s = .int .i64 (sumTo W l) ∧ Box (Holds wr S (some ⟨b1, o1, none⟩) n cap W ∧ Below w.heap.size w wr)) (fun _ i _ => n - (intOf i).toNat)
  case atStart => exact ⟨0, Nat.zero_le _, rfl, rfl, H2⟩
  case round =>
    obtain ⟨l, hl2, rfl, rfl, HI⟩ := hrel
    clear H2
    have hc := HI.out.1.cell
    by_cases hlt : l < n
    · have d1 := HI.out.1.2.cell l hlt
      have hb := HW.out.any l
      have hs0 := HW.out.sum l
      have hs : Box (sumTo W l + W.getD l 0 = sumTo W (l + 1)) := ⟨rfl⟩
      by_cases hl0 : l = 0
      · subst hl0
        rw [Nat.add_zero] at d1
        generalize sumTo W 0 = s at hs hs0
        generalize W.getD 0 0 = y at d1 hs hb
        go_wp2
        go_quiet (fail)
        have HI2 : Box (Holds (wr.drewN nq) S (some ⟨b1, o1, none⟩) n cap W ∧ Below w.heap.size w (wr.drewN nq)) := ⟨HI.out.1.drew nq, below_drewN HI.out.2 nq⟩
        generalize wr.drewN nq = x2 at HI2 ⊢
        clear d1 hc
        go_wp2
        go_roundw
        case rel => exact ⟨1, by omega, by go_num, by rw [← hs.out], HI2⟩
        case measure => simp [intOf]; omega
      · obtain ⟨j, hj⟩ : ∃ j : Nat, (l : Int) - 1 = (j : Int) := ⟨l - 1, by omega⟩
        have hjl : j + 1 = l := by omega
        have d2 := HI.out.1.2.cell j (by omega)
        have hst := HW.out.st j (by rw [HL.out]; omega)
        have hbj := HW.out.bd j (by rw [HL.out]; omega)
        rw [hjl] at hst
        have hon : 0 < j → W.getD j 0 ≠ 1 := fun h => HW.out.one j h (by rw [HL.out]; omega)
        generalize sumTo W l = s at hs hs0
        generalize W.getD l 0 = y at d1 hs hb hst
        generalize W.getD j 0 = x at d2 hst hbj hon
        have g1 : decide (0 < l) = true := by simp; omega
        have g2 : decide (4 * y < x) = false := by simp; omega
        have g3 : decide (x ≤ 4 * (y - 1)) = false := by simp; omega
        have hjn : j < n := by omega
        clear hst
        go_wp2
        go_quiet (fail)
        have HI2 : Box (Holds (wr.drewN nq) S (some ⟨b1, o1, none⟩) n cap W ∧ Below w.heap.size w (wr.drewN nq)) := ⟨HI.out.1.drew nq, below_drewN HI.out.2 nq⟩
        have hc2 : (wr.drewN nq).cell? ⟨S, 0, none⟩ = some (.slice (some ⟨b1, o1, none⟩) n cap) := HI2.out.1.cell
        have d3 : (wr.drewN nq).cell? ⟨b1, o1 + j, none⟩ = some (.int .i64 x) := d2
        generalize wr.drewN nq = x2 at HI2 hc2 d3 ⊢
        clear d1 d2 hc g1 g2 g3
        by_cases hl1 : l = 1
        · have g4 : ¬ (1 : Int) < (l : Int) := by omega
          have HL1 : Box (l = 1) := ⟨hl1⟩
          clear hl1 hon hj hjl
          go_wp2
          go_roundw
          case rel => exact ⟨l + 1, by omega, by go_num, by rw [← hs.out], HI2⟩
          case measure => simp [intOf]; omega
        · have g4 : (1 : Int) < (l : Int) := by omega
          have g5 : (x == 1) = false := by simpa using hon (by omega)
          clear hon hjl hl1 hl0
          go_wp2
          go_roundw
          case rel => exact ⟨l + 1, by omega, by go_num, by rw [← hs.out], HI2⟩
          case measure => simp [intOf]; omega
    · obtain rfl : l = n := by omega
      have hs0 := HW.out.sum l
      have HTT := HT.out
      have HCI : Box (∀ x a cap, Ints x a l W → Calls Try.prog 20 #[.agg #[.slice a l cap]] x fun e w' => e = .returned (.int .i64 (sumTo W l)) ∧ Below x.heap.size x w') := CI
      clear CI HT
      generalize sumTo W l = s at hs0 HTT HCI
      by_cases h4 : m < 4
      · have g4 : (m : Int) < 4 := by omega
        clear HTT h4
        go_wp2_with (first
          | (go_at_call 20; refine Calls.mono (HCI.out wr _ cap HI.out.1.2) ?_; rintro e w9 ⟨rfl, hb⟩; have H9 : Box (Below w.heap.size w w9) := ⟨below_to HI.out.2 hb⟩; clear hb)
          | (refine wpList_ldS rfl _ rfl _ _ rfl HI.out.1.1 ?_))
        go_ret
        exact ⟨rfl, H9.out⟩
      · have g4 : ¬ (m : Int) < 4 := by omega
        have g5 := HTT (by omega)
        clear HTT h4
        go_wp2_with (first
          | (go_at_call 20; refine Calls.mono (HCI.out wr _ cap HI.out.1.2) ?_; rintro e w9 ⟨rfl, hb⟩; have H9 : Box (Below w.heap.size w w9) := ⟨below_to HI.out.2 hb⟩; clear hb)
          | (refine wpList_ldS rfl _ rfl _ _ rfl HI.out.1.1 ?_))
        go_ret
        exact ⟨rfl, H9.out⟩

theorem shapeAbove_walk (leaves : Int) (w : World) (hw : (Lit.int .u16 leaves).wf = true) :
    Calls Try.prog 7 #[.int .u16 leaves] w fun e w' => e = .returned (.bool true) ∧ Below w.heap.size w w' := by
  have b := bounds_u16 hw
  obtain ⟨k, hk⟩ : ∃ k : Nat, leaves % 1024 = (k : Int) := ⟨(leaves % 1024).toNat, by omega⟩
  exact above_core leaves k (k + 1) _ (wid (k + 1)) w ⟨by omega, by omega⟩ hk (by omega) (by omega) (shp_wid _ (by omega) (by omega)) rfl (wid_zero _) (fun h => less_wid _ (by omega) (by omega) h) ⟨fun x => new_ok _ x (by omega) (by omega)⟩
end Go.Proofs.Ytpdponcfgbceaaa
