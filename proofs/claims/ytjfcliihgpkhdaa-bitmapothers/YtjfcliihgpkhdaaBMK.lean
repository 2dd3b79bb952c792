/-
  The walk of BitmapOthers: a bit that is set, or cleared, is so; all others are as they were, and what it was set in stays: the law returns true.
-/
import Derived.Test.YtjfcliihgpkhdaaBMI
namespace Go.Proofs.Ytjfcliihgpkhdaa
set_option linter.unusedVariables false
open Go.RowKit Plain

set_option maxRecDepth 20000 in
set_option maxHeartbeats 2000000 in
theorem others_any (a : Option Addr) (n cap : Nat) (B : List Int) (i j : Int) (on : Bool) (w : World) (hB : Bytes w a n B) (hn0 : 0 < n) (hn : n ≤ 100) (hi : 0 ≤ i ∧ i ≤ 65535) (hj : 0 ≤ j ∧ j ≤ 65535) :
    Calls Try.prog 7 #[.slice a n cap, .int .u16 i, .int .u16 j, .bool on] w fun e w' => e = .returned (.bool true) ∧ Below w.heap.size w w' := by
  have HB : Box (∀ x, Below w.heap.size w x → Bytes x a n B) := ⟨fun x hx => hB.below hx⟩
  have HA : Box _ := ⟨awake_any w⟩
  obtain ⟨x, hx⟩ : ∃ x : Nat, i % (8 * (n : Int)) = (x : Int) := ⟨(i % (8 * (n : Int))).toNat, by have := Int.emod_nonneg i (show 8 * (n : Int) ≠ 0 by omega); omega⟩
  obtain ⟨y, hy⟩ : ∃ y : Nat, j % (8 * (n : Int)) = (y : Int) := ⟨(j % (8 * (n : Int))).toNat, by have := Int.emod_nonneg j (show 8 * (n : Int) ≠ 0 by omega); omega⟩
  have hxn : x < 8 * n := by have := Int.emod_lt_of_pos i (show 0 < 8 * (n : Int) by omega); omega
  have hyn : y < 8 * n := by have := Int.emod_lt_of_pos j (show 0 < 8 * (n : Int) by omega); omega
  have hx2 : i.tmod (8 * (n : Int)) = (x : Int) := by rw [Int.tmod_eq_emod_of_nonneg hi.1, hx]
  have hy2 : j.tmod (8 * (n : Int)) = (y : Int) := by rw [Int.tmod_eq_emod_of_nonneg hj.1, hy]
  have hx3 : x ≤ 1000000 := by omega
  have g0 : ((n : Int) == 0) = false := by simp; omega
  have g3 : ¬ (100 : Int) < (n : Int) := by omega
  have hy3 : y ≤ 1000000 := by omega
  have H1 : Box (∀ z, Below w.heap.size w z → Calls Try.prog 9 #[.slice a n cap, .int .i64 (y : Int)] z fun e w' => e = .returned (.tuple #[.bool (onB B y), .int .i64 0]) ∧ Below z.heap.size z w') := ⟨fun z hz => by rw [← getV_ok hyn]; exact get_any a n cap B y z (HB.out z hz) (by omega) (by omega)⟩
  have H3 : Box (∀ z, Below w.heap.size w z → Calls Try.prog 11 #[.slice a n cap, .int .i64 (x : Int), .bool on] z fun e w' => ∃ g c', e = .returned (.tuple #[.slice (some ⟨g, 0, none⟩) n c', .int .i64 0]) ∧ Bytes w' (some ⟨g, 0, none⟩) n (put B x on) ∧ Below z.heap.size z w') := ⟨fun z hz => (set_ok a n cap B x on z (HB.out z hz) (by omega) hxn).mono fun e w' ⟨g, c, h1, h2, h3, _⟩ => ⟨g, c, h1, h2, h3⟩⟩
  have e1 : onB (put B x on) x = on := by rw [put_on B x x on hB.2.1 (by rw [hB.1]; exact hxn), if_pos rfl]
  have e2 : onB (put B x on) y = if y = x then on else onB B y := put_on B x y on hB.2.1 (by rw [hB.1]; exact hxn)
  have H4 : Box (∀ z g c, Bytes z (some ⟨g, 0, none⟩) n (put B x on) → Calls Try.prog 9 #[.slice (some ⟨g, 0, none⟩) n c, .int .i64 (x : Int)] z fun e w' => e = .returned (.tuple #[.bool on, .int .i64 0]) ∧ Below z.heap.size z w') := ⟨fun z g c hz => by
    have := get_any (some ⟨g, 0, none⟩) n c _ x z hz (by omega) (by omega)
    rw [getV_ok hxn, e1] at this
    exact this⟩
  have H5 : Box (∀ z g c, Bytes z (some ⟨g, 0, none⟩) n (put B x on) → Calls Try.prog 9 #[.slice (some ⟨g, 0, none⟩) n c, .int .i64 (y : Int)] z fun e w' => e = .returned (.tuple #[.bool (if y = x then on else onB B y), .int .i64 0]) ∧ Below z.heap.size z w') := ⟨fun z g c hz => by
    have := get_any (some ⟨g, 0, none⟩) n c _ y z hz (by omega) (by omega)
    rw [getV_ok hyn, e2] at this
    exact this⟩
  have HP : Box (Byt B) := ⟨hB.2.1⟩
  obtain ⟨q, hq⟩ : ∃ q, (if y = x then on else onB B y) = q := ⟨_, rfl⟩
  rw [hq] at H5
  have HQ : ((x : Int) == (y : Int)) = true ∨ ((x : Int) == (y : Int)) = false ∧ q = onB B y := by
    by_cases h : x = y
    · left; simp [h]
    · right
      refine ⟨by simp; omega, ?_⟩
      rw [← hq, if_neg (fun h2 => h h2.symm)]
  clear hB e1 e2 hq
  generalize onB B y = r at H1 HQ
  generalize put B x on = P at H3 H4 H5
  clear hxn hyn
  rcases HQ with hq | ⟨hq, rfl⟩
  all_goals
    go_enter Try.func7, Try.ntmps7
    go_upto_region 13 with (first
      | (go_at_call 8; refine HA.out.mono ?_; rintro e w1 ⟨rfl, hb1⟩; have B1 : Box _ := ⟨hb1⟩; clear hb1)
      | (refine wpList_run rfl _ _ (exec_conv (.tmp 44) rfl rfl (HB.out _ B1.out)) ?_)
      | (go_at_call 9; refine (H1.out _ B1.out).mono ?_; rintro e w2 ⟨rfl, hb2⟩; have B2 : Box _ := ⟨below_to B1.out hb2⟩; clear hb2 H1)
      | (go_at_call 11; refine (H3.out _ B2.out).mono ?_; rintro e w3 ⟨g3, c3, rfl, hB3, hb3⟩; have B3 : Box (Below w.heap.size w w3 ∧ Bytes w3 (some ⟨g3, 0, none⟩) n P) := ⟨below_to B2.out hb3, hB3⟩; clear hb3 hB3)
      | (go_at_call 9; refine (H4.out _ _ _ B3.out.2).mono ?_; rintro e w4 ⟨rfl, hb4⟩; have B4 : Box (Below w.heap.size w w4 ∧ Bytes w4 (some ⟨g3, 0, none⟩) n P) := ⟨below_to B3.out.1 hb4, B3.out.2.below hb4⟩; clear hb4 H4)
      | (go_at_call 9; refine (H5.out _ _ _ B4.out.2).mono ?_; rintro e w5 ⟨rfl, hb5⟩; have B5 : Box (Below w.heap.size w w5) := ⟨below_to B4.out.1 hb5⟩; clear hb5 H5))
    go_wp2_with (first
      | (refine wpList_runG (by rfl) _ _ (exec_conv (.tmp 108) rfl rfl (HB.out _ B5.out)) ?_)
      | (refine wpList_runG (by rfl) _ _ (exec_str (.tmp 109) (.tmp 110) _ rfl B B HP.out HP.out rfl rfl) ?_))
    go_ret
    exact ⟨rfl, B5.out⟩
set_option maxHeartbeats 400000 in
theorem others_long (a : Option Addr) (n cap : Nat) (i j : Int) (on : Bool) (w : World) (hn : n = 0 ∨ 100 < n) (hn2 : n ≤ 9223372036854775807) :
    Calls Try.prog 7 #[.slice a n cap, .int .u16 i, .int .u16 j, .bool on] w fun e w' => e = .returned (.bool true) ∧ Below w.heap.size w w' := by
  have HA : Box _ := ⟨awake_any w⟩
  rcases hn with rfl | hn
  · go_enter Try.func7, Try.ntmps7
    go_wp2_with (go_at_call 8; refine HA.out.mono ?_; rintro e w1 ⟨rfl, hb1⟩; have B1 : Box _ := ⟨hb1⟩; clear hb1)
    go_ret
    exact ⟨rfl, B1.out⟩
  · have g1 : ¬ (n : Int) = 0 := by omega
    have g2 : ((n : Int) == 0) = false := by simpa using g1
    go_enter Try.func7, Try.ntmps7
    go_wp2_with (go_at_call 8; refine HA.out.mono ?_; rintro e w1 ⟨rfl, hb1⟩; have B1 : Box _ := ⟨hb1⟩; clear hb1)
    go_ret
    exact ⟨rfl, B1.out⟩
theorem bitmapOthers_walk (a : Option Addr) (n cap : Nat) (zs : List Int) (i j : Int) (on : Bool) (w : World) (hb : IsRow .u8 w a n cap zs) (hi : (Lit.int .u16 i).wf = true) (hj : (Lit.int .u16 j).wf = true) :
    Calls Try.prog 7 #[.slice a n cap, .int .u16 i, .int .u16 j, .bool on] w fun e w' => e = .returned (.bool true) ∧ Below w.heap.size w w' := by
  obtain ⟨h1, h2, h3⟩ := hb.pc
  by_cases hn : n = 0 ∨ 100 < n
  · exact others_long a n cap i j on w hn (by omega)
  · exact others_any a n cap _ i j on w h1 (by omega) (by omega) (bounds_u16 hi) (bounds_u16 hj)
end Go.Proofs.Ytjfcliihgpkhdaa
