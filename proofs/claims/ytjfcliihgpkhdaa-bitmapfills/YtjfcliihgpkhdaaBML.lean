/-
  The walk of BitmapParts: how many bits are set in two parts that lie side by side is how many are in both; all bits that aren't are told by the first one, one by one: the law returns true.
-/
import Derived.Test.YtjfcliihgpkhdaaBMJ
namespace Go.Proofs.Ytjfcliihgpkhdaa
set_option linter.unusedVariables false
open Go.RowKit Plain

theorem cntV_ok {B : List Int} {n i j : Nat} (h1 : i ≤ j) (h2 : j ≤ 8 * n) : cntV B n i j = .tuple #[.int .i64 (cnt B j - cnt B i), .int .i64 0] := by unfold cntV; rw [if_pos (by unfold spanB; simp; omega)]; rfl
theorem mod_nat (x : Int) (m : Nat) (h : 0 ≤ x) (hm : 0 < m) : ∃ p : Nat, x.tmod (m : Int) = (p : Int) ∧ x % (m : Int) = (p : Int) ∧ p < m := by
  have h1 := Int.emod_nonneg x (show (m : Int) ≠ 0 by omega)
  have h2 := Int.emod_lt_of_pos x (show 0 < (m : Int) by omega)
  exact ⟨(x % (m : Int)).toNat, by rw [Int.tmod_eq_emod_of_nonneg h]; omega, by omega, by omega⟩
set_option maxRecDepth 20000 in
set_option maxHeartbeats 4000000 in
theorem parts_any (a : Option Addr) (n cap : Nat) (B : List Int) (x y z : Int) (w : World) (hB : Bytes w a n B) (hn0 : 0 < n) (hn : n ≤ 100) (hc : n ≤ cap) (hc9 : cap ≤ maxLen) (hx : 0 ≤ x ∧ x ≤ 65535) (hy : 0 ≤ y ∧ y ≤ 65535) (hz : 0 ≤ z ∧ z ≤ 65535) :
    Calls Try.prog 6 #[.slice a n cap, .int .u16 x, .int .u16 y, .int .u16 z] w fun e w' => e = .returned (.bool true) ∧ Below w.heap.size w w' := by
  have HB : Box (∀ x, Below w.heap.size w x → Bytes x a n B) := ⟨fun x hx => hB.below hx⟩
  have HA : Box _ := ⟨awake_any w⟩
  obtain ⟨p, p1, p2, p3⟩ := mod_nat x (8 * n + 1) hx.1 (by omega)
  obtain ⟨u, u1, u2, u3⟩ := mod_nat y (8 * n + 1 - p) hy.1 (by omega)
  obtain ⟨v, v1, v2, v3⟩ := mod_nat z (8 * n + 1 - (p + u)) hz.1 (by omega)
  obtain ⟨q, hq⟩ : ∃ q : Nat, p + u = q := ⟨_, rfl⟩
  obtain ⟨r, hr⟩ : ∃ r : Nat, q + v = r := ⟨_, rfl⟩
  rw [hq] at v1 v2 v3
  have p4 : ((8 * n + 1 : Nat) : Int) = 8 * (n : Int) + 1 := by omega
  have u4 : ((8 * n + 1 - p : Nat) : Int) = 8 * (n : Int) + 1 - (p : Int) := by omega
  have v4 : ((8 * n + 1 - q : Nat) : Int) = 8 * (n : Int) + 1 - (q : Int) := by omega
  rw [p4] at p1 p2
  rw [u4] at u1 u2
  rw [v4] at v1 v2
  have hq2 : (p : Int) + (u : Int) = (q : Int) := by omega
  have hr2 : (q : Int) + (v : Int) = (r : Int) := by omega
  have hpq : p ≤ q := by omega
  have hqr : q ≤ r := by omega
  have hrn : r ≤ 8 * n := by omega
  have g0 : ((n : Int) == 0) = false := by simp; omega
  have hp8 : p ≤ 1000 := by omega
  have hq8 : q ≤ 1000 := by omega
  have hr8 : r ≤ 1000 := by omega
  have CT : ∀ i j : Nat, i ≤ j → j ≤ 8 * n → ∀ x, Below w.heap.size w x → Calls Try.prog 15 #[.slice a n cap, .int .i64 (i : Int), .int .i64 (j : Int)] x fun e w' => e = .returned (.tuple #[.int .i64 (cnt B j - cnt B i), .int .i64 0]) ∧ Below x.heap.size x w' := fun i j h1 h2 x hx => by
    rw [← cntV_ok h1 h2]
    exact count_any a n cap B i j x (HB.out x hx) (by omega) hc hc9 (by omega) (by omega)
  have C1 : Box _ := ⟨CT p q hpq (by omega)⟩
  have C2 : Box _ := ⟨CT q r hqr hrn⟩
  have C3 : Box _ := ⟨CT p r (by omega) hrn⟩
  have b1 := cnt_bd B p
  have b2 := cnt_bd B q
  have b3 := cnt_bd B r
  have HE : cnt B q - cnt B p + (cnt B r - cnt B q) = cnt B r - cnt B p := by omega
  have d1 : -1000 ≤ cnt B q - cnt B p ∧ cnt B q - cnt B p ≤ 1000 := by omega
  have d2 : -1000 ≤ cnt B r - cnt B q ∧ cnt B r - cnt B q ≤ 1000 := by omega
  have d3 : -1000 ≤ cnt B r - cnt B p ∧ cnt B r - cnt B p ≤ 1000 := by omega
  obtain ⟨K, hK⟩ : ∃ K, Box (cnt B r - cnt B p = K) := ⟨_, ⟨rfl⟩⟩
  rw [hK.out] at C3 HE d3
  generalize cnt B q - cnt B p = I at C1 HE d1
  generalize cnt B r - cnt B q = J at C2 HE d2
  have HJ : Box (p ≤ r ∧ r ≤ 8 * n ∧ n ≤ 100) := ⟨by omega⟩
  unfold maxLen at hc9
  clear hB CT b1 b2 b3 hpq hqr hq hr p3 u3 v3 p4 u4 v4
  go_enter Try.func6, Try.ntmps6
  go_wp2_with (first
    | (go_at_call 8; refine HA.out.mono ?_; rintro e w1 ⟨rfl, hb1⟩; have B1 : Box _ := ⟨hb1⟩; clear hb1)
    | (go_at_call 15; refine (C1.out _ B1.out).mono ?_; rintro e w2 ⟨rfl, hb2⟩; have B2 : Box _ := ⟨below_to B1.out hb2⟩; clear hb2 C1)
    | (go_at_call 15; refine (C2.out _ B2.out).mono ?_; rintro e w3 ⟨rfl, hb3⟩; have B3 : Box _ := ⟨below_to B2.out hb3⟩; clear hb3 C2)
    | (go_at_call 15; refine (C3.out _ B3.out).mono ?_; rintro e w4 ⟨rfl, hb4⟩; have B4 : Box _ := ⟨below_to B3.out hb4⟩; clear hb4 C3))
  clear p1 p2 u1 u2 v1 v2 hq2 hr2 HE d1 d2 B1 B2 B3 HA
  go_loopw [20, 21, 22] (fun f t s wr => ∃ k s0 : Nat, p + s0 ≤ k ∧ k ≤ r ∧ t = .int .i64 (k : Int) ∧ s = .int .i64 (s0 : Int) ∧ f = .int .i64 ((k : Int) - (p : Int) - (cnt B k - cnt B p)) ∧ Box (Below w.heap.size w wr)) (fun _ _ s _ => 8 * n + 1 - (intOf s).toNat)
  case atStart => exact ⟨p, 0, by omega, HJ.out.1, rfl, rfl, by congr 1; omega, B4⟩
  case round =>
    obtain ⟨k, s0, hk1, hk2, rfl, rfl, rfl, HW⟩ := hrel
    have hs : (s0 : Int) ≤ 8 * (n : Int) := by have := HJ.out; omega
    have hs8 : s0 ≤ 1000 := by omega
    have hk8 : k ≤ 1000 := by omega
    obtain ⟨m, hm⟩ : ∃ m, fst0 B k r = m := ⟨_, rfl⟩
    have hf := fst0_is B k r hk2
    rw [hm] at hf
    obtain ⟨f1, f2, f3, f4⟩ := hf
    have c1 := cnt_all B k (m - k) (by rw [show k + (m - k) = m by omega]; exact f3)
    rw [show k + (m - k) = m by omega] at c1
    have ck := cnt_bd B k
    have cp := cnt_bd B p
    have dF : -2000 ≤ (k : Int) - (p : Int) - (cnt B k - cnt B p) ∧ (k : Int) - (p : Int) - (cnt B k - cnt B p) ≤ 2000 := by omega
    by_cases hmr : m < r
    · have CF : Box (Calls Try.prog 13 #[.slice a n cap, .int .i64 (k : Int), .int .i64 (r : Int)] wr fun e w' => e = .returned (.tuple #[.int .i64 (m : Int), .int .i64 0]) ∧ wr = w') := ⟨by
        rw [← firstV_ok B n k r m f1 hmr HJ.out.2.1 f3 (f4 hmr)]
        exact first_any a n cap B k r wr (HB.out wr HW.out) (by have := HJ.out; omega) (by omega) (by omega)⟩
      have CG : Box (Calls Try.prog 9 #[.slice a n cap, .int .i64 (m : Int)] wr fun e w' => e = .returned (.tuple #[.bool false, .int .i64 0]) ∧ Below wr.heap.size wr w') := ⟨by
        have := get_any a n cap B m wr (HB.out wr HW.out) (by have := HJ.out; omega) (by omega)
        rw [getV_ok (by have := HJ.out; omega), f4 hmr] at this
        exact this⟩
      have HN : Box ((k : Int) - (p : Int) - (cnt B k - cnt B p) + 1 = ((m + 1 : Nat) : Int) - (p : Int) - (cnt B (m + 1) - cnt B p)) := ⟨by
        have : cnt B (m + 1) = cnt B m := by rw [cnt, f4 hmr]; simp
        rw [this]; omega⟩
      generalize (k : Int) - (p : Int) - (cnt B k - cnt B p) = F at dF HN
      have hm2 : ¬ (m : Int) < (k : Int) := by omega
      have hm3 : ¬ (r : Int) ≤ (m : Int) := by omega
      have hm4 : (m : Int) < (r : Int) := by omega
      clear f3 f4 c1 ck cp hm HB
      go_wp2_with (first
        | (go_at_call 13; refine CF.out.mono ?_; rintro e w5 ⟨rfl, rfl⟩)
        | (go_at_call 9; refine CG.out.mono ?_; rintro e w6 ⟨rfl, hb6⟩; have B6 : Box (Below w.heap.size w w6) := ⟨below_to HW.out hb6⟩; clear hb6))
      go_roundw
      case rel => exact ⟨m + 1, s0 + 1, by omega, by omega, by go_num, by go_num, by rw [← HN.out], B6⟩
      case measure => simp [intOf]; omega
    · obtain rfl : m = r := by omega
      have CF : Box (Calls Try.prog 13 #[.slice a n cap, .int .i64 (k : Int), .int .i64 (m : Int)] wr fun e w' => e = .returned (.tuple #[.int .i64 0, .int .i64 20]) ∧ wr = w') := ⟨by
        rw [← firstV_no B n k m f1 HJ.out.2.1 f3]
        exact first_any a n cap B k m wr (HB.out wr HW.out) (by have := HJ.out; omega) (by omega) (by omega)⟩
      have HN : (k : Int) - (p : Int) - (cnt B k - cnt B p) = (m : Int) - (p : Int) - K := by have := hK.out; omega
      rw [HN]
      clear f3 f4 c1 ck cp hm HB dF HN
      go_wp2_with (go_at_call 13; refine CF.out.mono ?_; rintro e w5 ⟨rfl, rfl⟩)
      go_ret
      exact ⟨rfl, HW.out⟩
set_option maxHeartbeats 400000 in
theorem parts_long (a : Option Addr) (n cap : Nat) (x y z : Int) (w : World) (hn : n = 0 ∨ 100 < n) (hn2 : n ≤ 9223372036854775807) :
    Calls Try.prog 6 #[.slice a n cap, .int .u16 x, .int .u16 y, .int .u16 z] w fun e w' => e = .returned (.bool true) ∧ Below w.heap.size w w' := by
  have HA : Box _ := ⟨awake_any w⟩
  rcases hn with rfl | hn
  · go_enter Try.func6, Try.ntmps6
    go_wp2_with (go_at_call 8; refine HA.out.mono ?_; rintro e w1 ⟨rfl, hb1⟩; have B1 : Box _ := ⟨hb1⟩; clear hb1)
    go_ret
    exact ⟨rfl, B1.out⟩
  · have g1 : ¬ (n : Int) = 0 := by omega
    have g2 : ((n : Int) == 0) = false := by simpa using g1
    go_enter Try.func6, Try.ntmps6
    go_wp2_with (go_at_call 8; refine HA.out.mono ?_; rintro e w1 ⟨rfl, hb1⟩; have B1 : Box _ := ⟨hb1⟩; clear hb1)
    go_ret
    exact ⟨rfl, B1.out⟩
theorem bitmapParts_walk (a : Option Addr) (n cap : Nat) (zs : List Int) (x y z : Int) (w : World) (hb : IsRow .u8 w a n cap zs) (hx : (Lit.int .u16 x).wf = true) (hy : (Lit.int .u16 y).wf = true) (hz : (Lit.int .u16 z).wf = true) :
    Calls Try.prog 6 #[.slice a n cap, .int .u16 x, .int .u16 y, .int .u16 z] w fun e w' => e = .returned (.bool true) ∧ Below w.heap.size w w' := by
  obtain ⟨h1, h2, h3⟩ := hb.pc
  by_cases hn : n = 0 ∨ 100 < n
  · exact parts_long a n cap x y z w hn (by omega)
  · exact parts_any a n cap _ x y z w h1 (by omega) (by omega) h2 (by unfold maxLen; omega) (bounds_u16 hx) (bounds_u16 hy) (bounds_u16 hz)
end Go.Proofs.Ytjfcliihgpkhdaa
