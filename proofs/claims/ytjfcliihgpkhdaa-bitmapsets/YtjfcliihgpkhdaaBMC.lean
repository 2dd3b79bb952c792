/-
  What the Go functions Get, below and Count of package bitmap answer.
-/
import Derived.Test.YtjfcliihgpkhdaaBMB
namespace Go.Proofs.Ytjfcliihgpkhdaa
set_option linter.unusedVariables false
open Go.RowKit Plain

def getV (B : List Int) (n : Nat) (i : Int) : Value := if thereB n i then .tuple #[.bool (onB B i.toNat), .int .i64 0] else .tuple #[.bool false, .int .i64 12]
theorem and_on (B : List Int) (i : Nat) (hB : Byt B) : (bits .and .u8 (B.getD (i / 8) 0) (2 ^ (i % 8)) == 0) = !onB B i := by
  have h := hB (i / 8)
  have := and_bt (B.getD (i / 8) 0) (i % 8) h.1 h.2 (Nat.mod_lt _ (by omega))
  unfold onB
  cases hb : bt (B.getD (i / 8) 0) (i % 8)
  · simpa using this.2 hb
  · have : ¬ bits .and .u8 (B.getD (i / 8) 0) (2 ^ (i % 8)) = 0 := fun x => by rw [this.1 x] at hb; cases hb
    simpa using this
set_option maxHeartbeats 400000 in
theorem get_any (a : Option Addr) (n cap : Nat) (B : List Int) (i : Int) (w : World) (hB : Bytes w a n B) (hn : n ≤ 100000) (h9 : i ≤ 9223372036854775807) :
    Calls Try.prog 9 #[.slice a n cap, .int .i64 i] w fun e w' => e = .returned (getV B n i) ∧ Below w.heap.size w w' := by
  by_cases h : 0 ≤ i ∧ i < 8 * (n : Int)
  · have ht : thereB n i = true := by unfold thereB; simpa using h
    obtain ⟨m, rfl⟩ : ∃ m : Nat, i = m := ⟨i.toNat, by omega⟩
    have HV : Box (getV B n m = .tuple #[.bool (onB B m), .int .i64 0]) := ⟨by unfold getV; rw [if_pos ht]; rfl⟩
    rw [HV.out]
    have HT : Box (Calls Try.prog 17 #[.slice a n cap, .int .i64 (m : Int)] w fun e w' => e = .returned (.bool true) ∧ w = w') := ⟨there_any a n cap m w hn h9 _ ht⟩
    obtain ⟨b, o, rfl, _, hc⟩ := hB.2.2 (by omega)
    have hx := hc (m / 8) (by omega)
    have HE := and_on B m hB.2.1
    have hy := hB.2.1 (m / 8)
    obtain ⟨q, hq⟩ : ∃ q : Nat, Box (m / 8 = q) := ⟨m / 8, ⟨rfl⟩⟩
    have hq2 : (m : Int) / 8 = (q : Int) := by have := hq.out; omega
    rw [hq.out] at hx HE hy
    have HG : Box (∀ x, Calls Try.prog 18 #[.int .i64 (m : Int)] x fun e w' => e = .returned (.int .u8 (2 ^ (m % 8))) ∧ w' = x) := ⟨fun x => (bit_any m x (by omega)).mono fun _ _ ⟨h1, h2⟩ => ⟨h1, h2.symm⟩⟩
    generalize (2 : Int) ^ (m % 8) = z at HE HG
    generalize B.getD q 0 = y at hx HE hy
    have hlt : q < n := by have := hq.out; omega
    have hw : IntKind.i64.wrap (q : Int) = (q : Int) := by rw [IntKind.wrap_i64]; omega
    generalize hr : onB B m = r at HE ⊢
    have HE3 : Box ((bits .and .u8 y z != 0) = r) := ⟨by unfold bne; rw [HE]; simp⟩
    clear HE hc hB HV ht h hr
    go_enter Try.func9, Try.ntmps9
    go_wp2_with (go_at_call 17; refine Calls.mono HT.out ?_; rintro e w' ⟨rfl, rfl⟩)
    go_quiet (first | (go_at_call 18; exact Calls.quiet_of_same (HG.out _)))
    go_wp2
    go_ret2
    exact ⟨by rw [HE3.out]; rfl, below_drewN (Below.refl _ _) nq⟩
  · have ht : thereB n i = false := by unfold thereB; simpa using h
    have HV : Box (getV B n i = .tuple #[.bool false, .int .i64 12]) := ⟨by unfold getV; rw [if_neg (by simp [ht])]⟩
    rw [HV.out]
    have HT : Box (Calls Try.prog 17 #[.slice a n cap, .int .i64 i] w fun e w' => e = .returned (.bool false) ∧ w = w') := ⟨there_any a n cap i w hn h9 _ ht⟩
    clear ht hB h
    go_enter Try.func9, Try.ntmps9
    go_wp2_with (go_at_call 17; refine Calls.mono HT.out ?_; rintro e w' ⟨rfl, rfl⟩)
    go_ret2
    exact ⟨rfl, Below.refl _ _⟩
theorem pop_row (B : List Int) (r : Nat) : cnt B (8 * r + 8) = cnt B (8 * r) + popk (B.getD r 0) 8 := cnt_row B r 8 (Nat.le_refl _)
set_option maxHeartbeats 1000000 in
theorem below_any (a : Option Addr) (n cap : Nat) (B : List Int) (t : Nat) (w : World) (hB : Bytes w a n B) (hn : n ≤ 100000) (hcap : n ≤ cap) (hc9 : cap ≤ maxLen) (ht : t ≤ 8 * n) :
    Calls Try.prog 22 #[.slice a n cap, .int .i64 (t : Int)] w fun e w' => e = .returned (.int .i64 (cnt B t)) ∧ Below w.heap.size w w' := by
  obtain ⟨q, hq⟩ : ∃ q : Nat, Box (t / 8 = q) := ⟨t / 8, ⟨rfl⟩⟩
  obtain ⟨s, hs⟩ : ∃ s : Nat, Box (t % 8 = s) := ⟨t % 8, ⟨rfl⟩⟩
  have hq2 : (t : Int) / 8 = (q : Int) := by have := hq.out; omega
  have hs2 : (t : Int) % 8 = (s : Int) := by have := hs.out; omega
  have hqn : q ≤ n := by have := hq.out; omega
  have hs8 : s < 8 := by have := hs.out; omega
  have HT : Box (8 * q + s = t) := ⟨by have := hq.out; have := hs.out; omega⟩
  obtain ⟨a', hsl, hslb⟩ := slice_hi a n cap q hqn hcap
  have HL : Box (Bytes w a' q (B.take q)) := ⟨hslb w B hB⟩
  have HB : Box (Bytes w a n B) := ⟨hB⟩
  have HO : Box (∀ v : Int, 0 ≤ v → v ≤ 255 → ∀ x, Calls Try.prog 23 #[.int .u8 v] x fun e w' => e = .returned (.int .i64 (popk v 8)) ∧ w' = x) := ⟨fun v h0 h1 x => (ones_any v x h0 h1).mono fun _ _ ⟨h1, h2⟩ => ⟨h1, h2.symm⟩⟩
  clear hslb hB
  unfold maxLen at hc9
  have W1 : IntKind.i64.wrap ((t : Int) / 8) = (q : Int) := by rw [hq2, IntKind.wrap_i64]; omega
  go_enter Try.func22, Try.ntmps22
  go_wp2
  go_loop [5, 7, 13] (fun c _ r => ∃ k : Nat, k ≤ q ∧ r = .int .i64 (k : Int) ∧ c = .int .i64 (cnt B (8 * k))) (fun _ _ r => q - (intOf r).toNat)
  case atStart => exact ⟨0, Nat.zero_le _, rfl, rfl⟩
  case round =>
    obtain ⟨k, hk, rfl, rfl⟩ := hrel
    have HC := cnt_bd B (8 * k)
    by_cases hlt : k < q
    · have hp := pop_row B k
      have hp2 := popk_bd (B.getD k 0) 8
      have hy := HB.out.2.1 k
      obtain ⟨b, o, rfl, _, hc⟩ := HL.out.2.2 (by omega)
      have hx := hc k hlt
      have e1 : (B.take q).getD k 0 = B.getD k 0 := by simp [List.getD, hlt]
      rw [e1] at hx
      have HO1 := HO.out (B.getD k 0) hy.1 hy.2 w
      have HN : Box (cnt B (8 * k) + popk (B.getD k 0) 8 = cnt B (8 * (k + 1))) := ⟨by rw [show 8 * (k + 1) = 8 * k + 8 by omega, hp]⟩
      have HO2 : Box _ := ⟨HO1⟩
      generalize B.getD k 0 = y at hx hp2 HO2 HN
      generalize popk y 8 = p at hp2 HO2 HN
      generalize cnt B (8 * k) = c at HC HN
      clear HO1 hp hy hc e1
      go_wp2_with (go_at_call 23; refine Calls.mono HO2.out ?_; rintro e w' ⟨rfl, rfl⟩)
      go_round
      case rel => exact ⟨k + 1, by omega, by go_num, by rw [← HN.out]⟩
      case measure => simp [intOf]; omega
    · obtain rfl : k = q := by omega
      by_cases h0 : s = 0
      · have HE : Box (cnt B (8 * k) = cnt B t) := ⟨by rw [← HT.out, h0]; rfl⟩
        subst h0
        generalize cnt B (8 * k) = c at HC HE
        go_wp2
        go_ret
        exact ⟨by rw [← HE.out]; rfl, Below.refl _ _⟩
      · have hkn : k < n := by have := HT.out; omega
        obtain ⟨b, o, rfl, _, hc⟩ := HB.out.2.2 (by omega)
        have hx := hc k hkn
        have hy := HB.out.2.1 k
        have hp := pop_and (B.getD k 0) s hy.1 hy.2 hs8
        have hr := cnt_row B k s (by omega)
        have hb2 := popk_bd (B.getD k 0) s
        have HE : Box (cnt B (8 * k) + popk (B.getD k 0) s = cnt B t) := ⟨by rw [← hr, HT.out]⟩
        have HG : Box (∀ x, Calls Try.prog 18 #[.int .i64 (t : Int)] x fun e w' => e = .returned (.int .u8 (2 ^ s)) ∧ w' = x) := ⟨fun x => (bit_any t x (by omega)).mono fun _ _ ⟨h1, h2⟩ => ⟨by rw [h1, hs.out], h2.symm⟩⟩
        have h2 := shl_bt s hs8
        have HO1 := HO.out (bits .and .u8 (B.getD k 0) (2 ^ s - 1)) hp.2.1 hp.2.2
        rw [hp.1] at HO1
        have HO2 : Box (∀ x, Calls Try.prog 23 #[.int .u8 (bits .and .u8 (B.getD k 0) (2 ^ s - 1))] x fun e w' => e = .returned (.int .i64 (popk (B.getD k 0) s)) ∧ w' = x) := ⟨HO1⟩
        have h3 : IntKind.u8.wrap ((2 : Int) ^ s - 1) = 2 ^ s - 1 := by rw [IntKind.wrap_u8]; omega
        generalize popk (B.getD k 0) s = p at HO2 hb2 HE
        generalize B.getD k 0 = y at hx HO2
        generalize (2 : Int) ^ s = z at HO2 HG h3
        generalize cnt B (8 * k) = c at HC HE
        have hgt : ¬ (s : Int) = 0 := by omega
        have hw : IntKind.i64.wrap (k : Int) = (k : Int) := by rw [IntKind.wrap_i64]; omega
        clear HO1 hp hr hc hy HT HO hsl HL h2 hs hq
        go_wp2
        go_quiet (first | (go_at_call 18; exact Calls.quiet_of_same (HG.out _)) | (go_at_call 23; exact Calls.quiet_of_same (HO2.out _)))
        go_wp2
        go_ret
        exact ⟨by rw [← HE.out]; rfl, below_drewN (Below.refl _ _) nq⟩
/-- What Count answers. -/
def cntV (B : List Int) (n : Nat) (a t : Int) : Value := if spanB n a t then .tuple #[.int .i64 (cnt B t.toNat - cnt B a.toNat), .int .i64 0] else .tuple #[.int .i64 0, .int .i64 12]
set_option maxHeartbeats 1000000 in
theorem count_any (p : Option Addr) (n cap : Nat) (B : List Int) (a t : Int) (w : World) (hB : Bytes w p n B) (hn : n ≤ 100000) (hcap : n ≤ cap) (hc9 : cap ≤ maxLen) (h8 : -9223372036854775808 ≤ t) (h9 : t ≤ 9223372036854775807) :
    Calls Try.prog 15 #[.slice p n cap, .int .i64 a, .int .i64 t] w fun e w' => e = .returned (cntV B n a t) ∧ Below w.heap.size w w' := by
  by_cases h : 0 ≤ a ∧ a ≤ t ∧ t ≤ 8 * (n : Int)
  · have ht : spanB n a t = true := by unfold spanB; simpa using h
    obtain ⟨i, rfl⟩ : ∃ i : Nat, a = i := ⟨a.toNat, by omega⟩
    obtain ⟨j, rfl⟩ : ∃ j : Nat, t = j := ⟨t.toNat, by omega⟩
    have HV : Box (cntV B n i j = .tuple #[.int .i64 (cnt B j - cnt B i), .int .i64 0]) := ⟨by unfold cntV; rw [if_pos ht]; rfl⟩
    rw [HV.out]
    have HT : Box (Calls Try.prog 21 #[.slice p n cap, .int .i64 (i : Int), .int .i64 (j : Int)] w fun e w' => e = .returned (.bool true) ∧ w = w') := ⟨span_any p n cap i j w hn h8 h9 _ ht⟩
    have hi := cnt_bd B i
    have hj := cnt_bd B j
    have H1 : Box (∀ x, Below w.heap.size w x → Calls Try.prog 22 #[.slice p n cap, .int .i64 (i : Int)] x fun e w' => e = .returned (.int .i64 (cnt B i)) ∧ Below x.heap.size x w') := ⟨fun x hx => below_any p n cap B i x (hB.below hx) hn hcap hc9 (by omega)⟩
    have H2 : Box (Calls Try.prog 22 #[.slice p n cap, .int .i64 (j : Int)] w fun e w' => e = .returned (.int .i64 (cnt B j)) ∧ Below w.heap.size w w') := ⟨below_any p n cap B j w hB hn hcap hc9 (by omega)⟩
    generalize cnt B i = x at hi H1 ⊢
    generalize cnt B j = y at hj H2 ⊢
    have hi2 : (i : Int) ≤ 1000000 := by omega
    have hj2 : (j : Int) ≤ 1000000 := by omega
    clear HV hB h ht h8 h9 hc9
    go_enter Try.func15, Try.ntmps15
    go_wp2_with (first
      | (go_at_call 21; refine Calls.mono HT.out ?_; rintro e w' ⟨rfl, rfl⟩)
      | (go_at_call 22; refine Calls.mono H2.out ?_; rintro e w2 ⟨rfl, hb2⟩; have B2 : Box _ := ⟨hb2⟩; clear hb2 H2)
      | (go_at_call 22; refine Calls.mono (H1.out _ B2.out) ?_; rintro e w3 ⟨rfl, hb3⟩; have B3 : Box _ := ⟨hb3⟩; clear hb3))
    go_ret2
    exact ⟨rfl, below_to B2.out B3.out⟩
  · have ht : spanB n a t = false := by unfold spanB; simpa using h
    have HV : Box (cntV B n a t = .tuple #[.int .i64 0, .int .i64 12]) := ⟨by unfold cntV; rw [if_neg (by simp [ht])]⟩
    rw [HV.out]
    have HT : Box (Calls Try.prog 21 #[.slice p n cap, .int .i64 a, .int .i64 t] w fun e w' => e = .returned (.bool false) ∧ w = w') := ⟨span_any p n cap a t w hn h8 h9 _ ht⟩
    clear ht hB h
    go_enter Try.func15, Try.ntmps15
    go_wp2_with (go_at_call 21; refine Calls.mono HT.out ?_; rintro e w' ⟨rfl, rfl⟩)
    go_ret2
    exact ⟨rfl, Below.refl _ _⟩
end Go.Proofs.Ytjfcliihgpkhdaa
