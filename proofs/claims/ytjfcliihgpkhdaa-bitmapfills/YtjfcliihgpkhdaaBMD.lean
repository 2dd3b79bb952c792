/-
  What the Go function First of package bitmap answers.
-/
import Derived.Test.YtjfcliihgpkhdaaBMC
import Derived.Deep.LoopGhost
namespace Go.Proofs.Ytjfcliihgpkhdaa
set_option linter.unusedVariables false
open Go.RowKit Plain

/-- What First answers. -/
def firstV (B : List Int) (n : Nat) (a t : Int) : Value := if spanB n a t then (if fst0 B a.toNat t.toNat < t.toNat then .tuple #[.int .i64 ((fst0 B a.toNat t.toNat : Nat) : Int), .int .i64 0] else .tuple #[.int .i64 0, .int .i64 20]) else .tuple #[.int .i64 0, .int .i64 12]
theorem firstV_no (B : List Int) (n a t : Nat) (h1 : a ≤ t) (h2 : t ≤ 8 * n) (h : All B a t) : firstV B n a t = .tuple #[.int .i64 0, .int .i64 20] := by
  have ht : spanB n a t = true := by unfold spanB; simp; omega
  have e : fst0 B a t = t := fst0_eq B a t t h1 (Nat.le_refl _) h (fun x => by omega)
  unfold firstV
  simp only [Int.toNat_natCast]
  rw [if_pos ht, if_neg (by omega)]
theorem firstV_ok (B : List Int) (n a t r : Nat) (h1 : a ≤ r) (h2 : r < t) (h4 : t ≤ 8 * n) (h : All B a r) (h3 : onB B r = false) : firstV B n a t = .tuple #[.int .i64 (r : Int), .int .i64 0] := by
  have ht : spanB n a t = true := by unfold spanB; simp; omega
  have e : fst0 B a t = r := fst0_eq B a t r h1 (by omega) h (fun x => h3)
  unfold firstV
  simp only [Int.toNat_natCast]
  rw [if_pos ht, if_pos (by omega), e]
theorem all_skip (B : List Int) (a r k : Nat) (hB : Byt B) (hk : k < 8) (h : All B a (8 * r + k)) (hs : bits .xor .u8 255 (B.getD r 0) / 2 ^ k = 0) : All B a (8 * r + 8) := by
  intro i h1 h2
  by_cases hl : i < 8 * r + k
  · exact h i h1 hl
  · have hb := hB r
    have hn := not_bd _ hb.1 hb.2
    have e := shr_bt (bits .xor .u8 255 (B.getD r 0)) k (i % 8) hn.1 hn.2 hk (Nat.mod_lt _ (by omega)) (by omega) hs
    rw [not_bt _ _ hb.1 hb.2 (Nat.mod_lt _ (by omega))] at e
    unfold onB
    rw [show i / 8 = r by omega]
    simpa using e
theorem not_on (B : List Int) (r k : Nat) (hB : Byt B) (hk : k < 8) : (bits .and .u8 (bits .xor .u8 255 (B.getD r 0)) (2 ^ k) == 0) = onB B (8 * r + k) := by
  have hb := hB r
  have hn := not_bd _ hb.1 hb.2
  have h := and_bt _ k hn.1 hn.2 hk
  rw [not_bt _ _ hb.1 hb.2 hk] at h
  unfold onB
  rw [show (8 * r + k) / 8 = r by omega, show (8 * r + k) % 8 = k by omega]
  cases hx : bt (B.getD r 0) k
  · have : ¬ bits .and .u8 (bits .xor .u8 255 (B.getD r 0)) (2 ^ k) = 0 := fun x => by have := h.1 x; rw [hx] at this; cases this
    simpa using this
  · simpa using h.2 (by rw [hx]; rfl)
theorem all_one (B : List Int) (a i : Nat) (h : All B a i) (h2 : a ≤ i → onB B i = true) : All B a (i + 1) := by
  intro j h1 hj
  by_cases e : j = i
  · subst e; exact h2 h1
  · exact h j h1 (by omega)
set_option maxHeartbeats 2000000 in
theorem first_any (p : Option Addr) (n cap : Nat) (B : List Int) (a t : Int) (w : World) (hB : Bytes w p n B) (hn : n ≤ 100000) (h8 : -9223372036854775808 ≤ t) (h9 : t ≤ 9223372036854775807) :
    Calls Try.prog 13 #[.slice p n cap, .int .i64 a, .int .i64 t] w fun e w' => e = .returned (firstV B n a t) ∧ w = w' := by
  by_cases h : 0 ≤ a ∧ a ≤ t ∧ t ≤ 8 * (n : Int)
  · have ht : spanB n a t = true := by unfold spanB; simpa using h
    obtain ⟨i, rfl⟩ : ∃ i : Nat, a = i := ⟨a.toNat, by omega⟩
    obtain ⟨j, rfl⟩ : ∃ j : Nat, t = j := ⟨t.toNat, by omega⟩
    have HT : Box (Calls Try.prog 21 #[.slice p n cap, .int .i64 (i : Int), .int .i64 (j : Int)] w fun e w' => e = .returned (.bool true) ∧ w = w') := ⟨span_any p n cap i j w hn h8 h9 _ ht⟩
    have HJ : Box (i ≤ j ∧ j ≤ 8 * n) := ⟨by omega⟩
    have HB : Box (Bytes w p n B) := ⟨hB⟩
    obtain ⟨V, HV⟩ : ∃ V, Box (firstV B n i j = V) := ⟨_, ⟨rfl⟩⟩
    rw [HV.out]
    obtain ⟨q, hq⟩ : ∃ q : Nat, Box (i / 8 = q) := ⟨i / 8, ⟨rfl⟩⟩
    have hq2 : (i : Int) / 8 = (q : Int) := by have := hq.out; omega
    have hi8 : i ≤ 1000000 := by omega
    have hj8 : j ≤ 1000000 := by omega
    have HQ : Box (All B i (8 * q) ∧ q ≤ n) := ⟨fun x h1 h2 => by have := hq.out; omega, by have := hq.out; omega⟩
    have hqn := HQ.out.2
    clear hB h ht h8 h9
    go_enter Try.func13, Try.ntmps13
    go_wp2
    go_step3
    go_wp2_with (go_at_call 21; refine Calls.mono HT.out ?_; rintro e w' ⟨rfl, rfl⟩)
    go_step3
    go_wp2
    clear HT
    go_loopg [8] (n - q) (fun g r wx => ∃ k : Nat, k + g = n ∧ r = .int .i64 (k : Int) ∧ Box (All B i (8 * k)) ∧ wx = w)
    case atStart => exact ⟨q, by omega, rfl, ⟨HQ.out.1⟩, rfl⟩
    case round =>
      obtain ⟨r, hr, rfl, HA, rfl⟩ := hrel
      clear HQ hq hq2
      cases gk with
      | succ go =>
        have hlt : r < n := by omega
        have hlt2 : (r : Int) < (n : Int) := by omega
        have hbt := HB.out.2.1
        obtain ⟨b, o, rfl, _, hc⟩ := HB.out.2.2 (by omega)
        have hx := hc r hlt
        have HS : Box (∀ k, k < 8 → bits .xor .u8 255 (B.getD r 0) / 2 ^ k = 0 → All B i (8 * r + k) → All B i (8 * (r + 1))) := ⟨fun k hk h1 h2 => by rw [show 8 * (r + 1) = 8 * r + 8 by omega]; exact all_skip B i r k hbt hk h2 h1⟩
        have HN : Box (∀ k, k < 8 → (bits .and .u8 (bits .xor .u8 255 (B.getD r 0)) (2 ^ k) == 0) = onB B (8 * r + k)) := ⟨fun k hk => not_on B r k hbt hk⟩
        have hxb := not_bd _ (hbt r).1 (hbt r).2
        generalize hxx : bits .xor .u8 255 (B.getD r 0) = x at HS HN hxb
        generalize B.getD r 0 = y at hx hxx
        clear hc hbt HB
        have g1 : IntKind.u8.signed = false := rfl
        have g2 : IntKind.u8.max = 255 := rfl
        go_wp2
        clear hxx g1 g2 hx
        go_loopg [30] 8 (fun g s wx => ∃ k : Nat, k + g = 8 ∧ s = .int .i64 (k : Int) ∧ Box (All B i (8 * r + k)) ∧ wx = wr)
        case atStart => exact ⟨0, rfl, rfl, HA, rfl⟩
        case round =>
          obtain ⟨k, hk, rfl, HK, rfl⟩ := hrel
          clear HA
          obtain ⟨m, hm⟩ : ∃ m : Nat, Box (8 * r + k = m) := ⟨_, ⟨rfl⟩⟩
          have hm2 : 8 * (r : Int) + (k : Int) = (m : Int) := by have := hm.out; omega
          have hm3 : m ≤ 1000000 := by have := hm.out; omega
          rw [hm.out] at HK
          cases gk with
          | succ gi =>
            have hk8 : k < 8 := by omega
            have hk9 : (k : Int) < 8 := by omega
            have HS2 : Box (x / 2 ^ k = 0 → All B i (8 * (r + 1))) := ⟨fun h => HS.out k hk8 h (by rw [hm.out]; exact HK.out)⟩
            have HN2 : Box ((bits .and .u8 x (2 ^ k) == 0) = onB B m) := ⟨by rw [← hm.out]; exact HN.out k hk8⟩
            by_cases d1 : j ≤ m
            · have hv : Box (firstV B n i j = .tuple #[.int .i64 0, .int .i64 20]) := ⟨firstV_no B n i j HJ.out.1 HJ.out.2 (fun z h1 h2 => HK.out z h1 (by omega))⟩
              rw [hv.out] at HV
              have d2 : (j : Int) ≤ (m : Int) := by omega
              clear HS2 HN2 HS HN hxb
              go_wp2
              try rw [Exit.noGoto_ret]
              go_ret2
              exact ⟨by rw [← HV.out]; rfl, rfl⟩
            · have d2 : ¬ (j : Int) ≤ (m : Int) := by omega
              by_cases d3 : x / 2 ^ k = 0
              · have d4 := HS2.out d3
                have D4 : Box (All B i (8 * (r + 1))) := ⟨d4⟩
                have d5 : (x / 2 ^ k == 0) = true := by simpa using d3
                clear HS2 HN2 HS HN d4 d3
                go_wp2
                go_roundg go
                case rel => exact ⟨r + 1, by omega, by go_num, D4, rfl⟩
                case measure => omega
              · have d5 : (x / 2 ^ k == 0) = false := by simpa using d3
                by_cases d6 : i ≤ m
                · have d7 : (i : Int) ≤ (m : Int) := by omega
                  have HG : Box (∀ x, Calls Try.prog 18 #[.int .i64 (m : Int)] x fun e w' => e = .returned (.int .u8 (2 ^ k)) ∧ x = w') := ⟨fun x => (bit_any m x hm3).mono fun _ _ ⟨h1, h2⟩ => ⟨by rw [h1, show m % 8 = k by have := hm.out; omega], h2⟩⟩
                  by_cases d8 : onB B m = true
                  · have HA1 : Box (All B i (m + 1)) := ⟨all_one B i m HK.out (fun _ => d8)⟩
                    rw [d8] at HN2
                    have d9 := HN2.out
                    clear HS2 HN2 HS HN d8
                    go_wp2_with (go_at_call 18; refine Calls.mono (HG.out _) ?_; rintro e w' ⟨rfl, rfl⟩)
                    go_roundg gi
                    case rel => exact ⟨k + 1, by omega, by go_num, ⟨by rw [show 8 * r + (k + 1) = m + 1 by have := hm.out; omega]; exact HA1.out⟩, rfl⟩
                    case measure => omega
                  · have d8' : onB B m = false := by simpa using d8
                    have hv : Box (firstV B n i j = .tuple #[.int .i64 (m : Int), .int .i64 0]) := ⟨firstV_ok B n i j m d6 (by omega) HJ.out.2 HK.out d8'⟩
                    rw [hv.out] at HV
                    rw [d8'] at HN2
                    have d9 := HN2.out
                    clear HS2 HN2 HS HN d8 d8'
                    go_wp2_with (go_at_call 18; refine Calls.mono (HG.out _) ?_; rintro e w' ⟨rfl, rfl⟩)
                    try rw [Exit.noGoto_ret]
                    go_ret2
                    exact ⟨by rw [← HV.out]; rfl, rfl⟩
                · have d7 : ¬ (i : Int) ≤ (m : Int) := by omega
                  have HA1 : Box (All B i (m + 1)) := ⟨all_one B i m HK.out (fun h => absurd h d6)⟩
                  clear HS2 HN2 HS HN
                  go_wp2
                  go_roundg gi
                  case rel => exact ⟨k + 1, by omega, by go_num, ⟨by rw [show 8 * r + (k + 1) = m + 1 by have := hm.out; omega]; exact HA1.out⟩, rfl⟩
                  case measure => omega
          | zero =>
            have hk8 : k = 8 := by omega
            have D4 : Box (All B i (8 * (r + 1))) := ⟨by rw [show 8 * (r + 1) = m by have := hm.out; omega]; exact HK.out⟩
            subst hk8
            clear HS HN
            go_wp2
            go_roundg go
            case rel => exact ⟨r + 1, by omega, by go_num, D4, rfl⟩
            case measure => omega
      | zero =>
        have hrn : r = n := by omega
        subst hrn
        have hv : Box (firstV B r i j = .tuple #[.int .i64 0, .int .i64 20]) := ⟨firstV_no B r i j HJ.out.1 HJ.out.2 (fun z h1 h2 => HA.out z h1 (by have := HJ.out; omega))⟩
        rw [hv.out] at HV
        go_wp2
        try rw [Exit.noGoto_ret]
        go_ret2
        exact ⟨by rw [← HV.out]; rfl, rfl⟩
  · have ht : spanB n a t = false := by unfold spanB; simpa using h
    have HV : Box (firstV B n a t = .tuple #[.int .i64 0, .int .i64 12]) := ⟨by unfold firstV; rw [if_neg (by simp [ht])]⟩
    rw [HV.out]
    have HT : Box (Calls Try.prog 21 #[.slice p n cap, .int .i64 a, .int .i64 t] w fun e w' => e = .returned (.bool false) ∧ w = w') := ⟨span_any p n cap a t w hn h8 h9 _ ht⟩
    clear ht hB h
    go_enter Try.func13, Try.ntmps13
    go_wp2
    go_step3
    go_wp2_with (go_at_call 21; refine Calls.mono HT.out ?_; rintro e w' ⟨rfl, rfl⟩)
    try rw [Exit.noGoto_ret]
    go_ret2
    exact ⟨rfl, rfl⟩
end Go.Proofs.Ytjfcliihgpkhdaa
