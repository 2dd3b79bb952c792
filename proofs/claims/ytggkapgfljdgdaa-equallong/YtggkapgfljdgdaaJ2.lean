/-
  What the Go functions same, Bytes, Choose and Find of package equal answer, for every argument.
-/
import Derived.Test.YtggkapgfljdgdaaRows
import Derived.WalkKit
import Derived.WalkSpells
import Derived.WalkLawsBesides
import Derived.Test.YtggkapgfljdgdaaJ1
namespace Go.Proofs.Ytggkapgfljdgdaa
set_option linter.unusedVariables false
open Go.RowKit Plain

set_option maxHeartbeats 400000 in
theorem same_other (a b : Option Addr) (la ca lb cb : Nat) (A B : List Int) (w : World) (hA : A.length = la) (hB : B.length = lb) (hla : la ≤ 9223372036854775807) (hlb : lb ≤ 9223372036854775807) (h : la ≠ lb) :
    Calls Try.prog 14 #[.slice a la ca, .slice b lb cb] w fun e w' => e = .returned (.int .u64 (sm A B)) ∧ w = w' := by
  rw [sm_len A B (by omega)]
  have hd : ¬ (la : Int) = (lb : Int) := by omega
  go_enter Try.func14, Try.ntmps14
  go_wp2
  go_ret
  exact ⟨rfl, rfl⟩

set_option maxHeartbeats 400000 in
theorem same_long (a b : Option Addr) (n ca cb : Nat) (A B : List Int) (w : World) (hA : Bytes w a n A) (hB : Bytes w b n B) (hn : n ≤ 9223372036854775807) :
    Calls Try.prog 14 #[.slice a n ca, .slice b n cb] w fun e w' => e = .returned (.int .u64 (sm A B)) ∧ w = w' := by
  have HE : Box (IntKind.u64.wrap (unl A B n - 1) / 9223372036854775808 = sm A B) := ⟨sm_end A B hA.2.1 hB.2.1 n hA.1 hB.1⟩
  have HA : Box (Bytes w a n A) := ⟨hA⟩
  have HB : Box (Bytes w b n B) := ⟨hB⟩
  clear hA hB
  go_enter Try.func14, Try.ntmps14
  go_wp2
  go_loop [5, 15] (fun t i => ∃ k : Nat, k ≤ n ∧ i = .int .i64 k ∧ t = .int .u8 (unl A B k)) (fun _ i => n - (intOf i).toNat)
  case atStart => exact ⟨0, Nat.zero_le _, rfl, rfl⟩
  case round =>
    obtain ⟨k, hk, rfl, rfl⟩ := hrel
    by_cases hlt : k < n
    · obtain ⟨b1, o1, e1, _, c1⟩ := HA.out.2.2 (by omega)
      obtain ⟨b2, o2, e2, _, c2⟩ := HB.out.2.2 (by omega)
      subst e1 e2
      have d1 := c1 k hlt
      have d2 := c2 k hlt
      clear c1 c2
      have hs : Box (bits .or .u8 (unl A B k) (bits .xor .u8 (A.getD k 0) (B.getD k 0)) = unl A B (k + 1)) := ⟨rfl⟩
      generalize A.getD k 0 = x at d1 hs
      generalize B.getD k 0 = y at d2 hs
      generalize unl A B k = t at hs
      go_wp2
      go_round
      case rel => exact ⟨k + 1, by omega, by go_num, by rw [hs.out]⟩
      case measure => simp [intOf]; omega
    · obtain rfl : k = n := by omega
      have hu := unl_bd A B k
      generalize unl A B k = t at hu HE
      go_wp2
      go_ret
      exact ⟨by rw [← HE.out]; rfl, rfl⟩

theorem same_any (a b : Option Addr) (la ca lb cb : Nat) (A B : List Int) (w : World) (hA : Bytes w a la A) (hB : Bytes w b lb B) (hla : la ≤ 9223372036854775807) (hlb : lb ≤ 9223372036854775807) :
    Calls Try.prog 14 #[.slice a la ca, .slice b lb cb] w fun e w' => e = .returned (.int .u64 (sm A B)) ∧ w = w' := by
  by_cases h : la = lb
  · subst h
    exact same_long a b la ca cb A B w hA hB hla
  · exact same_other a b la ca lb cb A B w hA.1 hB.1 hla hlb h

set_option maxHeartbeats 400000 in
theorem bytes_any (a b : Option Addr) (la ca lb cb : Nat) (A B : List Int) (w : World) (hA : Bytes w a la A) (hB : Bytes w b lb B) (hla : la ≤ 9223372036854775807) (hlb : lb ≤ 9223372036854775807) :
    Calls Try.prog 9 #[.slice a la ca, .slice b lb cb] w fun e w' => e = .returned (.bool (decide (A = B))) ∧ w = w' := by
  have HS : Box (Calls Try.prog 14 #[.slice a la ca, .slice b lb cb] w fun e w' => e = .returned (.int .u64 (sm A B)) ∧ w = w') := ⟨same_any a b la ca lb cb A B w hA hB hla hlb⟩
  rw [← sm_one A B]
  generalize sm A B = s at HS ⊢
  clear hA hB
  go_enter Try.func9, Try.ntmps9
  go_wp2_with (go_at_call 14; refine Calls.mono HS.out ?_; rintro e w' ⟨rfl, rfl⟩)
  go_ret
  exact ⟨rfl, rfl⟩

set_option maxHeartbeats 400000 in
theorem choose_any (bit one other : Int) (w : World) (h1 : 0 ≤ bit ∧ bit ≤ 18446744073709551615) (h2 : 0 ≤ one ∧ one ≤ 18446744073709551615) (h3 : 0 ≤ other ∧ other ≤ 18446744073709551615) :
    Calls Try.prog 12 #[.int .u64 bit, .int .u64 one, .int .u64 other] w fun e w' => e = .returned (.int .u64 (cho bit one other)) ∧ w = w' := by
  have HE := cho_end bit one other h1 h2 h3
  rw [← HE]
  clear HE
  go_enter Try.func12, Try.ntmps12
  go_wp2
  go_ret
  exact ⟨rfl, rfl⟩

set_option maxHeartbeats 1000000 in
theorem find_any (a : Option Addr) (n cap : Nat) (va : Nat → Option Addr) (vl vc : Nat → Nat) (C : Nat → List Int) (b : Option Addr) (lb cb : Nat) (B : List Int) (w : World) (hP : Pcs w a n va vl vc C) (hn : n ≤ 9223372036854775807) (hB : Bytes w b lb B) (hlb : lb ≤ 9223372036854775807) :
    Calls Try.prog 10 #[.slice a n cap, .slice b lb cb] w fun e w' => e = .returned (.int .i64 (hit C n B)) ∧ w = w' := by
  have HF : Box (∀ k, k ≤ n → 0 ≤ fnd C B n k ∧ fnd C B n k ≤ 18446744073709551615) := ⟨fun k hk => fnd_bd C B n k (by omega) hk⟩
  have HP : Box (Pcs w a n va vl vc C) := ⟨hP⟩
  have HB : Box (Bytes w b lb B) := ⟨hB⟩
  have HE : Box (IntKind.i64.wrap (fnd C B n n) = hit C n B) := ⟨rfl⟩
  clear hP hB
  go_enter Try.func10, Try.ntmps10
  go_wp2
  go_loop [5, 10] (fun t i => ∃ k : Nat, k ≤ n ∧ i = .int .i64 k ∧ t = .int .u64 (fnd C B n k)) (fun _ i => n - (intOf i).toNat)
  case atStart => exact ⟨0, Nat.zero_le _, rfl, rfl⟩
  case round =>
    obtain ⟨k, hk, rfl, rfl⟩ := hrel
    by_cases hlt : k < n
    · obtain ⟨b1, o1, e1, _, c1⟩ := HP.out.1 (by omega)
      subst e1
      obtain ⟨m, hm⟩ : ∃ m : Nat, n - 1 - k = m := ⟨_, rfl⟩
      have d1 := c1 m (by omega)
      obtain ⟨p1, p2, p3⟩ := HP.out.2 m (by omega)
      have hmk : (n : Int) - 1 - (k : Int) = (m : Int) := by omega
      have hml : m < n := by omega
      have hf := HF.out k hk
      have HS : Box (Calls Try.prog 14 #[.slice (va m) (vl m) (vc m), .slice b lb cb] w fun e w' => e = .returned (.int .u64 (sm (C m) B)) ∧ w = w') := ⟨same_any _ b _ _ lb cb _ B w p1 HB.out (by omega) hlb⟩
      have hsb : 0 ≤ sm (C m) B ∧ sm (C m) B ≤ 18446744073709551615 := by rcases sm_cases (C m) B with ⟨h, _⟩ | ⟨h, _⟩ <;> rw [h] <;> omega
      have HN : Box (cho (sm (C m) B) (m : Int) (fnd C B n k) = fnd C B n (k + 1)) := ⟨by rw [fnd, hm]⟩
      generalize sm (C m) B = s at HS hsb HN
      generalize fnd C B n k = t at hf HN
      have HC : Box (Calls Try.prog 12 #[.int .u64 s, .int .u64 m, .int .u64 t] w fun e w' => e = .returned (.int .u64 (cho s m t)) ∧ w = w') := ⟨choose_any s m t w hsb ⟨by omega, by omega⟩ hf⟩
      generalize cho s m t = r at HC HN
      clear c1 p1 HP hm
      generalize va m = ga at d1 HS
      generalize vl m = gl at d1 HS p2
      generalize vc m = gc at d1 HS p2 p3
      go_wp2_with (first
        | (go_at_call 14; refine Calls.mono HS.out ?_; rintro e w' ⟨rfl, rfl⟩)
        | (go_at_call 12; refine Calls.mono HC.out ?_; rintro e w' ⟨rfl, rfl⟩))
      go_round
      case rel => exact ⟨k + 1, by omega, by go_num, by rw [HN.out]⟩
      case measure => simp [intOf]; omega
    · obtain rfl : k = n := by omega
      go_wp2
      go_ret
      exact ⟨by rw [← HE.out, IntWalk.i64_left]; rfl, rfl⟩
end Go.Proofs.Ytggkapgfljdgdaa
