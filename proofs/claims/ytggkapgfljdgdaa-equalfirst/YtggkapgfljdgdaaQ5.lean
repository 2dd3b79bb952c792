/-
  The walk of EqualFirst: what is found is the first one of its kind, wherever others stand: the law returns true.
-/
import Derived.Test.YtggkapgfljdgdaaQ3
import Derived.Deep.Cut
namespace Go.Proofs.Ytggkapgfljdgdaa
set_option linter.unusedVariables false
open Go.RowKit Plain

theorem hit_self (C : Nat → List Int) (n k : Nat) (hk : k < n) (hn : n ≤ 9223372036854775807) : ∃ r : Nat, r ≤ k ∧ hit C n (C k) = r ∧ C r = C k ∧ ∀ i, i < r → C i ≠ C k := by
  rcases hit_is C n (C k) hn with ⟨_, h⟩ | ⟨r, h1, h2, h3, h4⟩
  · exact absurd rfl (h k hk)
  · refine ⟨r, ?_, h2, h3, h4⟩
    apply Nat.le_of_not_lt
    intro h
    exact h4 k h rfl

set_option maxHeartbeats 2000000 in
theorem first_in (l : Option Addr) (n cl : Nat) (va : Nat → Option Addr) (vl vc : Nat → Nat) (C : Nat → List Int) (at' : Int) (k : Nat) (w : World) (hP : Pcs w l n va vl vc C) (h0 : 0 < n) (h3 : n ≤ 50) (h1 : 0 ≤ at' ∧ at' ≤ 255) (hk : at' % (n : Int) = (k : Int)) :
    Calls Try.prog 6 #[.slice l n cl, .int .u8 at'] w fun e w' => e = .returned (.bool true) ∧ ∃ m, w' = w.drewN m := by
  have d0 : ((n : Int) == 0) = false := by simp; omega
  have d1 : ¬ 50 < (n : Int) := by omega
  have hkn : k < n := by have := Int.emod_lt_of_pos at' (show (0 : Int) < n by omega); omega
  obtain ⟨b1, o1, e1, hbl, c1⟩ := hP.1 h0
  subst e1
  have HC : Box (∀ i, i < n → w.cell? ⟨b1, o1 + i, none⟩ = some (.slice (va i) (vl i) (vc i))) := ⟨c1⟩
  have HV : Box (∀ i, i < n → vl i ≤ vc i ∧ vc i ≤ 9223372036854775807) := ⟨fun i hi => (hP.2 i hi).2⟩
  have HQ : Box (∀ i, i < n → ∀ x, Below w.heap.size w x → (convert 22 9 (.slice (va i) (vl i) (vc i))).run Try.prog x = .ok (.string (strOfNums (C i))) x) := ⟨fun i hi x hx => conv_bytes ((hP.2 i hi).1.below hx) (vc i)⟩
  obtain ⟨r, hr, hrh, hrC, hrl⟩ := hit_self C n k hkn (by omega)
  have HF : Box (Calls Try.prog 10 #[.slice (some ⟨b1, o1, none⟩) n cl, .slice (va k) (vl k) (vc k)] w fun e w' => e = .returned (.int .i64 r) ∧ w = w') := ⟨by
    rw [← hrh]
    exact find_any _ n cl va vl vc C (va k) (vl k) (vc k) (C k) w hP (by omega) (hP.2 k hkn).1 (by have := (hP.2 k hkn).2; omega)⟩
  have HN : Box (∀ i, i < r → ((strOfNums (C i)).toList == (strOfNums (C k)).toList) = false) := ⟨fun i hi => by
    rw [str_beq _ _ (hP.2 i (by omega)).1.2.1 (hP.2 k hkn).1.2.1]
    simpa using hrl i hi⟩
  have HR : Box (C r = C k) := ⟨hrC⟩
  clear hP c1 hrl hrC hrh
  go_enter Try.func6, Try.ntmps6
  go_wp2_with (go_at_call 8; refine (awake_any _).mono ?_; rintro e w' ⟨rfl, rfl⟩)
  go_loop [6] (fun i => ∃ t : Nat, t ≤ n ∧ i = .int .i64 t) (fun i => n - (intOf i).toNat)
  case atStart => exact ⟨0, Nat.zero_le _, rfl⟩
  case round =>
    obtain ⟨t, ht, rfl⟩ := hrel
    by_cases hlt : t < n
    · have dt := HC.out t hlt
      have ⟨p2, p3⟩ := HV.out t hlt
      generalize va t = ga at dt
      generalize vl t = gl at dt p2
      generalize vc t = gc at dt p2 p3
      by_cases hg : gl ≤ 200
      · have g1 : ¬ 200 < (gl : Int) := by omega
        go_wp2
        go_round
        case rel => exact ⟨t + 1, by omega, by go_num⟩
        case measure => simp [intOf]; omega
      · have g1 : 200 < (gl : Int) := by omega
        go_wp2
        go_ret
        exact ⟨rfl, 0, rfl⟩
    · obtain rfl : t = n := by omega
      have dk := HC.out k hkn
      have ⟨p2, p3⟩ := HV.out k hkn
      have dr := HC.out r (by omega)
      have ⟨q2, q3⟩ := HV.out r (by omega)
      have s1 := fun m => HQ.out k hkn (w.drewN m) (below_drewN (Below.refl _ _) m)
      have s2 := fun m => HQ.out r (by omega) (w.drewN m) (below_drewN (Below.refl _ _) m)
      rw [HR.out] at s2
      generalize hgk : va k = gk at dk HF s1
      generalize hlk : vl k = lk at dk HF p2 s1
      generalize hck : vc k = ck at dk HF p2 p3 s1
      generalize va r = gr at dr s2
      generalize vl r = lr at dr q2 s2
      generalize vc r = cr at dr q2 q3 s2
      generalize hsk : strOfNums (C k) = sk at s1 s2 HN
      go_upto_region 13 with (go_at_call 10; refine Calls.mono HF.out ?_; rintro e w' ⟨rfl, rfl⟩)
      have i1 : ¬ (k : Int) < (r : Int) := by omega
      have i2 : r < t := by omega
      have i3 : decide (t ≤ r) = false := by simp; omega
      have i4 : decide (t ≤ k) = false := by simp; omega
      rw [show decide (50 < (t : Int)) = false by simp; omega]
      rename_i _ ax _ _ _
      go_quiet (fail)
      go_wp2
      simp only [show decide ((r : Int) < 0) = false by simp]
      go_loopw [9] (fun i wr => ∃ q : Nat, q ≤ r ∧ i = .int .i64 q ∧ Box (∃ m, wr = w.drewN m)) (fun i _ => r - (intOf i).toNat)
      case atStart => exact ⟨0, Nat.zero_le _, rfl, ⟨nq, rfl⟩⟩
      case round =>
        obtain ⟨q, hq, rfl, HI⟩ := hrel
        by_cases hlt : q < r
        · have hb : Below w.heap.size w wr := drew_below HI.out
          have ek : wr.cell? ⟨b1, o1 + k, none⟩ = some (.slice gk lk ck) := (hb.cell hbl).trans dk
          have eq : wr.cell? ⟨b1, o1 + q, none⟩ = some (.slice (va q) (vl q) (vc q)) := (hb.cell hbl).trans (HC.out q (by omega))
          have ⟨p4, p5⟩ := HV.out q (by omega)
          have t1 := fun m => HQ.out k hkn (wr.drewN m) (below_drewN hb m)
          have t2 := fun m => HQ.out q (by omega) (wr.drewN m) (below_drewN hb m)
          have hne := HN.out q hlt
          rw [hgk, hlk, hck, hsk] at t1
          clear hb s1 s2 dk dr HC HV HQ
          generalize va q = ga at eq t2
          generalize vl q = gl at eq t2 p4
          generalize vc q = gc at eq t2 p4 p5
          generalize strOfNums (C q) = sq at t2 hne
          have j1 : decide (t ≤ q) = false := by simp; omega
          go_wp2
          go_quiet (fail)
          go_wp2
          go_roundw
          case rel => exact ⟨q + 1, by omega, by go_num, ⟨drewN_on HI.out nq⟩⟩
          case measure => simp [intOf]; omega
        · obtain rfl : q = r := by omega
          go_wp2
          go_ret
          exact ⟨rfl, HI.out⟩

set_option maxHeartbeats 1000000 in
theorem first_out (l : Option Addr) (n cl : Nat) (at' : Int) (w : World) (hn : n ≤ 9223372036854775807) (h : n = 0 ∨ 50 < n) :
    Calls Try.prog 6 #[.slice l n cl, .int .u8 at'] w fun e w' => e = .returned (.bool true) ∧ ∃ m, w' = w.drewN m := by
  by_cases h0 : n = 0
  · subst h0
    go_enter Try.func6, Try.ntmps6
    go_wp2_with (go_at_call 8; refine (awake_any _).mono ?_; rintro e w' ⟨rfl, rfl⟩)
    go_ret
    exact ⟨rfl, 0, rfl⟩
  · have d0 : ((n : Int) == 0) = false := by simp; omega
    have d1 : 50 < (n : Int) := by omega
    clear h h0
    go_enter Try.func6, Try.ntmps6
    go_wp2_with (go_at_call 8; refine (awake_any _).mono ?_; rintro e w' ⟨rfl, rfl⟩)
    go_ret
    exact ⟨rfl, 0, rfl⟩

theorem equalFirst_walk (l : Option Addr) (n cl : Nat) (va : Nat → Option Addr) (vl vc : Nat → Nat) (Z : Nat → List Int) (at' : Int) (w : World) (hP : AreRows w l n cl va vl vc Z) (w2 : (Lit.int .u8 at').wf = true) :
    Calls Try.prog 6 #[.slice l n cl, .int .u8 at'] w fun e w' => e = .returned (.bool true) ∧ Below w.heap.size w w' := by
  have b2 := bounds_u8 w2
  have mP := hP.pcs
  by_cases h : n = 0 ∨ 50 < n
  · refine (first_out l n cl at' w (by omega) h).mono ?_
    rintro e w' ⟨rfl, hb⟩
    exact ⟨rfl, drew_below hb⟩
  · have hb : 0 ≤ at' % (n : Int) := Int.emod_nonneg _ (by omega)
    refine (first_in l n cl va vl vc _ at' (at' % (n : Int)).toNat w mP.1 (by omega) (by omega) ⟨by omega, by omega⟩ (by omega)).mono ?_
    rintro e w' ⟨rfl, hb⟩
    exact ⟨rfl, drew_below hb⟩
end Go.Proofs.Ytggkapgfljdgdaa
