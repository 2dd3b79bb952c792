/-
 JournalPlays, of what comes in.
-/
import Derived.Test.YthfobaeafapbnaaDoorQ43
set_option linter.unusedVariables false
set_option maxRecDepth 100000
namespace Go.Proofs.YthfobaeafapbnaaDoor
open Go.RowKit Plain
theorem journalPlays_far (p : Int) (K : List Int) (f z : Int) (s : Jst) (nx lim : Int) (a : Option Addr) (n cap : Nat) (w : World) (hT : Dig.Tabs w) (hT2 : Seal.Tab w) (hp : p < 1 ∨ 1 <= p /\ 30 < p) :
  Calls Tryd.prog 3 #[.int .i64 p, .agg (u8s K), .int .i64 f, .int .i64 z, .agg (sa s), .int .u64 nx, .int .u64 lim, .slice a n cap] w fun e w' => e = .returned (.bool true) /\ Below w.heap.size w w' := by
 obtain ⟨AK, hAK⟩ : ∃ A, u8s K = A := ⟨_, rfl⟩
 obtain ⟨SA, hSA⟩ : ∃ A, sa s = A := ⟨_, rfl⟩
 rw [hAK, hSA]
 obtain ⟨w1, hw1⟩ : ∃ w1, (w.alloc (.cells AK 23)).alloc (.cells SA 26) = w1 := ⟨_, rfl⟩
 have hb1 : Below w.heap.size w w1 := by rw [<- hw1]; exact ((Below.refl _ _).alloc (Nat.le_refl _) _).alloc (by simp) _
 have HA : Box (Calls Tryd.prog 4 #[] w1 fun e w' => e = .returned (.bool true) /\ Below w1.heap.size w1 w') := ⟨awake_v w1 (hT.below hb1) (hT2.below hb1)⟩
 have HB : Box (Below w.heap.size w w1) := ⟨hb1⟩
 clear hT hT2 hb1 hAK hSA
 go_enter Tryd.func3, Tryd.ntmps3
 go_upto_region 1 with fail
 (try rw [hw1])
 clear hw1
 go_upto_region 4 with (go_at_call 4; refine HA.out.mono ?_; rintro e x1 ⟨rfl, hb⟩; have H1 : Box (Below w1.heap.size w1 x1) := ⟨hb⟩; clear hb)
 rcases hp with h1 | ⟨h0, h1⟩
 ·have g1 : decide (p < 1) = true := by simpa using h1
  go_wp2
  go_ret
  exact ⟨rfl, below_to HB.out H1.out⟩
 ·have g0 : decide (p < 1) = false := by simp; omega
  have g1 : decide (30 < p) = true := by simpa using h1
  have g2 : ¬ p < 1 := by omega
  go_wp2
  go_ret
  exact ⟨rfl, below_to HB.out H1.out⟩
theorem journalPlays_walk (p : Int) (K : List Int) (f z : Int) (s : Jst) (nx lim : Int) (a : Option Addr) (cap : Nat) (L : List Ac) (w : World) (hT : Dig.Tabs w) (hT2 : Seal.Tab w) (w0 : (Lit.int .i64 p).wf = true) (hl : K.length = 32) (hK : Byt K) (w2 : (Lit.int .i64 f).wf = true) (w3 : (Lit.int .i64 z).wf = true) (hs : OkS s) (w5 : (Lit.int .u64 nx).wf = true) (w6 : (Lit.int .u64 lim).wf = true) (hA : Ats w a L) (yL : L.length <= maxLen) :
  Calls Tryd.prog 3 #[.int .i64 p, .agg (u8s K), .int .i64 f, .int .i64 z, .agg (sa s), .int .u64 nx, .int .u64 lim, .slice a L.length cap] w fun e w' => e = .returned (.bool true) /\ Below w.heap.size w w' := by
 have b2 := bounds_i64 w2
 have b3 := bounds_i64 w3
 have b5 := bounds_u64 w5
 have b6 := bounds_u64 w6
 unfold maxLen at yL
 by_cases hp : 1 <= p /\ p <= 30
 rotate_left
 ·exact journalPlays_far p K f z s nx lim a L.length cap w hT hT2 (by omega)
 ·obtain ⟨n, rfl⟩ := Int.eq_ofNat_of_zero_le (show 0 <= p by omega)
  have hn : 1 <= n /\ n <= 30 := by omega
  by_cases hr : 0 <= f /\ 1 <= z /\ f + z <= (n : Int)
  rotate_left
  ·refine journalPlays_no n hn K ⟨hl, hK⟩ f z s hs nx lim a cap L (by omega) w hT hT2 hA (fun x0 x D fp d hc hd => ?_) (fun x => ?_)
   ·exact jnew_rng hc K f z (by omega) (by omega) (by rw [hd]; omega) s nx lim
   ·exact rnew13_rng n (by omega) f z (by omega) (by omega) K hl s hs nx lim x
  ·obtain ⟨f, rfl⟩ := Int.eq_ofNat_of_zero_le hr.1
   obtain ⟨z, rfl⟩ := Int.eq_ofNat_of_zero_le (show 0 <= z by omega)
   by_cases ho : may z s = true /\ nx ≠ 0 /\ lim <= 9223372036854775807
   ·exact journalPlays_ok n hn K ⟨hl, hK⟩ f z (by omega) (by omega) s hs nx lim ho.1 (by have := ho.2.1; omega) ⟨by omega, ho.2.2⟩ a cap L (by omega) w hT hT2 hA
   ·have hm : may z s = true ↔ s.start < z /\ s.count <= z := by simp [may]
    refine journalPlays_no n hn K ⟨hl, hK⟩ (f : Int) (z : Int) s hs nx lim a cap L (by omega) w hT hT2 hA (fun x0 x D fp d hc hd => ?_) (fun x => ?_)
    ·refine jnew_bad hc K ⟨hl, hK⟩ f z (by omega) (by omega) (by omega) s hs nx lim ?_
     by_cases hmm : may z s = true
     ·by_cases hx : nx = 0
      ·exact .inr (.inl ⟨hmm, hx⟩)
      ·exact .inr (.inr ⟨hmm, hx, by have : ¬ lim <= 9223372036854775807 := fun h => ho ⟨hmm, hx, h⟩; omega⟩)
     ·exact .inl (by simpa using hmm)
    ·refine rnew13_bad n f z (by omega) (by omega) (by omega) K hl s hs nx lim ?_ x
     by_cases hmm : may z s = true
     ·obtain ⟨m1, m2⟩ := hm.1 hmm
      by_cases hx : nx = 0
      ·exact .inr (.inr (.inl ⟨m1, m2, hx⟩))
      ·exact .inr (.inr (.inr ⟨m1, m2, hx, by have : ¬ lim <= 9223372036854775807 := fun h => ho ⟨hmm, hx, h⟩; omega⟩))
     ·rw [hm] at hmm
      omega
end Go.Proofs.YthfobaeafapbnaaDoor
