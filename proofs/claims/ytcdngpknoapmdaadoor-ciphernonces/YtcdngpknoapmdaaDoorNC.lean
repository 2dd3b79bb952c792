/-
  The walk of CipherNonces: nonces are the same just if places and versions are: the law returns true, in every memory that holds the package's table.
-/
import Derived.Test.YtcdngpknoapmdaaDoorEQ
import Derived.Test.YtcdngpknoapmdaaDoorFS
namespace Go.Proofs.YtcdngpknoapmdaaDoor
set_option linter.unusedVariables false
open Go.RowKit Plain

set_option maxRecDepth 20000 in
set_option maxHeartbeats 1000000 in
theorem nonces_in (a b c d : Int) (w : World) (hT : Tab w) (ha : W32 a) (hb : 0 ≤ b ∧ b ≤ 18446744073709551615) (hc : W32 c) (hd : 0 ≤ d ∧ d ≤ 18446744073709551615) :
    Calls Tryd.prog 6 #[.int .u32 a, .int .u64 b, .int .u32 c, .int .u64 d] w fun e w' => e = .returned (.bool true) ∧ Below w.heap.size w w' := by
  have HA : Box (Calls Tryd.prog 9 #[] w fun e w' => e = .returned (.bool true) ∧ Below w.heap.size w w') := ⟨awake_any w hT⟩
  have HI : Box (non a b = non c d → a = c ∧ b = d) := ⟨non_inj a b c d ha hb hc hd⟩
  obtain ⟨X, EX⟩ := named (non a b)
  obtain ⟨Y, EY⟩ := named (non c d)
  have C1 : Box (∀ x, Calls Tryd.prog 12 #[.int .u32 a, .int .u64 b] x fun e w' => e = .returned (.agg (u8s X)) ∧ Below x.heap.size x w') := ⟨fun x => by rw [← EX.out]; exact nonce_any a b x ha hb⟩
  have C2 : Box (∀ x, Calls Tryd.prog 12 #[.int .u32 c, .int .u64 d] x fun e w' => e = .returned (.agg (u8s Y)) ∧ Below x.heap.size x w') := ⟨fun x => by rw [← EY.out]; exact nonce_any c d x hc hd⟩
  have hXl : X.length = 12 := by rw [← EX.out]; exact length_non _ _
  have hYl : Y.length = 12 := by rw [← EY.out]; exact length_non _ _
  have q := eq12 X Y hXl hYl
  have HXY : Box ((a = c ∧ b = d → decide (X = Y) = true) ∧ (¬ (a = c ∧ b = d) → decide (X = Y) = false)) := ⟨by
    rw [← EX.out, ← EY.out]
    exact ⟨fun h => by rw [h.1, h.2]; simp, fun h => by simp only [decide_eq_false_iff_not]; exact fun h' => h (HI.out h')⟩⟩
  clear hT ha hb hc hd HI EX EY
  by_cases h1 : a = c
  · subst h1
    by_cases h2 : b = d
    · subst h2
      rw [HXY.out.1 ⟨rfl, rfl⟩] at q
      clear HXY
      go_enter Tryd.func6, Tryd.ntmps6
      go_wp2_with (first
        | (go_at_call 12; refine (C2.out w2).mono ?_; rintro e w3 ⟨rfl, hb3⟩; have H3 : Box (Below w.heap.size w w3) := ⟨below_to H2.out hb3⟩; clear hb3)
        | (go_at_call 12; refine (C1.out w1).mono ?_; rintro e w2 ⟨rfl, hb2⟩; have H2 : Box (Below w.heap.size w w2) := ⟨below_to H1.out hb2⟩; clear hb2)
        | (go_at_call 9; refine HA.out.mono ?_; rintro e w1 ⟨rfl, hb1⟩; have H1 : Box (Below w.heap.size w w1) := ⟨hb1⟩; clear hb1))
      go_ret
      exact ⟨rfl, H3.out⟩
    · rw [HXY.out.2 (fun h => h2 h.2)] at q
      have g2 : (b == d) = false := by simpa using h2
      clear HXY
      go_enter Tryd.func6, Tryd.ntmps6
      go_wp2_with (first
        | (go_at_call 12; refine (C2.out w2).mono ?_; rintro e w3 ⟨rfl, hb3⟩; have H3 : Box (Below w.heap.size w w3) := ⟨below_to H2.out hb3⟩; clear hb3)
        | (go_at_call 12; refine (C1.out w1).mono ?_; rintro e w2 ⟨rfl, hb2⟩; have H2 : Box (Below w.heap.size w w2) := ⟨below_to H1.out hb2⟩; clear hb2)
        | (go_at_call 9; refine HA.out.mono ?_; rintro e w1 ⟨rfl, hb1⟩; have H1 : Box (Below w.heap.size w w1) := ⟨hb1⟩; clear hb1))
      go_ret
      exact ⟨rfl, H3.out⟩
  · rw [HXY.out.2 (fun h => h1 h.1)] at q
    have g1 : (a == c) = false := by simpa using h1
    clear HXY
    go_enter Tryd.func6, Tryd.ntmps6
    go_wp2_with (first
      | (go_at_call 12; refine (C2.out w2).mono ?_; rintro e w3 ⟨rfl, hb3⟩; have H3 : Box (Below w.heap.size w w3) := ⟨below_to H2.out hb3⟩; clear hb3)
      | (go_at_call 12; refine (C1.out w1).mono ?_; rintro e w2 ⟨rfl, hb2⟩; have H2 : Box (Below w.heap.size w w2) := ⟨below_to H1.out hb2⟩; clear hb2)
      | (go_at_call 9; refine HA.out.mono ?_; rintro e w1 ⟨rfl, hb1⟩; have H1 : Box (Below w.heap.size w w1) := ⟨hb1⟩; clear hb1))
    go_ret
    exact ⟨rfl, H3.out⟩

theorem cipherNonces_walk (a b c d : Int) (W : World) (hT : Tab W) (w0 : (Lit.int .u32 a).wf = true) (w1 : (Lit.int .u64 b).wf = true) (w2 : (Lit.int .u32 c).wf = true) (w3 : (Lit.int .u64 d).wf = true) :
    Calls Tryd.prog 6 #[.int .u32 a, .int .u64 b, .int .u32 c, .int .u64 d] W fun e w' => e = .returned (.bool true) ∧ Below W.heap.size W w' := by
  have b0 := bounds_u32 w0
  have b1 := bounds_u64 w1
  have b2 := bounds_u32 w2
  have b3 := bounds_u64 w3
  exact nonces_in a b c d W hT ⟨by omega, by omega⟩ ⟨by omega, by omega⟩ ⟨by omega, by omega⟩ ⟨by omega, by omega⟩
end Go.Proofs.YtcdngpknoapmdaaDoor
