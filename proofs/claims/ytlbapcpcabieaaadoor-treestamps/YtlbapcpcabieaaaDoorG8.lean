/-
  The document's example of layer 10.
-/
import Derived.Test.YtlbapcpcabieaaaDoorG7
namespace Go.Proofs.YtlbapcpcabieaaaDoor
set_option linter.unusedVariables false
open Go.RowKit Plain

set_option maxRecDepth 20000 in
set_option maxHeartbeats 1000000 in
theorem awake_any (w : World) (hT : Dig.Tabs w) : Calls Tryd.prog 8 #[] w fun e w' => e = .returned (.bool true) ∧ Below w.heap.size w w' := by
  obtain ⟨X, HX⟩ : ∃ X, Box (dsha (dg 0 0 []) = X) := ⟨_, ⟨rfl⟩⟩
  have HXs : Box (X.length = 32 ∧ Byt X ∧ OkR ⟨X, 0⟩) := by
    have h1 : X.length = 32 := by rw [← HX.out, length_dsha]
    have h2 : Byt X := by rw [← HX.out]; exact byt_dsha _
    exact ⟨h1, h2, h1, h2, ⟨by simp, by simp⟩⟩
  have C1 : Box (∀ x, Calls Tryd.prog 17 #[.int .u64 3, .int .i64 1] x fun e w' => e = .returned (.tuple #[.int .u64 7, .int .i64 0]) ∧ x = w') := ⟨fun x => stamp_ok 3 1 x (by decide) (by decide) (by decide) (by decide)⟩
  have C2 : Box (∀ x, Calls Tryd.prog 18 #[.int .u64 7] x fun e w' => e = .returned (.int .u64 3) ∧ x = w') := ⟨fun x => version_any 7 x ⟨by decide, by decide⟩⟩
  have C3 : Box (∀ x, Calls Tryd.prog 19 #[.int .u64 7] x fun e w' => e = .returned (.int .i64 1) ∧ x = w') := ⟨fun x => side_any 7 x ⟨by decide, by decide⟩⟩
  have C4 : Box (∀ x, Below w.heap.size w x → Calls Tryd.prog 14 #[.int .i64 0, .int .u32 0, .slice none 0 0] x fun e w' => e = .returned (.agg (u8s X)) ∧ Below x.heap.size x w') := ⟨fun x hx => by
    rw [← HX.out]
    exact digest_any 0 0 none 0 0 [] x (hT.below hx) ⟨by decide, by decide⟩ ⟨rfl, byt_nil, fun h => absurd h (by omega)⟩ (by omega) (by omega) (by omega)⟩
  have C5 : Box (∀ x, Below w.heap.size w x → Calls Tryd.prog 16 #[.agg (ra ⟨X, 0⟩), .int .i64 0, .int .u32 0, .slice none 0 0] x fun e w' => e = .returned (.bool true) ∧ Below x.heap.size x w') := ⟨fun x hx => by
    have := check_any ⟨X, 0⟩ 0 0 none 0 0 [] x HXs.out.2.2 (hT.below hx) ⟨by decide, by decide⟩ ⟨rfl, byt_nil, fun h => absurd h (by omega)⟩ (by omega) (by omega) (by omega)
    rw [HX.out] at this
    simpa using this⟩
  have C6 : Box (∀ x a cap, Bytes x a 160 (nb zn) → 160 ≤ cap → cap ≤ maxLen → Calls Tryd.prog 10 #[.slice a 160 cap] x fun e w' => e = .returned (.tuple #[.agg (na zn), .int .i64 0]) ∧ Below x.heap.size x w') := ⟨fun x a cap hB h1 h2 => by
    have := tget_ok a cap (nb zn) x hB h1 (by unfold maxLen at h2; omega)
    rwa [ofN_nb okN_zn 4 (Nat.le_refl _)] at this⟩
  have HN : Box (OkN zn ∧ zn.length = 4 ∧ eqN zn zn = true) := ⟨okN_zn, rfl, eqN_self zn rfl⟩
  clear hT HX
  go_enter Tryd.func8, Tryd.ntmps8
  go_upto_region 2 with (go_at_call 17; refine Calls.mono (C1.out _) ?_; rintro e w' ⟨rfl, rfl⟩)
  go_upto_region 3 with (first
    | (go_at_call 9; refine Calls.mono (tput_any zn w HN.out.1 HN.out.2.1) ?_; rintro e w1 ⟨a1, cap1, rfl, hB, hc1, hc2, hb⟩; have H1 : Box (Below w.heap.size w w1 ∧ Bytes w1 a1 160 (nb zn) ∧ 160 ≤ cap1 ∧ cap1 ≤ maxLen) := ⟨hb, hB, hc1, hc2⟩; clear hb hB hc1 hc2)
    | (refine wpList_run rfl _ _ (exec_built 28 [] rfl [] rfl _ built_N) ?_))
  go_upto_region 4 with (first
    | (go_at_call 10; refine Calls.mono (C6.out w1 a1 cap1 H1.out.2.1 H1.out.2.2.1 H1.out.2.2.2) ?_; rintro e w2 ⟨rfl, hb⟩; have H2 : Box (Below w.heap.size w w2) := ⟨below_to H1.out.1 hb⟩; clear hb)
    | (refine wpList_run rfl _ _ (exec_alloc 28 rfl _ zeroN) ?_)
    | (refine wpList_newN infoN w2 zn HN.out.1 HN.out.2.1 rfl _ _ rfl rfl rfl rfl ?_; intro w3 hl hb; have H3 : Box (Below w.heap.size w w3 ∧ LiesN w3 w2.heap.size 28 zn) := ⟨below_to H2.out hb, hl⟩; clear hl hb))
  generalize w2.heap.size = G1 at H3 ⊢
  go_upto_region 5 with (first
    | (go_at_call 14; refine Calls.mono (C4.out w3 H3.out.1) ?_; rintro e w4 ⟨rfl, hb⟩; have H4 : Box (Below w.heap.size w w4 ∧ LiesN w4 G1 28 zn) := ⟨below_to H3.out.1 hb, H3.out.2.below hb⟩; clear hb)
    | (refine wpList_run rfl _ _ (exec_alloc 23 rfl _ zeroS) ?_)
    | (refine wpList_newS w4 X HXs.out.1 rfl _ _ rfl rfl rfl rfl ?_; intro w5 hl hb; have H5 : Box (Below w.heap.size w w5 ∧ LiesN w5 G1 28 zn ∧ LiesS w5 w4.heap.size X) := ⟨below_to H4.out.1 hb, H4.out.2.below hb, hl⟩; clear hl hb))
  generalize w4.heap.size = G2 at H5 ⊢
  clear H1 H2 H3 H4
  simp only [Act.put, List.setIfInBounds_toArray, List.set_cons_zero, List.set_cons_succ]
  go_wp2_with (first
    | (go_at_call 16; refine Calls.mono (C5.out w5 H5.out.1) ?_; rintro e w6 ⟨rfl, hb⟩; have H6 : Box (Below w.heap.size w w6) := ⟨below_to H5.out.1 hb⟩; clear hb)
    | (go_at_call 18; refine Calls.mono (C2.out _) ?_; rintro e w' ⟨rfl, rfl⟩)
    | (go_at_call 19; refine Calls.mono (C3.out _) ?_; rintro e w' ⟨rfl, rfl⟩)
    | (refine atLoad _ ?_; first | (refine wpList_runG (by rfl) _ _ (exec_node Tryd.underlying28 infoN (.tmp 4) rfl G1 rfl zn HN.out.1 HN.out.2.1 H5.out.2.1) ?_) | (refine wpList_runG (by rfl) _ _ (exec_sumL (.tmp 6) rfl G2 rfl X HXs.out.1 HXs.out.2.1 H5.out.2.2) ?_))
    | (refine atBuild _ ?_; first | (refine wpList_runG (by rfl) _ _ (exec_built 28 [] rfl [] rfl _ built_N) ?_) | (refine wpList_runG (by rfl) _ _ (exec_built 26 [(0, .tmp 40)] rfl _ rfl _ (built_R X HXs.out.1)) ?_))
    | (refine atBin _ 28 ?_; refine wpList_runG (by rfl) _ _ (exec_eqN rt26 Tryd.underlying28 guardN (.tmp 31) (.tmp 32) _ rfl zn zn HN.out.1 HN.out.1 HN.out.2.1 HN.out.2.1 rfl rfl) ?_; rw [HN.out.2.2]))
  go_ret
  exact ⟨rfl, H6.out⟩
end Go.Proofs.YtlbapcpcabieaaaDoor
