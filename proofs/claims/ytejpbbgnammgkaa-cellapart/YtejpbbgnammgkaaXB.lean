/-
  The document's example of layer 7.
-/
import Derived.Test.YtejpbbgnammgkaaXA
namespace Go.Proofs.Ytejpbbgnammgkaa
set_option linter.unusedVariables false
open Go.RowKit Plain

theorem field3 {C : Cl} (h : Ok C) (w : World) : (Instr.field 26 (.agg (av C)) 3).run Try.prog w = .ok (.int .u64 C.s) w := by
  have hp := part_n h 2 (by omega) w
  unfold Instr.field
  simp only [Sem.run_bind, run_underlying Try.underlying26, Result.andThen_ok]
  exact hp
/-- A cell stored into a block that has just been made. -/
theorem wpList_newC {ops : Array Oper} {rest : List Oper} {o : Oper} {a : Act} {v : World} {Q : Exit → Act → World → Prop} (w : World) (C : Cl) (hC : Ok C) (hgd : o.guard = none) (x y : Operand) (ho : o.op = .store 26 x y)
    (hx : a.eval x = .pointer (some ⟨w.heap.size, 0, none⟩)) (hy : a.eval y = .agg (av C)) (hv : v = w.alloc (.cells (av zc) 26))
    (h : ∀ z, Lies z w.heap.size C → Below w.heap.size w z → wpList Try.prog ops Q rest (a.put o.dst undef) z) : wpList Try.prog ops Q (o :: rest) a v := by
  subst hv
  have hs := size_av hC
  exact wpList_store_row hgd 26 x y ho w.heap.size (av C) hx hy 26 (av zc) (al_at rfl) (by rw [hs]; exact infoC) (by rw [hs, size_av ok_zc]) (all_av C)
    (h _ (setRow_heap _ _ _ _ _ _ (al_at rfl)) (below_setRow ((Below.refl _ _).alloc (Nat.le_refl _) _) (Nat.le_refl _) _))
theorem below_to' {K : Nat} {a b c : World} (h : Below K a b) (hb : Below b.heap.size b c) (hk : K < b.heap.size) : Below K a c := h.trans (hb.mono (Nat.le_of_lt hk))
theorem Keeps.on {w w' : World} {K B : Nat} {C : Cl} {t : Int} (h : Keeps w K C t) (hb : Below B w w') (hB : K < B) : Keeps w' K C t := (hb.block K hB).trans h

set_option maxRecDepth 20000 in
set_option maxHeartbeats 1000000 in
theorem awake_any (w : World) : Calls Try.prog 7 #[] w fun e w' => e = .returned (.bool true) ∧ Below w.heap.size w w' := by
  obtain ⟨K, HK⟩ : ∃ K, Box (w.heap.size = K) := ⟨_, ⟨rfl⟩⟩
  have C0 : Box (∀ x, Keeps x K zc 0 → Calls Try.prog 13 #[.pointer (some ⟨K, 0, none⟩), .agg (av zc)] x fun e w' => e = .returned (.int .i64 16) ∧ Below x.heap.size x w') := ⟨fun x hx => kput_back x K zc zc 0 hx ok_zc ok_zc (Int.le_refl _)⟩
  have C1 : Box (∀ x, Keeps x K zc 0 → Calls Try.prog 13 #[.pointer (some ⟨K, 0, none⟩), .agg (av c15)] x fun e w' => e = .returned (.int .i64 0) ∧ Keeps w' K c15 (0 + 1) ∧ But K x w') := ⟨fun x hx => kput_ok x K zc c15 0 hx ok_zc ok_c15 (by decide) (by omega)⟩
  have C9 : Box (ofB (cb c9) = c9) := ⟨ofB_cb ok_c9⟩
  go_enter Try.func7, Try.ntmps7
  go_upto_region 5 with (first
    | (refine wpList_newC w5 c9 ok_c9 rfl _ _ rfl rfl rfl rfl ?_; intro z5 hz5 hb5; have H6 : Box (Keeps z5 K c15 (0 + 1) ∧ Below K w z5 ∧ Lies z5 w5.heap.size c9) := ⟨H5.out.1.below hb5, below_to' H5.out.2 hb5 H5.out.1.lt, hz5⟩; clear hz5 hb5)
    | (refine wpList_run rfl _ _ (exec_alloc 26 rfl _ zeroC) ?_)
    | (go_at_call 9; refine Calls.mono (cget_ok a4 cap4 (cb c9) w4 H4.out.2.2.1 H4.out.2.2.2) ?_; rintro e w5 ⟨rfl, hb⟩; rw [C9.out]; have H5 : Box (Keeps w5 K c15 (0 + 1) ∧ Below K w w5) := ⟨H4.out.1.below hb, below_to' H4.out.2.1 hb H4.out.1.lt⟩; clear hb)
    | (go_at_call 8; refine Calls.mono (cput_any c9 w3 ok_c9) ?_; rintro e w4 ⟨a4, cap4, rfl, hB, hc1, hc2, hb⟩; have H4 : Box (Keeps w4 K c15 (0 + 1) ∧ Below K w w4 ∧ Bytes w4 a4 96 (cb c9) ∧ 96 ≤ cap4) := ⟨H3.out.1.below hb, below_to' H3.out.2 hb H3.out.1.lt, hB, hc1⟩; clear hB hc1 hc2 hb)
    | (refine wpList_run rfl _ _ (exec_built 26 [(4, .const (.int .u64 9))] rfl _ rfl _ built_C9) ?_)
    | (go_at_call 13; refine Calls.mono (C1.out w2 H2.out.1) ?_; rintro e w3 ⟨rfl, hk, hb⟩; have H3 : Box (Keeps w3 K c15 (0 + 1) ∧ Below K w w3) := ⟨hk, H2.out.2.trans (hb.below (Nat.le_refl _) (Nat.le_of_lt H2.out.1.lt))⟩; clear hk hb)
    | (refine wpList_run rfl _ _ (exec_built 26 [(2, .const (.int .u64 1)), (3, .const (.int .u64 5))] rfl _ rfl _ built_C15) ?_)
    | (go_at_call 13; refine Calls.mono (C0.out w1 H1.out.1) ?_; rintro e w2 ⟨rfl, hb⟩; have H2 : Box (Keeps w2 K zc 0 ∧ Below K w w2) := ⟨H1.out.1.below hb, below_to' H1.out.2 hb H1.out.1.lt⟩; clear hb)
    | (refine wpList_run rfl _ _ (exec_built 26 [] rfl [] rfl _ built_C) ?_)
    | (go_at_call 12; refine Calls.mono (new_any w) ?_; rintro e w1 ⟨rfl, hk, hb⟩; rw [HK.out] at hk hb ⊢; have H1 : Box (Keeps w1 K zc 0 ∧ Below K w w1) := ⟨hk, hb⟩; clear hk hb))
  have HF : ∀ x, (Instr.field 26 (.agg (av c15)) 3).run Try.prog x = .ok (.int .u64 5) x := field3 ok_c15
  generalize w5.heap.size = G at H6 ⊢
  clear C0 C1 C9 H1 H2 H3 H4 H5
  go_wp2_with (first
    | (go_at_call 15; refine Calls.mono (ktimes_any w6 K c15 (0 + 1) H7.out.1 ok_c15) ?_; rintro e w7 ⟨rfl, rfl⟩)
    | (go_at_call 14; refine Calls.mono (kget_any z5 K c15 (0 + 1) H6.out.1 ok_c15) ?_; rintro e w6 ⟨rfl, hb⟩; have H7 : Box (Keeps w6 K c15 (0 + 1) ∧ Below K w w6) := ⟨H6.out.1.below hb, below_to' H6.out.2.1 hb H6.out.1.lt⟩; have c6 : w6.cell? ⟨G, 35, none⟩ = some (.int .u64 9) := (H6.out.2.2.below hb).num ok_c9 3 (by omega); clear hb))
  go_ret
  exact ⟨rfl, HK.out ▸ H7.out.2⟩
end Go.Proofs.Ytejpbbgnammgkaa
