/-
  What a keeper's Put does with any cell: refused unless its counter is above the kept one's.
-/
import Derived.Test.YtejpbbgnammgkaaX3
import Derived.Deep.Cut
namespace Go.Proofs.Ytejpbbgnammgkaa
set_option linter.unusedVariables false
open Go.RowKit Plain

set_option maxRecDepth 20000 in
set_option maxHeartbeats 1000000 in
theorem kput_back (w : World) (K : Nat) (C D : Cl) (t : Int) (h : Keeps w K C t) (hC : Ok C) (hD : Ok D) (hle : D.c ≤ C.c) : Calls Try.prog 13 #[.pointer (some ⟨K, 0, none⟩), .agg (av D)] w fun e w' => e = .returned (.int .i64 16) ∧ Below w.heap.size w w' := by
  have HL : Box (Below w.heap.size w (w.alloc (.cells (av D) 26))) := ⟨(Below.refl _ w).alloc (Nat.le_refl _) _⟩
  have k1 : (w.alloc (.cells (av D) 26)).cell? ⟨w.heap.size, 33, none⟩ = some (.int .u64 D.c) := by
    rw [(lies_new w D).cell]; exact av_n hD 1 (by omega)
  have k2 : (w.alloc (.cells (av D) 26)).cell? ⟨K, 33, none⟩ = some (.int .u64 C.c) := (h.below HL.out).ctr hC
  have hd : decide (D.c ≤ C.c) = true := by simpa using hle
  obtain ⟨S, hS⟩ : ∃ S, w.heap.size = S := ⟨_, rfl⟩
  rw [hS] at k1
  have HS : Box (w.heap.size = S) := ⟨hS⟩
  clear h hle hS
  go_enter Try.func13, Try.ntmps13
  go_upto_region 3 with fail
  rw [HS.out]
  generalize w.alloc (.cells (av D) 26) = w1 at HL k1 k2 ⊢
  go_quiet (fail)
  go_wp2
  go_ret
  exact ⟨rfl, below_drewN HL.out _⟩

theorem range_vs {w : World} {g : Nat} {C : Cl} (h : Lies w g C) : w.rangeAt g 0 (vs C) := fun j v hv => by
  rw [Nat.zero_add, h.cell, av, List.getElem?_toArray, hv]
theorem but_keep {K : Nat} {w0 w : World} {C D : Cl} {t : Int} (h : Keeps w K C t) (hC : Ok C) (hD : Ok D) (hb : But K w0 w) : Keeps (w.setCells K 0 (av D).toList) K D t ∧ But K w0 (w.setCells K 0 (av D).toList) := ⟨h.put hC hD, But.setCells _ _ hb⟩
set_option maxRecDepth 20000 in
set_option maxHeartbeats 1000000 in
theorem kput_ok (w : World) (K : Nat) (C D : Cl) (t : Int) (h : Keeps w K C t) (hC : Ok C) (hD : Ok D) (hlt : C.c < D.c) (ht : 0 ≤ t ∧ t ≤ 1000000) : Calls Try.prog 13 #[.pointer (some ⟨K, 0, none⟩), .agg (av D)] w fun e w' => e = .returned (.int .i64 0) ∧ Keeps w' K D (t + 1) ∧ But K w w' := by
  have HL : Box (Below w.heap.size w (w.alloc (.cells (av D) 26))) := ⟨(Below.refl _ w).alloc (Nat.le_refl _) _⟩
  have k1 : (w.alloc (.cells (av D) 26)).cell? ⟨w.heap.size, 33, none⟩ = some (.int .u64 D.c) := by
    rw [(lies_new w D).cell]; exact av_n hD 1 (by omega)
  have k2 : (w.alloc (.cells (av D) 26)).cell? ⟨K, 33, none⟩ = some (.int .u64 C.c) := (h.below HL.out).ctr hC
  have H1 : Box (Keeps (w.alloc (.cells (av D) 26)) K C t ∧ Lies (w.alloc (.cells (av D) 26)) w.heap.size D ∧ But K w (w.alloc (.cells (av D) 26))) := ⟨h.below HL.out, lies_new w D, But.of_below HL.out⟩
  have hd : decide (D.c ≤ C.c) = false := by simp; omega
  have HN : Box ((vs D).length = 68 ∧ (av D).size = 68 ∧ (av C ++ #[Value.int .i64 t]).size = 69) := ⟨len_vs hD, size_av hD, by simp [size_av hC]⟩
  have HO : Box (Ok C ∧ Ok D) := ⟨hC, hD⟩
  obtain ⟨S, hS⟩ : ∃ S, w.heap.size = S := ⟨_, rfl⟩
  rw [hS] at k1 H1
  have HS : Box (w.heap.size = S) := ⟨hS⟩
  clear h hlt hS HL hC hD
  go_enter Try.func13, Try.ntmps13
  go_upto_region 3 with fail
  rw [HS.out]
  generalize w.alloc (.cells (av D) 26) = w1 at H1 k1 k2 ⊢
  go_quiet (fail)
  have H2 : Box (Keeps (w1.drewN nq) K C t ∧ Lies (w1.drewN nq) S D ∧ But K w (w1.drewN nq)) := ⟨H1.out.1, H1.out.2.1, ⟨H1.out.2.2.os, H1.out.2.2.tape, H1.out.2.2.output, H1.out.2.2.size, H1.out.2.2.block⟩⟩
  generalize w1.drewN nq = w2 at H2 ⊢
  clear k1 k2 H1
  go_upto_region 6 with (first
    | (refine wpList_load_mid rfl 26 _ rfl S 0 rfl (vs D) _ (range_vs H2.out.2.1) Try.underlying26 rfl (by rw [HN.out.1]; exact infoC) ?_)
    | (refine wpList_store_mid rfl 26 _ _ rfl K 0 (av D) rfl rfl (there_row H2.out.1 (by rw [HN.out.2.1, HN.out.2.2]; omega)) (by rw [HN.out.2.1]; exact infoC) (all_av D) ?_))
  have H3 : Box (Keeps (w2.setCells K 0 (av D).toList) K D t ∧ But K w (w2.setCells K 0 (av D).toList)) := ⟨but_keep H2.out.1 HO.out.1 HO.out.2 H2.out.2.2⟩
  generalize w2.setCells K 0 (av D).toList = w3 at H3 ⊢
  have c6 : w3.cell? ⟨K, 68, none⟩ = some (.int .i64 t) := H3.out.1.count HO.out.2
  have f6 : w3.frozen? ⟨K, 68, none⟩ = false := frozen_of_row _ _ _ _ _ H3.out.1
  have H4 : Box (Keeps (w3.setCell ⟨K, 68, none⟩ (.int .i64 (t + 1))) K D (t + 1) ∧ But K w (w3.setCell ⟨K, 68, none⟩ (.int .i64 (t + 1)))) := ⟨H3.out.1.times HO.out.2, H3.out.2.setCell _ _⟩
  clear H3 H2 HN HO
  go_wp2
  go_ret
  exact ⟨rfl, H4.out⟩
end Go.Proofs.Ytejpbbgnammgkaa
