/-
  What New of package cell, and a keeper's Put, Get and Times do, for every keeper and cell.
-/
import Derived.Test.YtejpbbgnammgkaaX2
import Derived.BigQuiet
namespace Go.Proofs.Ytejpbbgnammgkaa
set_option linter.unusedVariables false
open Go.RowKit Plain

set_option maxRecDepth 20000 in
set_option maxHeartbeats 1000000 in
theorem new_any (w : World) : Calls Try.prog 12 #[] w fun e w' => e = .returned (.pointer (some ⟨w.heap.size, 0, none⟩)) ∧ Keeps w' w.heap.size zc 0 ∧ Below w.heap.size w w' := by
  go_enter Try.func12, Try.ntmps12
  go_wp2_with (refine wpList_run rfl _ _ (exec_built 50 [] rfl [] rfl _ built_K) ?_)
  go_ret
  exact ⟨rfl, al_at rfl, (Below.refl _ w).alloc (Nat.le_refl _) _⟩

set_option maxRecDepth 20000 in
set_option maxHeartbeats 1000000 in
theorem kput_none (C : Cl) (w : World) : Calls Try.prog 13 #[.pointer none, .agg (av C)] w fun e w' => e = .returned (.int .i64 1) ∧ Below w.heap.size w w' := by
  go_enter Try.func13, Try.ntmps13
  go_wp2
  go_ret
  exact ⟨rfl, (Below.refl _ w).alloc (Nat.le_refl _) _⟩

set_option maxRecDepth 20000 in
set_option maxHeartbeats 1000000 in
theorem kget_none (w : World) : Calls Try.prog 14 #[.pointer none] w fun e w' => e = .returned (.agg (av zc)) ∧ Below w.heap.size w w' := by
  obtain ⟨Z, HZ⟩ : ∃ Z, Box (av zc = Z ∧ Z.size = 68 ∧ Z.all (·.oneCell') = true) := ⟨_, rfl, size_av ok_zc, all_av _⟩
  have hz := zeroC
  have hb := built_C
  rw [HZ.out.1] at hz hb
  rw [HZ.out.1]
  go_enter Try.func14, Try.ntmps14
  go_wp2_with (first
    | (refine wpList_run rfl _ _ (exec_built 26 [] rfl [] rfl _ hb) ?_)
    | (refine wpList_run rfl _ _ (exec_alloc 26 rfl _ hz) ?_)
    | (refine wpList_store_row rfl 26 _ _ rfl w.heap.size Z rfl rfl 26 Z (al_at rfl) (by rw [HZ.out.2.1]; exact infoC) rfl HZ.out.2.2 ?_))
  (try simp only [Exit.inBlock, Exit.then])
  refine bodyPost_ret (results_cell_row (p := 2) (ty := 26) rfl _ _ w.heap.size 26 Z (0, 0) _ rfl (setRow_heap _ _ _ _ _ _ (al_at rfl)) Try.underlying26 rfl (by rw [HZ.out.2.1]; exact infoC)) rfl ?_
  exact ⟨rfl, below_setRow ((Below.refl _ w).alloc (Nat.le_refl _) _) (Nat.le_refl _) _⟩

set_option maxRecDepth 20000 in
set_option maxHeartbeats 1000000 in
theorem ktimes_none (w : World) : Calls Try.prog 15 #[.pointer none] w fun e w' => e = .returned (.int .i64 0) ∧ w = w' := by
  go_enter Try.func15, Try.ntmps15
  go_wp2
  go_ret
  exact ⟨rfl, rfl⟩

set_option maxRecDepth 20000 in
set_option maxHeartbeats 1000000 in
theorem ktimes_any (w : World) (K : Nat) (C : Cl) (t : Int) (h : Keeps w K C t) (hC : Ok C) : Calls Try.prog 15 #[.pointer (some ⟨K, 0, none⟩)] w fun e w' => e = .returned (.int .i64 t) ∧ w = w' := by
  have hc : w.cell? ⟨K, 68, none⟩ = some (.int .i64 t) := h.count hC
  clear h
  go_enter Try.func15, Try.ntmps15
  go_wp2
  go_ret
  exact ⟨rfl, rfl⟩

set_option maxRecDepth 20000 in
set_option maxHeartbeats 1000000 in
theorem kget_any (w : World) (K : Nat) (C : Cl) (t : Int) (h : Keeps w K C t) (hC : Ok C) : Calls Try.prog 14 #[.pointer (some ⟨K, 0, none⟩)] w fun e w' => e = .returned (.agg (av C)) ∧ Below w.heap.size w w' := by
  obtain ⟨Z, HZ⟩ : ∃ Z, Box (av zc = Z ∧ Z.size = 68) := ⟨_, rfl, size_av ok_zc⟩
  have hz := zeroC
  rw [HZ.out.1] at hz
  have HR : Box (∀ x, Keeps x K C t → x.rangeAt K 0 (vs C)) := ⟨fun x hx j v hv => by
    have hj : j < 68 := by have := (List.getElem?_eq_some_iff.1 hv).1; rw [len_vs hC] at this; exact this
    rw [Nat.zero_add, hx.cell hC j hj, av, List.getElem?_toArray, hv]⟩
  have HB : Box (Keeps w K C t ∧ (vs C).length = 68 ∧ (av C).size = 68) := ⟨h, len_vs hC, size_av hC⟩
  have HK : Box (Keeps (w.alloc (.cells Z 26)) K C t) := ⟨h.below ((Below.refl _ w).alloc (Nat.le_refl _) _)⟩
  clear h
  go_enter Try.func14, Try.ntmps14
  go_wp2_with (first
    | (refine wpList_run rfl _ _ (exec_alloc 26 rfl _ hz) ?_)
    | (refine wpList_load_mid rfl 26 _ rfl K 0 rfl (vs C) _ (HR.out _ HK.out) Try.underlying26 rfl (by rw [HB.out.2.1]; exact infoC) ?_)
    | (refine wpList_store_row rfl 26 _ _ rfl w.heap.size (av C) rfl rfl 26 Z (al_at rfl) (by rw [HB.out.2.2]; exact infoC) (by rw [HB.out.2.2]; exact HZ.out.2) (all_av C) ?_))
  (try simp only [Exit.inBlock, Exit.then])
  refine bodyPost_ret (results_cell_row (p := 2) (ty := 26) rfl _ _ w.heap.size 26 (av C) (0, 0) _ rfl (setRow_heap _ _ _ _ _ _ (al_at rfl)) Try.underlying26 rfl (by rw [HB.out.2.2]; exact infoC)) rfl ?_
  exact ⟨rfl, below_setRow ((Below.refl _ w).alloc (Nat.le_refl _) _) (Nat.le_refl _) _⟩
end Go.Proofs.Ytejpbbgnammgkaa
