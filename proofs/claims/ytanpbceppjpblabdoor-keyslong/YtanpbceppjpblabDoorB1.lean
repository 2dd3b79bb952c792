/-
  What the reference's Rounds answers: the words of the rounds.
-/
import Derived.Test.YtanpbceppjpblabDoorM1
namespace Go.Proofs.YtanpbceppjpblabDoor
set_option linter.unusedVariables false
open Go.RowKit Plain

set_option maxRecDepth 20000 in
set_option maxHeartbeats 400000 in
theorem rounds_any (w : World) :
    Calls Tryd.prog 23 #[] w fun e w' => e = .returned (.agg (u32s kk)) ∧ Below w.heap.size w w' := by
  have HR : Hid ((w.alloc (.cells (fil [] 64) 55)).heap[w.heap.size]? = some (.cells (fil [] 64) 55 (0, 0)) ∧ Below w.heap.size w (w.alloc (.cells (fil [] 64) 55))) := ⟨al_at rfl, (Below.refl _ _).alloc (Nat.le_refl _) _⟩
  have HZ : Hid (fil [] 64 = #[.int .u32 0, .int .u32 0, .int .u32 0, .int .u32 0, .int .u32 0, .int .u32 0, .int .u32 0, .int .u32 0, .int .u32 0, .int .u32 0, .int .u32 0, .int .u32 0, .int .u32 0, .int .u32 0, .int .u32 0, .int .u32 0, .int .u32 0, .int .u32 0, .int .u32 0, .int .u32 0, .int .u32 0, .int .u32 0, .int .u32 0, .int .u32 0, .int .u32 0, .int .u32 0, .int .u32 0, .int .u32 0, .int .u32 0, .int .u32 0, .int .u32 0, .int .u32 0, .int .u32 0, .int .u32 0, .int .u32 0, .int .u32 0, .int .u32 0, .int .u32 0, .int .u32 0, .int .u32 0, .int .u32 0, .int .u32 0, .int .u32 0, .int .u32 0, .int .u32 0, .int .u32 0, .int .u32 0, .int .u32 0, .int .u32 0, .int .u32 0, .int .u32 0, .int .u32 0, .int .u32 0, .int .u32 0, .int .u32 0, .int .u32 0, .int .u32 0, .int .u32 0, .int .u32 0, .int .u32 0, .int .u32 0, .int .u32 0, .int .u32 0, .int .u32 0]) := rfl
  rw [HZ.out] at HR
  go_enter Tryd.func23, Tryd.ntmps23
  go_wp2_with (refine wpList_store_row rfl 55 (.tmp 0) (.tmp 1) rfl w.heap.size (u32s kk) rfl rfl 55 _ HR.out.1 (by kernel_rfl) (by rfl) (all_u32s kk) ?_)
  (try simp only [Exit.inBlock, Exit.then])
  refine bodyPost_ret (results_cell_row (p := 0) (ty := 55) rfl _ _ w.heap.size 55 (u32s kk) (0, 0) _ rfl (setRow_heap _ _ _ _ _ _ HR.out.1) Tryd.underlying55 rfl (by kernel_rfl)) rfl ?_
  exact ⟨rfl, below_setRow HR.out.2 (Nat.le_refl _) _⟩
end Go.Proofs.YtanpbceppjpblabDoor
