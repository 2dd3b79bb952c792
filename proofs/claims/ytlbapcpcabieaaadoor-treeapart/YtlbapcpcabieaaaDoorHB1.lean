/-
  What the reference's Rounds answers: the words of the rounds.
-/
import Derived.Test.YtlbapcpcabieaaaDoorHM1
namespace Go.Proofs.YtlbapcpcabieaaaDoor.Dig
set_option linter.unusedVariables false
open Go.RowKit Go.Proofs.YtlbapcpcabieaaaDoor.Dig.Plain

set_option maxRecDepth 20000 in
set_option maxHeartbeats 400000 in
theorem rounds_any (w : World) :
    Calls Tryd.prog 35 #[] w fun e w' => e = .returned (.agg (u32s kk)) ∧ Below w.heap.size w w' := by
  have HR : Hid ((w.alloc (.cells (fil [] 64) 72)).heap[w.heap.size]? = some (.cells (fil [] 64) 72 (0, 0)) ∧ Below w.heap.size w (w.alloc (.cells (fil [] 64) 72))) := ⟨al_at rfl, (Below.refl _ _).alloc (Nat.le_refl _) _⟩
  have HZ : Hid (fil [] 64 = #[.int .u32 0, .int .u32 0, .int .u32 0, .int .u32 0, .int .u32 0, .int .u32 0, .int .u32 0, .int .u32 0, .int .u32 0, .int .u32 0, .int .u32 0, .int .u32 0, .int .u32 0, .int .u32 0, .int .u32 0, .int .u32 0, .int .u32 0, .int .u32 0, .int .u32 0, .int .u32 0, .int .u32 0, .int .u32 0, .int .u32 0, .int .u32 0, .int .u32 0, .int .u32 0, .int .u32 0, .int .u32 0, .int .u32 0, .int .u32 0, .int .u32 0, .int .u32 0, .int .u32 0, .int .u32 0, .int .u32 0, .int .u32 0, .int .u32 0, .int .u32 0, .int .u32 0, .int .u32 0, .int .u32 0, .int .u32 0, .int .u32 0, .int .u32 0, .int .u32 0, .int .u32 0, .int .u32 0, .int .u32 0, .int .u32 0, .int .u32 0, .int .u32 0, .int .u32 0, .int .u32 0, .int .u32 0, .int .u32 0, .int .u32 0, .int .u32 0, .int .u32 0, .int .u32 0, .int .u32 0, .int .u32 0, .int .u32 0, .int .u32 0, .int .u32 0]) := rfl
  rw [HZ.out] at HR
  go_enter Tryd.func35, Tryd.ntmps35
  go_wp2_with (refine wpList_store_row rfl 72 (.tmp 0) (.tmp 1) rfl w.heap.size (u32s kk) rfl rfl 72 _ HR.out.1 (by kernel_rfl) (by rfl) (all_u32s kk) ?_)
  (try simp only [Exit.inBlock, Exit.then])
  refine bodyPost_ret (results_cell_row (p := 0) (ty := 72) rfl _ _ w.heap.size 72 (u32s kk) (0, 0) _ rfl (setRow_heap _ _ _ _ _ _ HR.out.1) Tryd.underlying72 rfl (by kernel_rfl)) rfl ?_
  exact ⟨rfl, below_setRow HR.out.2 (Nat.le_refl _) _⟩
end Go.Proofs.YtlbapcpcabieaaaDoor.Dig
