/-
  Two digests are held against each other: what Go's == says of them; digests laid into blocks and read out of them. And what follows it.
-/
import Derived.Laws.StructEq
import Derived.ChangeKeysEq
import Derived.BigFrame
import Derived.Test.YtjdcccdkddnkgaaGreatDoorQ05
import Derived.Test.YtjdcccdkddnkgaaGreatDoorQ03
namespace Go.Proofs.YtjdcccdkddnkgaaGreatDoor.Dig
set_option maxRecDepth 100000
set_option linter.unusedVariables false
set_option maxRecDepth 100000
open Go.RowKit Go.Proofs.YtjdcccdkddnkgaaGreatDoor.Dig.Plain
theorem part5 (X : List Int) (i : Nat) (h : i < X.length) (w : World) : (part 5 (u8s X) (i * Tryz.prog.cellsOf 5)).run Tryz.prog w = .ok (.int .u8 (X.getD i 0)) w := by
  have hc : Tryz.prog.cellsOf 5 = 1 := by kernel_rfl
  have hagg : (isAgg 5).run Tryz.prog w = .ok false w := by kernel_rfl
  have hv : (u8s X)[i]? = some (.int .u8 (X.getD i 0)) := by simp [u8s, h]
  rw [hc, Nat.mul_one]
  simp [part, Sem.run_bind, hagg, hv]
theorem eq_items (X Y : List Int) (w : World) (hX : X.length = 32) (hY : Y.length = 32) : ∀ is : List Nat, (∀ i ∈ is, i < 32) → (Op.eqItems 9999 5 (Tryz.prog.cellsOf 5) (u8s X) (u8s Y) is).run Tryz.prog w = .ok (is.all fun i => X.getD i 0 == Y.getD i 0) w
  | [], _ => by simp [Op.eqItems]
  | i :: is, h => by
    have ih := eq_items X Y w hX hY is (fun j hj => h j (List.mem_cons_of_mem _ hj))
    have hi := h i List.mem_cons_self
    have e := run_equalIn_int (P := Tryz.prog) w 9998 5 .u8 .u8 (X.getD i 0) (Y.getD i 0) Tryz.underlying5
    simp only [Op.eqItems, Sem.run_bind, part5 X i (by omega), part5 Y i (by omega), Result.andThen_ok, e, List.all_cons]
    cases hq : (X.getD i 0 == Y.getD i 0)
    · simp
    · simpa using ih
theorem all_eq (X Y : List Int) (hX : X.length = 32) (hY : Y.length = 32) : ((List.range 32).all fun i => X.getD i 0 == Y.getD i 0) = decide (X = Y) := by
  rw [Bool.eq_iff_iff, List.all_eq_true, decide_eq_true_iff]
  constructor
  · intro h
    apply List.ext_getElem (by omega)
    intro i h1 h2
    have := h i (by simp; omega)
    simpa [List.getD, h1, h2] using this
  · rintro rfl i _
    simp
/-- In these blocks stand these digests. -/
def Stand (x : World) (l : List (Nat × List Int)) : Prop := ∀ p ∈ l, p.2.length = 32 ∧ x.heap[p.1]? = some (.cells (u8s p.2) 23 (0, 0))
theorem Stand.nil (x : World) : Stand x [] := fun p hp => by cases hp
theorem Stand.below {x y : World} {l : List (Nat × List Int)} (h : Stand x l) (hb : Below x.heap.size x y) : Stand y l := fun p hp =>
  ⟨(h p hp).1, (hb.block _ (Array.getElem?_eq_some_iff.1 (h p hp).2).1).trans (h p hp).2⟩
/-- What is known of a world on the way: what stands where, and that nothing that was there has turned. -/
def Way (w x : World) (l : List (Nat × List Int)) : Prop := Stand x l ∧ Below w.heap.size w x
theorem Way.on {w x y : World} {l : List (Nat × List Int)} (h : Way w x l) (hb : Below x.heap.size x y) : Way w y l := ⟨h.1.below hb, h.2.trans (hb.mono h.2.size)⟩
theorem below_to {w w1 w2 : World} (h : Below w.heap.size w w1) (k : Below w1.heap.size w1 w2) : Below w.heap.size w w2 := h.trans (k.mono h.size)
end Go.Proofs.YtjdcccdkddnkgaaGreatDoor.Dig
namespace Go.Proofs.YtjdcccdkddnkgaaGreatDoor.Dig
set_option maxRecDepth 100000
set_option linter.unusedVariables false
open Go.RowKit Go.Proofs.YtjdcccdkddnkgaaGreatDoor.Dig.Plain
set_option maxRecDepth 20000 in
set_option maxHeartbeats 400000 in
theorem rounds_any (w : World) :
    Calls Tryz.prog 108 #[] w fun e w' => e = .returned (.agg (u32s kk)) ∧ Below w.heap.size w w' := by
  have HR : Hid ((w.alloc (.cells (fil [] 64) 203)).heap[w.heap.size]? = some (.cells (fil [] 64) 203 (0, 0)) ∧ Below w.heap.size w (w.alloc (.cells (fil [] 64) 203))) := ⟨al_at rfl, (Below.refl _ _).alloc (Nat.le_refl _) _⟩
  have HZ : Hid (fil [] 64 = #[.int .u32 0, .int .u32 0, .int .u32 0, .int .u32 0, .int .u32 0, .int .u32 0, .int .u32 0, .int .u32 0, .int .u32 0, .int .u32 0, .int .u32 0, .int .u32 0, .int .u32 0, .int .u32 0, .int .u32 0, .int .u32 0, .int .u32 0, .int .u32 0, .int .u32 0, .int .u32 0, .int .u32 0, .int .u32 0, .int .u32 0, .int .u32 0, .int .u32 0, .int .u32 0, .int .u32 0, .int .u32 0, .int .u32 0, .int .u32 0, .int .u32 0, .int .u32 0, .int .u32 0, .int .u32 0, .int .u32 0, .int .u32 0, .int .u32 0, .int .u32 0, .int .u32 0, .int .u32 0, .int .u32 0, .int .u32 0, .int .u32 0, .int .u32 0, .int .u32 0, .int .u32 0, .int .u32 0, .int .u32 0, .int .u32 0, .int .u32 0, .int .u32 0, .int .u32 0, .int .u32 0, .int .u32 0, .int .u32 0, .int .u32 0, .int .u32 0, .int .u32 0, .int .u32 0, .int .u32 0, .int .u32 0, .int .u32 0, .int .u32 0, .int .u32 0]) := rfl
  rw [HZ.out] at HR
  go_enter Tryz.func108, Tryz.ntmps108
  go_wp2_with (refine wpList_store_row rfl 203 (.tmp 0) (.tmp 1) rfl w.heap.size (u32s kk) rfl rfl 203 _ HR.out.1 (by kernel_rfl) (by rfl) (all_u32s kk) ?_)
  (try simp only [Exit.inBlock, Exit.then])
  refine bodyPost_ret (results_cell_row (p := 0) (ty := 203) rfl _ _ w.heap.size 203 (u32s kk) (0, 0) _ rfl (setRow_heap _ _ _ _ _ _ HR.out.1) Tryz.underlying203 rfl (by kernel_rfl)) rfl ?_
  exact ⟨rfl, below_setRow HR.out.2 (Nat.le_refl _) _⟩
end Go.Proofs.YtjdcccdkddnkgaaGreatDoor.Dig
