/-
  The walk of CellApart: cells that are the same have the same bytes, and no others do.
-/
import Derived.Test.YtejpbbgnammgkaaXC
namespace Go.Proofs.Ytejpbbgnammgkaa
set_option linter.unusedVariables false
open Go.RowKit Plain

set_option maxRecDepth 20000 in
set_option maxHeartbeats 1000000 in
theorem cellApart_walk (A B : Cl) (w : World) (hA : Ok A) (hB : Ok B) : Calls Try.prog 5 #[.agg (av A), .agg (av B)] w fun e w' => e = .returned (.bool true) ∧ Below w.heap.size w w' := by
  obtain ⟨S, hS⟩ : ∃ S, w.heap.size = S := ⟨_, rfl⟩
  have HS : Box (w.heap.size = S) := ⟨hS⟩
  have HO : Box (Ok A ∧ Ok B) := ⟨hA, hB⟩
  have H1 : Box (Lies ((w.alloc (.cells (av A) 26)).alloc (.cells (av B) 26)) S A ∧ Lies ((w.alloc (.cells (av A) 26)).alloc (.cells (av B) 26)) (S + 1) B ∧ Below w.heap.size w ((w.alloc (.cells (av A) 26)).alloc (.cells (av B) 26))) := ⟨al_old (al_at hS), al_at (by simp [hS]), ((Below.refl _ _).alloc (Nat.le_refl _) _).alloc (by simp) _⟩
  clear hS hA hB
  go_enter Try.func5, Try.ntmps5
  go_upto_region 1 with fail
  simp only [HS.out]
  generalize (w.alloc (.cells (av A) 26)).alloc (.cells (av B) 26) = w1 at H1 ⊢
  go_upto_region 4 with (go_at_call 7; refine Calls.mono (awake_any w1) ?_; rintro e w2 ⟨rfl, hb⟩; have HL : Box (∀ x, Below w2.heap.size w2 x → Lies x S A ∧ Lies x (S + 1) B) := ⟨fun x hx => ⟨(H1.out.1.below hb).below hx, (H1.out.2.1.below hb).below hx⟩⟩; have H2 : Box (Below w.heap.size w w2) := ⟨below_to H1.out.2.2 hb⟩; clear hb)
  refine Seq.begin_any (by kernel_rfl) (fun wd hd => ?_)
  have HX0 : Box (Below w2.heap.size w2 wd) := ⟨hd⟩
  clear hd
  refine Seq.take_lat (i := 0) (v := .agg (av A)) rfl (by kernel_rfl) (by kernel_rfl) (by kernel_rfl) (fun _ _ _ h => h) (by rfl) (fun w' hLat => exec_cell (.tmp 2) rfl S rfl A HO.out.1 ((HL.out w' (below_to HX0.out hLat)).1)) ?_
  try simp only [Act.put, List.setIfInBounds_toArray, List.set_cons_zero, List.set_cons_succ, List.getElem_toArray, List.getElem_cons_zero]
  refine Seq.take_lat (i := 3) (v := .agg (av B)) rfl (by kernel_rfl) (by kernel_rfl) (by kernel_rfl) (fun _ _ _ h => h) (by rfl) (fun w' hLat => exec_cell (.tmp 3) rfl (S + 1) rfl B HO.out.2 ((HL.out w' (below_to HX0.out hLat)).2)) ?_
  try simp only [Act.put, List.setIfInBounds_toArray, List.set_cons_zero, List.set_cons_succ, List.getElem_toArray, List.getElem_cons_zero, List.getElem_cons_succ]
  refine Seq.take_lat (i := 7) (v := .agg (av A)) rfl (by kernel_rfl) (by kernel_rfl) (by kernel_rfl) (fun _ _ _ h => h) (by rfl) (fun w' hLat => exec_cell (.tmp 2) rfl S rfl A HO.out.1 ((HL.out w' (below_to HX0.out hLat)).1)) ?_
  try simp only [Act.put, List.setIfInBounds_toArray, List.set_cons_zero, List.set_cons_succ, List.getElem_toArray, List.getElem_cons_zero, List.getElem_cons_succ]
  refine Seq.take_lat (i := 8) (v := .agg (av B)) rfl (by kernel_rfl) (by kernel_rfl) (by kernel_rfl) (fun _ _ _ h => h) (by rfl) (fun w' hLat => exec_cell (.tmp 3) rfl (S + 1) rfl B HO.out.2 ((HL.out w' (below_to HX0.out hLat)).2)) ?_
  try simp only [Act.put, List.setIfInBounds_toArray, List.set_cons_zero, List.set_cons_succ, List.getElem_toArray, List.getElem_cons_zero, List.getElem_cons_succ]
  refine Seq.take_lat (i := 9) (v := .bool (eqb A B)) rfl (by kernel_rfl) (by kernel_rfl) (by kernel_rfl) (fun _ _ _ h => h) (by rfl) (fun w' hLat => exec_eqC (.tmp 16) (.tmp 17) _ rfl A B HO.out.1 HO.out.2 rfl rfl) ?_
  try simp only [Act.put, List.setIfInBounds_toArray, List.set_cons_zero, List.set_cons_succ, List.getElem_toArray, List.getElem_cons_zero, List.getElem_cons_succ]
  refine Seq.only_lat (i := 1) rfl (by kernel_rfl) (fun KK hK => ?_)
  rw [if_pos (by rfl)]
  go_simp
  refine Calls.mono (cput_any A wd (HO.out.1)) ?_
  rintro e x1 ⟨a1, c1, rfl, hB, -, -, hb⟩
  have HX1 : Box (Below w2.heap.size w2 x1 ∧ Bytes x1 a1 96 (cb A)) := ⟨below_to HX0.out hb, hB⟩
  refine hK.out _ _ hb ?_
  clear hb hB
  clear hK KK
  try simp only [Act.put, List.setIfInBounds_toArray, List.set_cons_zero, List.set_cons_succ, List.getElem_toArray, List.getElem_cons_zero, List.getElem_cons_succ]
  refine Seq.take_lat (i := 2) (v := .string (strOfNums (cb A))) rfl (by kernel_rfl) (by kernel_rfl) (by kernel_rfl) (fun _ _ _ h => h) (by rfl) (fun w' hLat => exec_conv (.tmp 10) rfl rfl (HX1.out.2.below hLat)) ?_
  try simp only [Act.put, List.setIfInBounds_toArray, List.set_cons_zero, List.set_cons_succ, List.getElem_toArray, List.getElem_cons_zero, List.getElem_cons_succ]
  refine Seq.only_lat (i := 4) rfl (by kernel_rfl) (fun KK hK => ?_)
  rw [if_pos (by rfl)]
  go_simp
  refine Calls.mono (cput_any B x1 (HO.out.2)) ?_
  rintro e x4 ⟨a4, c4, rfl, hB, -, -, hb⟩
  have HX4 : Box (Below w2.heap.size w2 x4 ∧ Bytes x4 a4 96 (cb B)) := ⟨below_to HX1.out.1 hb, hB⟩
  refine hK.out _ _ hb ?_
  clear hb hB
  clear hK KK
  try simp only [Act.put, List.setIfInBounds_toArray, List.set_cons_zero, List.set_cons_succ, List.getElem_toArray, List.getElem_cons_zero, List.getElem_cons_succ]
  refine Seq.take_lat (i := 5) (v := .string (strOfNums (cb B))) rfl (by kernel_rfl) (by kernel_rfl) (by kernel_rfl) (fun _ _ _ h => h) (by rfl) (fun w' hLat => exec_conv (.tmp 13) rfl rfl (HX4.out.2.below hLat)) ?_
  try simp only [Act.put, List.setIfInBounds_toArray, List.set_cons_zero, List.set_cons_succ, List.getElem_toArray, List.getElem_cons_zero, List.getElem_cons_succ]
  refine Seq.take_lat (i := 6) (v := .bool (eqb A B)) rfl (by kernel_rfl) (by kernel_rfl) (by kernel_rfl) (fun _ _ _ h => h) (by rfl) (fun w' hLat => exec_strC (.tmp 11) (.tmp 14) _ rfl A B HO.out.1 HO.out.2 rfl rfl) ?_
  try simp only [Act.put, List.setIfInBounds_toArray, List.set_cons_zero, List.set_cons_succ, List.getElem_toArray, List.getElem_cons_zero, List.getElem_cons_succ]
  refine Seq.take_lat (i := 10) (v := .bool true) rfl (by kernel_rfl) (by kernel_rfl) (by kernel_rfl) (fun _ _ _ h => h) (by rfl) (fun w' hLat => exec_bb (.tmp 15) (.tmp 18) _ rfl (eqb A B) rfl rfl) ?_
  try simp only [Act.put, List.setIfInBounds_toArray, List.set_cons_zero, List.set_cons_succ, List.getElem_toArray, List.getElem_cons_zero, List.getElem_cons_succ]
  refine Seq.take_lat (i := 11) (v := ?_) rfl (by kernel_rfl) (by kernel_rfl) (by kernel_rfl) (fun _ _ _ h => h) (by rfl) ?_ ?_
  rotate_left
  · intro w' hLat; change Below _ _ _ at hLat; go_simp <;> with_reducible rfl
  try simp only [Act.put, List.setIfInBounds_toArray, List.set_cons_zero, List.set_cons_succ, List.getElem_toArray, List.getElem_cons_zero, List.getElem_cons_succ]
  refine Seq.take_lat (i := 12) (v := .agg (av A)) rfl (by kernel_rfl) (by kernel_rfl) (by kernel_rfl) (fun _ _ _ h => h) (by rfl) (fun w' hLat => exec_cell (.tmp 2) rfl S rfl A HO.out.1 ((HL.out w' (below_to HX4.out.1 hLat)).1)) ?_
  try simp only [Act.put, List.setIfInBounds_toArray, List.set_cons_zero, List.set_cons_succ, List.getElem_toArray, List.getElem_cons_zero, List.getElem_cons_succ]
  refine Seq.only_lat (i := 13) rfl (by kernel_rfl) (fun KK hK => ?_)
  rw [if_pos (by rfl)]
  go_simp
  refine Calls.mono (cput_any A x4 (HO.out.1)) ?_
  rintro e x13 ⟨a13, c13, rfl, hB, -, -, hb⟩
  have HX13 : Box (Below w2.heap.size w2 x13 ∧ Bytes x13 a13 96 (cb A)) := ⟨below_to HX4.out.1 hb, hB⟩
  refine hK.out _ _ hb ?_
  clear hb hB
  clear hK KK
  try simp only [Act.put, List.setIfInBounds_toArray, List.set_cons_zero, List.set_cons_succ, List.getElem_toArray, List.getElem_cons_zero, List.getElem_cons_succ]
  refine Seq.take_lat (i := 14) (v := ?_) rfl (by kernel_rfl) (by kernel_rfl) (by kernel_rfl) (fun _ _ _ h => h) (by rfl) ?_ ?_
  rotate_left
  · intro w' hLat; change Below _ _ _ at hLat; go_simp <;> with_reducible rfl
  try simp only [Act.put, List.setIfInBounds_toArray, List.set_cons_zero, List.set_cons_succ, List.getElem_toArray, List.getElem_cons_zero, List.getElem_cons_succ]
  refine Seq.take_lat (i := 15) (v := ?_) rfl (by kernel_rfl) (by kernel_rfl) (by kernel_rfl) (fun _ _ _ h => h) (by rfl) ?_ ?_
  rotate_left
  · intro w' hLat; change Below _ _ _ at hLat; go_simp <;> with_reducible rfl
  try simp only [Act.put, List.setIfInBounds_toArray, List.set_cons_zero, List.set_cons_succ, List.getElem_toArray, List.getElem_cons_zero, List.getElem_cons_succ]
  refine Seq.take_lat (i := 16) (v := ?_) rfl (by kernel_rfl) (by kernel_rfl) (by kernel_rfl) (fun _ _ _ h => h) (by rfl) ?_ ?_
  rotate_left
  · intro w' hLat; change Below _ _ _ at hLat; go_simp <;> with_reducible rfl
  try simp only [Act.put, List.setIfInBounds_toArray, List.set_cons_zero, List.set_cons_succ, List.getElem_toArray, List.getElem_cons_zero, List.getElem_cons_succ]
  refine Seq.take_lat (i := 17) (v := ?_) rfl (by kernel_rfl) (by kernel_rfl) (by kernel_rfl) (fun _ _ _ h => h) (by rfl) ?_ ?_
  rotate_left
  · intro w' hLat; change Below _ _ _ at hLat; go_simp <;> with_reducible rfl
  try simp only [Act.put, List.setIfInBounds_toArray, List.set_cons_zero, List.set_cons_succ, List.getElem_toArray, List.getElem_cons_zero, List.getElem_cons_succ]
  refine wpAnyH_done (by kernel_rfl) ?_ _
  go_wp2
  go_ret
  exact ⟨rfl, below_to H2.out HX13.out.1⟩
end Go.Proofs.Ytejpbbgnammgkaa
