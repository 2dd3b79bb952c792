/-
  The walk of InodeFields: each field of an inode stands at its place, and at no other.
-/
import Derived.Test.YtpdggopkalbbeaaNM
namespace Go.Proofs.Ytpdggopkalbbeaa
set_option linter.unusedVariables false
open Go.RowKit Plain

set_option maxRecDepth 40000 in
set_option maxHeartbeats 8000000 in
theorem inodeFields_walk (A B : Nd) (w : World) (hA : OkN A) (hB : OkN B) : Calls Try.prog 6 #[.agg (nc A), .agg (nc B)] w fun e w' => e = .returned (.bool true) ∧ Below w.heap.size w w' := by
  obtain ⟨S, hS⟩ : ∃ S, w.heap.size = S := ⟨_, rfl⟩
  have HS : Box (w.heap.size = S) := ⟨hS⟩
  have HO : Box (OkN A ∧ OkN B) := ⟨hA, hB⟩
  have H1 : Box (Lies ((w.alloc (.cells (nc A) 26)).alloc (.cells (nc B) 26)) S A ∧ Lies ((w.alloc (.cells (nc A) 26)).alloc (.cells (nc B) 26)) (S + 1) B ∧ Below w.heap.size w ((w.alloc (.cells (nc A) 26)).alloc (.cells (nc B) 26))) := ⟨al_old (al_at hS), al_at (by simp [hS]), ((Below.refl _ _).alloc (Nat.le_refl _) _).alloc (by simp) _⟩
  clear hS hA hB
  go_enter Try.func6, Try.ntmps6
  go_upto_region 1 with fail
  simp only [HS.out]
  change Code.wp _ _ _ _ ((w.alloc (.cells (nc A) 26)).alloc (.cells (nc B) 26))
  generalize (w.alloc (.cells (nc A) 26)).alloc (.cells (nc B) 26) = w1 at H1 ⊢
  go_upto_region 4 with (go_at_call 8; refine Calls.mono (awake_any w1) ?_; rintro e w2 ⟨rfl, hb⟩; have H2 : Box (Lies w2 S A ∧ Lies w2 (S + 1) B ∧ Below w.heap.size w w2) := ⟨H1.out.1.below hb, H1.out.2.1.below hb, below_to H1.out.2.2 hb⟩; clear hb H1)
  go_upto_region 5 with (first
    | (refine wpList_run rfl _ _ (exec_ldN _ rfl S A rfl H2.out.1) ?_)
    | (go_at_call 9; refine Calls.mono (nput_any A w2 HO.out.1) ?_; rintro e w3 ⟨b1, rfl, hO⟩; have H3 : Box (Bytes w3 (some ⟨b1, 0, none⟩) 32 (nb A) ∧ Lies w3 S A ∧ Lies w3 (S + 1) B ∧ Below w.heap.size w w3) := ⟨hO.bytes (byt_nb HO.out.1), H2.out.1.below hO.2.2, H2.out.2.1.below hO.2.2, below_to H2.out.2.2 hO.2.2⟩; clear hO H2))
  go_upto_region 6 with (first
    | (refine wpList_run rfl _ _ (exec_ldN _ rfl (S + 1) B rfl H3.out.2.2.1) ?_)
    | (go_at_call 9; refine Calls.mono (nput_any B w3 HO.out.2) ?_; rintro e w4 ⟨b2, rfl, hO⟩; have H4 : Box (Bytes w4 (some ⟨b1, 0, none⟩) 32 (nb A) ∧ Bytes w4 (some ⟨b2, 0, none⟩) 32 (nb B) ∧ Lies w4 S A ∧ Lies w4 (S + 1) B ∧ Below w.heap.size w w4) := ⟨H3.out.1.below hO.2.2, hO.bytes (byt_nb HO.out.2), H3.out.2.1.below hO.2.2, H3.out.2.2.1.below hO.2.2, below_to H3.out.2.2.2 hO.2.2⟩; clear hO H3))
  obtain ⟨a18, e18, f18⟩ := slice_lo (some ⟨b1, 0, none⟩) 32 32 18 (by omega) (by omega)
  have H18 : Box (∀ x, Below w4.heap.size w4 x → Bytes x a18 14 (zro 14)) := ⟨fun x hx => by
    have := f18 x (nb A) (H4.out.1.below hx)
    rwa [nb_drop A] at this⟩
  have e18 : ∀ x, (Instr.sliceAt 27 (.slice (some ⟨b1, 0, none⟩) 32 32) (some (.int .i64 18)) none none).run Try.prog x = .ok (.slice a18 14 14) x := e18
  clear f18
  refine Seq.begin_any (by kernel_rfl) (fun wd hd => ?_)
  have HD : Box (Below w4.heap.size w4 wd) := ⟨hd⟩
  clear hd
  refine Seq.take_lat (i := 0) (v := ?_) rfl (by kernel_rfl) (by kernel_rfl) (by kernel_rfl) (fun _ _ _ h => h) (by rfl) ?_ ?_
  rotate_left
  · intro w' hLat; change Below _ _ _ at hLat; go_simp <;> with_reducible rfl
  try simp only [Act.put, List.setIfInBounds_toArray, List.set_cons_zero, List.set_cons_succ, List.getElem_toArray, List.getElem_cons_zero]
  refine Seq.take_lat (i := 1) (v := ?_) rfl (by kernel_rfl) (by kernel_rfl) (by kernel_rfl) (fun _ _ _ h => h) (by rfl) ?_ ?_
  rotate_left
  · intro w' hLat; change Below _ _ _ at hLat; go_simp <;> with_reducible rfl
  try simp only [Act.put, List.setIfInBounds_toArray, List.set_cons_zero, List.set_cons_succ, List.getElem_toArray, List.getElem_cons_zero, List.getElem_cons_succ]
  refine Seq.take_lat (i := 2) (v := ?_) rfl (by kernel_rfl) (by kernel_rfl) (by kernel_rfl) (fun _ _ _ h => h) (by rfl) ?_ ?_
  rotate_left
  · intro w' hLat; change Below _ _ _ at hLat; go_simp <;> with_reducible rfl
  try simp only [Act.put, List.setIfInBounds_toArray, List.set_cons_zero, List.set_cons_succ, List.getElem_toArray, List.getElem_cons_zero, List.getElem_cons_succ]
  refine Seq.take_lat (i := 3) (v := ?_) rfl (by kernel_rfl) (by kernel_rfl) (by kernel_rfl) (fun _ _ _ h => h) (by rfl) ?_ ?_
  rotate_left
  · intro w' hLat; change Below _ _ _ at hLat; go_simp <;> with_reducible rfl
  try simp only [Act.put, List.setIfInBounds_toArray, List.set_cons_zero, List.set_cons_succ, List.getElem_toArray, List.getElem_cons_zero, List.getElem_cons_succ]
  refine Seq.take_lat (i := 4) (v := ?_) rfl (by kernel_rfl) (by kernel_rfl) (by kernel_rfl) (fun _ _ _ h => h) (by rfl) ?_ ?_
  rotate_left
  · intro w' hLat; change Below _ _ _ at hLat; go_simp <;> with_reducible rfl
  try simp only [Act.put, List.setIfInBounds_toArray, List.set_cons_zero, List.set_cons_succ, List.getElem_toArray, List.getElem_cons_zero, List.getElem_cons_succ]
  refine Seq.take_lat (i := 5) (v := ?_) rfl (by kernel_rfl) (by kernel_rfl) (by kernel_rfl) (fun _ _ _ h => h) (by rfl) ?_ ?_
  rotate_left
  · intro w' hLat; change Below _ _ _ at hLat; go_simp <;> with_reducible rfl
  try simp only [Act.put, List.setIfInBounds_toArray, List.set_cons_zero, List.set_cons_succ, List.getElem_toArray, List.getElem_cons_zero, List.getElem_cons_succ]
  refine Seq.take_lat (i := 6) (v := ?_) rfl (by kernel_rfl) (by kernel_rfl) (by kernel_rfl) (fun _ _ _ h => h) (by rfl) ?_ ?_
  rotate_left
  · intro w' hLat; change Below _ _ _ at hLat; go_simp <;> with_reducible rfl
  try simp only [Act.put, List.setIfInBounds_toArray, List.set_cons_zero, List.set_cons_succ, List.getElem_toArray, List.getElem_cons_zero, List.getElem_cons_succ]
  refine Seq.take_lat (i := 7) (v := ?_) rfl (by kernel_rfl) (by kernel_rfl) (by kernel_rfl) (fun _ _ _ h => h) (by rfl) ?_ ?_
  rotate_left
  · intro w' hLat; change Below _ _ _ at hLat; go_simp <;> with_reducible rfl
  try simp only [Act.put, List.setIfInBounds_toArray, List.set_cons_zero, List.set_cons_succ, List.getElem_toArray, List.getElem_cons_zero, List.getElem_cons_succ]
  refine Seq.take_lat (i := 8) (v := ?_) rfl (by kernel_rfl) (by kernel_rfl) (by kernel_rfl) (fun _ _ _ h => h) (by rfl) ?_ ?_
  rotate_left
  · intro w' hLat; change Below _ _ _ at hLat; go_simp <;> with_reducible rfl
  try simp only [Act.put, List.setIfInBounds_toArray, List.set_cons_zero, List.set_cons_succ, List.getElem_toArray, List.getElem_cons_zero, List.getElem_cons_succ]
  refine Seq.take_lat (i := 9) (v := ?_) rfl (by kernel_rfl) (by kernel_rfl) (by kernel_rfl) (fun _ _ _ h => h) (by rfl) ?_ ?_
  rotate_left
  · intro w' hLat; change Below _ _ _ at hLat; go_simp <;> with_reducible rfl
  try simp only [Act.put, List.setIfInBounds_toArray, List.set_cons_zero, List.set_cons_succ, List.getElem_toArray, List.getElem_cons_zero, List.getElem_cons_succ]
  refine Seq.take_lat (i := 10) (v := ?_) rfl (by kernel_rfl) (by kernel_rfl) (by kernel_rfl) (fun _ _ _ h => h) (by rfl) ?_ ?_
  rotate_left
  · intro w' hLat; change Below _ _ _ at hLat; go_simp <;> with_reducible rfl
  try simp only [Act.put, List.setIfInBounds_toArray, List.set_cons_zero, List.set_cons_succ, List.getElem_toArray, List.getElem_cons_zero, List.getElem_cons_succ]
  refine Seq.take_lat (i := 11) (v := .int .u8 0) rfl (by kernel_rfl) (by kernel_rfl) (by kernel_rfl) (fun _ _ _ h => h) (by rfl) (fun w' hLat => exec_load1 5 _ _ rfl Try.underlying5 rfl ⟨b1, 1, none⟩ rfl _ (byte_one H4.out.1 (HD.out.trans (hLat.mono HD.out.size)))) ?_
  try simp only [Act.put, List.setIfInBounds_toArray, List.set_cons_zero, List.set_cons_succ, List.getElem_toArray, List.getElem_cons_zero, List.getElem_cons_succ]
  refine Seq.take_lat (i := 12) (v := ?_) rfl (by kernel_rfl) (by kernel_rfl) (by kernel_rfl) (fun _ _ _ h => h) (by rfl) ?_ ?_
  rotate_left
  · intro w' hLat; change Below _ _ _ at hLat; go_simp <;> with_reducible rfl
  try simp only [Act.put, List.setIfInBounds_toArray, List.set_cons_zero, List.set_cons_succ, List.getElem_toArray, List.getElem_cons_zero, List.getElem_cons_succ]
  refine Seq.take_lat (i := 13) (v := ?_) rfl (by kernel_rfl) (by kernel_rfl) (by kernel_rfl) (fun _ _ _ h => h) (by rfl) ?_ ?_
  rotate_left
  · intro w' hLat; change Below _ _ _ at hLat; go_simp <;> with_reducible rfl
  try simp only [Act.put, List.setIfInBounds_toArray, List.set_cons_zero, List.set_cons_succ, List.getElem_toArray, List.getElem_cons_zero, List.getElem_cons_succ]
  refine Seq.take_lat (i := 14) (v := ?_) rfl (by kernel_rfl) (by kernel_rfl) (by kernel_rfl) (fun _ _ _ h => h) (by rfl) ?_ ?_
  rotate_left
  · intro w' hLat; change Below _ _ _ at hLat; go_simp <;> with_reducible rfl
  try simp only [Act.put, List.setIfInBounds_toArray, List.set_cons_zero, List.set_cons_succ, List.getElem_toArray, List.getElem_cons_zero, List.getElem_cons_succ]
  refine Seq.take_lat (i := 15) (v := ?_) rfl (by kernel_rfl) (by kernel_rfl) (by kernel_rfl) (fun _ _ _ h => h) (by rfl) ?_ ?_
  rotate_left
  · intro w' hLat; change Below _ _ _ at hLat; go_simp <;> with_reducible rfl
  try simp only [Act.put, List.setIfInBounds_toArray, List.set_cons_zero, List.set_cons_succ, List.getElem_toArray, List.getElem_cons_zero, List.getElem_cons_succ]
  refine Seq.take_lat (i := 16) (v := .slice a18 14 14) rfl (by kernel_rfl) (by kernel_rfl) (by kernel_rfl) (fun _ _ _ h => h) (by rfl) (fun w' hLat => exec_slice 27 (.tmp 30) (some (.const (.int .i64 18))) none rfl _ (e18 w')) ?_
  try simp only [Act.put, List.setIfInBounds_toArray, List.set_cons_zero, List.set_cons_succ, List.getElem_toArray, List.getElem_cons_zero, List.getElem_cons_succ]
  refine Seq.take_lat (i := 17) (v := .string (strOfNums (zro 14))) rfl (by kernel_rfl) (by kernel_rfl) (by kernel_rfl) (fun _ _ _ h => h) (by rfl) (fun w' hLat => exec_conv _ rfl rfl (H18.out _ (HD.out.trans (hLat.mono HD.out.size)))) ?_
  try simp only [Act.put, List.setIfInBounds_toArray, List.set_cons_zero, List.set_cons_succ, List.getElem_toArray, List.getElem_cons_zero, List.getElem_cons_succ]
  refine make_lat (i := 18) rfl (by kernel_rfl) (by rfl) 14 (by omega) rfl (fun w5 hB5 hb5 => ?_)
  try simp only [Act.put, List.setIfInBounds_toArray, List.set_cons_zero, List.set_cons_succ, List.getElem_toArray, List.getElem_cons_zero, List.getElem_cons_succ]
  have H5 : Box (Bytes w5 (some ⟨wd.heap.size, 0, none⟩) 14 (zro 14)) := ⟨hB5⟩
  have HE : Box (Below w4.heap.size w4 w5) := ⟨HD.out.trans (hb5.mono HD.out.size)⟩
  clear hB5 hb5 HD
  refine Seq.take_lat (i := 19) (v := .string (strOfNums (zro 14))) rfl (by kernel_rfl) (by kernel_rfl) (by kernel_rfl) (fun _ _ _ h => h) (by rfl) (fun w' hLat => exec_conv _ rfl rfl (H5.out.below hLat)) ?_
  try simp only [Act.put, List.setIfInBounds_toArray, List.set_cons_zero, List.set_cons_succ, List.getElem_toArray, List.getElem_cons_zero, List.getElem_cons_succ]
  refine Seq.take_lat (i := 20) (v := .bool false) rfl (by kernel_rfl) (by kernel_rfl) (by kernel_rfl) (fun _ _ _ h => h) (by rfl) (fun w' hLat => exec_strF _ _ _ rfl (zro 14) (byt_zeros 14) rfl rfl) ?_
  try simp only [Act.put, List.setIfInBounds_toArray, List.set_cons_zero, List.set_cons_succ, List.getElem_toArray, List.getElem_cons_zero, List.getElem_cons_succ]
  refine Seq.take_lat (i := 21) (v := ?_) rfl (by kernel_rfl) (by kernel_rfl) (by kernel_rfl) (fun _ _ _ h => h) (by rfl) ?_ ?_
  rotate_left
  · intro w' hLat; change Below _ _ _ at hLat; go_simp <;> with_reducible rfl
  try simp only [Act.put, List.setIfInBounds_toArray, List.set_cons_zero, List.set_cons_succ, List.getElem_toArray, List.getElem_cons_zero, List.getElem_cons_succ]
  refine wpAnyH_done (by kernel_rfl) ?_ _
  go_upto_region 8 with fail

  have HX : Box (Bytes w5 (some ⟨b1, 0, none⟩) 32 (nb A)) := ⟨H4.out.1.below HE.out⟩
  have HY : Box (Bytes w5 (some ⟨b2, 0, none⟩) 32 (nb B)) := ⟨H4.out.2.1.below HE.out⟩
  have HL : Box (Lies w5 S A ∧ Lies w5 (S + 1) B) := ⟨H4.out.2.2.1.below HE.out, H4.out.2.2.2.1.below HE.out⟩
  have HW : Box (Below w.heap.size w w5) := ⟨below_to H4.out.2.2.2.2 HE.out⟩
  clear H4 HE H5 H18 e18
  have x0 : w5.cell? ⟨b1, 0, none⟩ = some (.int .u8 A.k) := byte_zero HX.out
  have y0 : w5.cell? ⟨b2, 0, none⟩ = some (.int .u8 B.k) := byte_zero HY.out
  have la0 : w5.cell? ⟨S, 0, none⟩ = some (.int .u8 A.k) := HL.out.1.cell 0
  have lb0 : w5.cell? ⟨S + 1, 0, none⟩ = some (.int .u8 B.k) := HL.out.2.cell 0
  generalize hE0 : (A.k == B.k) = e0
  have SX1 : ∀ x, (Instr.sliceAt 27 (.slice (some ⟨b1, 0, none⟩) 32 32) (some (.int .i64 2)) (some (.int .i64 4)) none).run Try.prog x = .ok (.slice (some ⟨b1, 2, none⟩) 2 30) x := slice_lh b1 2 4 (by omega) (by omega)
  have SY1 : ∀ x, (Instr.sliceAt 27 (.slice (some ⟨b2, 0, none⟩) 32 32) (some (.int .i64 2)) (some (.int .i64 4)) none).run Try.prog x = .ok (.slice (some ⟨b2, 2, none⟩) 2 30) x := slice_lh b2 2 4 (by omega) (by omega)
  have CX1 : ∀ m, (convert 27 9 (.slice (some ⟨b1, 2, none⟩) 2 30)).run Try.prog (w5.drewN m) = .ok (.string (strOfNums (bytesOf A.l 2))) (w5.drewN m) := fun m => conv_bytes (bytes_drewN' (cutL HX.out) m) _
  have CY1 : ∀ m, (convert 27 9 (.slice (some ⟨b2, 2, none⟩) 2 30)).run Try.prog (w5.drewN m) = .ok (.string (strOfNums (bytesOf B.l 2))) (w5.drewN m) := fun m => conv_bytes (bytes_drewN' (cutL HY.out) m) _
  have Q1 : ((strOfNums (bytesOf A.l 2)).toList == (strOfNums (bytesOf B.l 2)).toList) = (A.l == B.l) := (str_num 2 _ _ (by have := HO.out.1.hl; unfold U16 at this; omega) (by have := HO.out.2.hl; unfold U16 at this; omega))
  have la1 : w5.cell? ⟨S, 1, none⟩ = some (.int .u16 A.l) := HL.out.1.cell 1
  have lb1 : w5.cell? ⟨S + 1, 1, none⟩ = some (.int .u16 B.l) := HL.out.2.cell 1
  generalize hE1 : (A.l == B.l) = e1 at Q1
  generalize strOfNums (bytesOf A.l 2) = sa1 at CX1 Q1
  generalize strOfNums (bytesOf B.l 2) = sb1 at CY1 Q1
  have SX2 : ∀ x, (Instr.sliceAt 27 (.slice (some ⟨b1, 0, none⟩) 32 32) (some (.int .i64 4)) (some (.int .i64 8)) none).run Try.prog x = .ok (.slice (some ⟨b1, 4, none⟩) 4 28) x := slice_lh b1 4 8 (by omega) (by omega)
  have SY2 : ∀ x, (Instr.sliceAt 27 (.slice (some ⟨b2, 0, none⟩) 32 32) (some (.int .i64 4)) (some (.int .i64 8)) none).run Try.prog x = .ok (.slice (some ⟨b2, 4, none⟩) 4 28) x := slice_lh b2 4 8 (by omega) (by omega)
  have CX2 : ∀ m, (convert 27 9 (.slice (some ⟨b1, 4, none⟩) 4 28)).run Try.prog (w5.drewN m) = .ok (.string (strOfNums (bytesOf A.z 4))) (w5.drewN m) := fun m => conv_bytes (bytes_drewN' (cutZ HX.out) m) _
  have CY2 : ∀ m, (convert 27 9 (.slice (some ⟨b2, 4, none⟩) 4 28)).run Try.prog (w5.drewN m) = .ok (.string (strOfNums (bytesOf B.z 4))) (w5.drewN m) := fun m => conv_bytes (bytes_drewN' (cutZ HY.out) m) _
  have Q2 : ((strOfNums (bytesOf A.z 4)).toList == (strOfNums (bytesOf B.z 4)).toList) = (A.z == B.z) := (str_num 4 _ _ (by have := HO.out.1.hz; omega) (by have := HO.out.2.hz; omega))
  have la2 : w5.cell? ⟨S, 2, none⟩ = some (.int .u32 A.z) := HL.out.1.cell 2
  have lb2 : w5.cell? ⟨S + 1, 2, none⟩ = some (.int .u32 B.z) := HL.out.2.cell 2
  generalize hE2 : (A.z == B.z) = e2 at Q2
  generalize strOfNums (bytesOf A.z 4) = sa2 at CX2 Q2
  generalize strOfNums (bytesOf B.z 4) = sb2 at CY2 Q2
  have SX3 : ∀ x, (Instr.sliceAt 27 (.slice (some ⟨b1, 0, none⟩) 32 32) (some (.int .i64 8)) (some (.int .i64 14)) none).run Try.prog x = .ok (.slice (some ⟨b1, 8, none⟩) 6 24) x := slice_lh b1 8 14 (by omega) (by omega)
  have SY3 : ∀ x, (Instr.sliceAt 27 (.slice (some ⟨b2, 0, none⟩) 32 32) (some (.int .i64 8)) (some (.int .i64 14)) none).run Try.prog x = .ok (.slice (some ⟨b2, 8, none⟩) 6 24) x := slice_lh b2 8 14 (by omega) (by omega)
  have CX3 : ∀ m, (convert 27 9 (.slice (some ⟨b1, 8, none⟩) 6 24)).run Try.prog (w5.drewN m) = .ok (.string (strOfNums (th A))) (w5.drewN m) := fun m => conv_bytes (bytes_drewN' (cutT HX.out) m) _
  have CY3 : ∀ m, (convert 27 9 (.slice (some ⟨b2, 8, none⟩) 6 24)).run Try.prog (w5.drewN m) = .ok (.string (strOfNums (th B))) (w5.drewN m) := fun m => conv_bytes (bytes_drewN' (cutT HY.out) m) _
  have Q3 : ((strOfNums (th A)).toList == (strOfNums (th B)).toList) = decide (three A = three B) := (str_three A B HO.out.1 HO.out.2)
  have E3 : Box (∀ (o : Oper) (ρ : Operand → Value) (x : World) (p q : Operand) (ty : TypeId), o.op = .binOp .eql 24 p q ty → ρ p = .agg (u16s (three A)) → ρ q = .agg (u16s (three B)) → (execOp ρ o).run Try.prog x = .ok (.value (.bool (decide (three A = three B)))) x) := ⟨fun o ρ x p q ty h1 h2 h3 => exec_eq3 p q ty h1 _ _ rfl rfl h2 h3⟩
  have LA3 : Box (∀ (o : Oper) (ρ : Operand → Value) (p : Operand) (x : World), (∃ n, x = w5.drewN n) → o.op = .load 24 p → ρ p = .pointer (some ⟨S, 3, none⟩) → (execOp ρ o).run Try.prog x = .ok (.value (.agg (u16s (three A)))) x) := ⟨fun o ρ p x hx h1 h2 => exec_three p h1 S A h2 (by obtain ⟨m, rfl⟩ := hx; exact lies_drewN HL.out.1 m)⟩
  have LB3 : Box (∀ (o : Oper) (ρ : Operand → Value) (p : Operand) (x : World), (∃ n, x = w5.drewN n) → o.op = .load 24 p → ρ p = .pointer (some ⟨S + 1, 3, none⟩) → (execOp ρ o).run Try.prog x = .ok (.value (.agg (u16s (three B)))) x) := ⟨fun o ρ p x hx h1 h2 => exec_three p h1 (S + 1) B h2 (by obtain ⟨m, rfl⟩ := hx; exact lies_drewN HL.out.2 m)⟩
  generalize decide (three A = three B) = e3 at Q3 E3
  generalize u16s (three A) = ra3 at LA3 E3
  generalize u16s (three B) = rb3 at LB3 E3
  generalize strOfNums (th A) = sa3 at CX3 Q3
  generalize strOfNums (th B) = sb3 at CY3 Q3
  have SX4 : ∀ x, (Instr.sliceAt 27 (.slice (some ⟨b1, 0, none⟩) 32 32) (some (.int .i64 14)) (some (.int .i64 16)) none).run Try.prog x = .ok (.slice (some ⟨b1, 14, none⟩) 2 18) x := slice_lh b1 14 16 (by omega) (by omega)
  have SY4 : ∀ x, (Instr.sliceAt 27 (.slice (some ⟨b2, 0, none⟩) 32 32) (some (.int .i64 14)) (some (.int .i64 16)) none).run Try.prog x = .ok (.slice (some ⟨b2, 14, none⟩) 2 18) x := slice_lh b2 14 16 (by omega) (by omega)
  have CX4 : ∀ m, (convert 27 9 (.slice (some ⟨b1, 14, none⟩) 2 18)).run Try.prog (w5.drewN m) = .ok (.string (strOfNums (bytesOf A.s 2))) (w5.drewN m) := fun m => conv_bytes (bytes_drewN' (cutS HX.out) m) _
  have CY4 : ∀ m, (convert 27 9 (.slice (some ⟨b2, 14, none⟩) 2 18)).run Try.prog (w5.drewN m) = .ok (.string (strOfNums (bytesOf B.s 2))) (w5.drewN m) := fun m => conv_bytes (bytes_drewN' (cutS HY.out) m) _
  have Q4 : ((strOfNums (bytesOf A.s 2)).toList == (strOfNums (bytesOf B.s 2)).toList) = (A.s == B.s) := (str_num 2 _ _ (by have := HO.out.1.hn 3; simp only [ns, List.getD_cons_zero, List.getD_cons_succ, U16] at this; omega) (by have := HO.out.2.hn 3; simp only [ns, List.getD_cons_zero, List.getD_cons_succ, U16] at this; omega))
  have la4 : w5.cell? ⟨S, 6, none⟩ = some (.int .u16 A.s) := HL.out.1.cell 6
  have lb4 : w5.cell? ⟨S + 1, 6, none⟩ = some (.int .u16 B.s) := HL.out.2.cell 6
  generalize hE4 : (A.s == B.s) = e4 at Q4
  generalize strOfNums (bytesOf A.s 2) = sa4 at CX4 Q4
  generalize strOfNums (bytesOf B.s 2) = sb4 at CY4 Q4
  have SX5 : ∀ x, (Instr.sliceAt 27 (.slice (some ⟨b1, 0, none⟩) 32 32) (some (.int .i64 16)) (some (.int .i64 18)) none).run Try.prog x = .ok (.slice (some ⟨b1, 16, none⟩) 2 16) x := slice_lh b1 16 18 (by omega) (by omega)
  have SY5 : ∀ x, (Instr.sliceAt 27 (.slice (some ⟨b2, 0, none⟩) 32 32) (some (.int .i64 16)) (some (.int .i64 18)) none).run Try.prog x = .ok (.slice (some ⟨b2, 16, none⟩) 2 16) x := slice_lh b2 16 18 (by omega) (by omega)
  have CX5 : ∀ m, (convert 27 9 (.slice (some ⟨b1, 16, none⟩) 2 16)).run Try.prog (w5.drewN m) = .ok (.string (strOfNums (bytesOf A.d 2))) (w5.drewN m) := fun m => conv_bytes (bytes_drewN' (cutD HX.out) m) _
  have CY5 : ∀ m, (convert 27 9 (.slice (some ⟨b2, 16, none⟩) 2 16)).run Try.prog (w5.drewN m) = .ok (.string (strOfNums (bytesOf B.d 2))) (w5.drewN m) := fun m => conv_bytes (bytes_drewN' (cutD HY.out) m) _
  have Q5 : ((strOfNums (bytesOf A.d 2)).toList == (strOfNums (bytesOf B.d 2)).toList) = (A.d == B.d) := (str_num 2 _ _ (by have := HO.out.1.hn 4; simp only [ns, List.getD_cons_zero, List.getD_cons_succ, U16] at this; omega) (by have := HO.out.2.hn 4; simp only [ns, List.getD_cons_zero, List.getD_cons_succ, U16] at this; omega))
  have la5 : w5.cell? ⟨S, 7, none⟩ = some (.int .u16 A.d) := HL.out.1.cell 7
  have lb5 : w5.cell? ⟨S + 1, 7, none⟩ = some (.int .u16 B.d) := HL.out.2.cell 7
  generalize hE5 : (A.d == B.d) = e5 at Q5
  generalize strOfNums (bytesOf A.d 2) = sa5 at CX5 Q5
  generalize strOfNums (bytesOf B.d 2) = sb5 at CY5 Q5
  clear HX HY HL HO HS
  dsimp only [List.append]
  refine wp_region_quiet_lit (by kernel_rfl) (lex_all _ 89 rfl (by decide) (by as_aux_lemma => kernel_rfl) (by as_aux_lemma => kernel_rfl) (by as_aux_lemma => kernel_rfl) (by as_aux_lemma => kernel_rfl) (by as_aux_lemma => kernel_rfl) (by as_aux_lemma => kernel_rfl) (by as_aux_lemma => kernel_rfl) (by as_aux_lemma => kernel_rfl) (by as_aux_lemma => kernel_rfl) (by as_aux_lemma => kernel_rfl) (by as_aux_lemma => kernel_rfl) (by as_aux_lemma => kernel_rfl)) ?_
  as_aux_lemma =>
  iterate 10 (first
    | (refine quiet_val (.agg ra3) (fun x hx => LA3.out _ _ (.tmp 88) x hx rfl rfl) rfl ?_; simp only [Act.put, List.setIfInBounds_toArray, List.set_cons_zero, List.set_cons_succ])
    | (refine quiet_val (.agg rb3) (fun x hx => LB3.out _ _ (.tmp 90) x hx rfl rfl) rfl ?_; simp only [Act.put, List.setIfInBounds_toArray, List.set_cons_zero, List.set_cons_succ])
    | (refine quiet_val (.bool e3) (fun x hx => E3.out _ _ x (.tmp 89) (.tmp 91) _ rfl rfl rfl) rfl ?_; simp only [Act.put, List.setIfInBounds_toArray, List.set_cons_zero, List.set_cons_succ])
    | go_big_quiet_step (fail))
  as_aux_lemma =>
  iterate 10 (first
    | (refine quiet_val (.agg ra3) (fun x hx => LA3.out _ _ (.tmp 88) x hx rfl rfl) rfl ?_; simp only [Act.put, List.setIfInBounds_toArray, List.set_cons_zero, List.set_cons_succ])
    | (refine quiet_val (.agg rb3) (fun x hx => LB3.out _ _ (.tmp 90) x hx rfl rfl) rfl ?_; simp only [Act.put, List.setIfInBounds_toArray, List.set_cons_zero, List.set_cons_succ])
    | (refine quiet_val (.bool e3) (fun x hx => E3.out _ _ x (.tmp 89) (.tmp 91) _ rfl rfl rfl) rfl ?_; simp only [Act.put, List.setIfInBounds_toArray, List.set_cons_zero, List.set_cons_succ])
    | go_big_quiet_step (fail))
  as_aux_lemma =>
  iterate 10 (first
    | (refine quiet_val (.agg ra3) (fun x hx => LA3.out _ _ (.tmp 88) x hx rfl rfl) rfl ?_; simp only [Act.put, List.setIfInBounds_toArray, List.set_cons_zero, List.set_cons_succ])
    | (refine quiet_val (.agg rb3) (fun x hx => LB3.out _ _ (.tmp 90) x hx rfl rfl) rfl ?_; simp only [Act.put, List.setIfInBounds_toArray, List.set_cons_zero, List.set_cons_succ])
    | (refine quiet_val (.bool e3) (fun x hx => E3.out _ _ x (.tmp 89) (.tmp 91) _ rfl rfl rfl) rfl ?_; simp only [Act.put, List.setIfInBounds_toArray, List.set_cons_zero, List.set_cons_succ])
    | go_big_quiet_step (fail))
  as_aux_lemma =>
  iterate 10 (first
    | (refine quiet_val (.agg ra3) (fun x hx => LA3.out _ _ (.tmp 88) x hx rfl rfl) rfl ?_; simp only [Act.put, List.setIfInBounds_toArray, List.set_cons_zero, List.set_cons_succ])
    | (refine quiet_val (.agg rb3) (fun x hx => LB3.out _ _ (.tmp 90) x hx rfl rfl) rfl ?_; simp only [Act.put, List.setIfInBounds_toArray, List.set_cons_zero, List.set_cons_succ])
    | (refine quiet_val (.bool e3) (fun x hx => E3.out _ _ x (.tmp 89) (.tmp 91) _ rfl rfl rfl) rfl ?_; simp only [Act.put, List.setIfInBounds_toArray, List.set_cons_zero, List.set_cons_succ])
    | go_big_quiet_step (fail))
  as_aux_lemma =>
  iterate 10 (first
    | (refine quiet_val (.agg ra3) (fun x hx => LA3.out _ _ (.tmp 88) x hx rfl rfl) rfl ?_; simp only [Act.put, List.setIfInBounds_toArray, List.set_cons_zero, List.set_cons_succ])
    | (refine quiet_val (.agg rb3) (fun x hx => LB3.out _ _ (.tmp 90) x hx rfl rfl) rfl ?_; simp only [Act.put, List.setIfInBounds_toArray, List.set_cons_zero, List.set_cons_succ])
    | (refine quiet_val (.bool e3) (fun x hx => E3.out _ _ x (.tmp 89) (.tmp 91) _ rfl rfl rfl) rfl ?_; simp only [Act.put, List.setIfInBounds_toArray, List.set_cons_zero, List.set_cons_succ])
    | go_big_quiet_step (fail))
  as_aux_lemma =>
  iterate 10 (first
    | (refine quiet_val (.agg ra3) (fun x hx => LA3.out _ _ (.tmp 88) x hx rfl rfl) rfl ?_; simp only [Act.put, List.setIfInBounds_toArray, List.set_cons_zero, List.set_cons_succ])
    | (refine quiet_val (.agg rb3) (fun x hx => LB3.out _ _ (.tmp 90) x hx rfl rfl) rfl ?_; simp only [Act.put, List.setIfInBounds_toArray, List.set_cons_zero, List.set_cons_succ])
    | (refine quiet_val (.bool e3) (fun x hx => E3.out _ _ x (.tmp 89) (.tmp 91) _ rfl rfl rfl) rfl ?_; simp only [Act.put, List.setIfInBounds_toArray, List.set_cons_zero, List.set_cons_succ])
    | go_big_quiet_step (fail))
  as_aux_lemma =>
  iterate 10 (first
    | (refine quiet_val (.agg ra3) (fun x hx => LA3.out _ _ (.tmp 88) x hx rfl rfl) rfl ?_; simp only [Act.put, List.setIfInBounds_toArray, List.set_cons_zero, List.set_cons_succ])
    | (refine quiet_val (.agg rb3) (fun x hx => LB3.out _ _ (.tmp 90) x hx rfl rfl) rfl ?_; simp only [Act.put, List.setIfInBounds_toArray, List.set_cons_zero, List.set_cons_succ])
    | (refine quiet_val (.bool e3) (fun x hx => E3.out _ _ x (.tmp 89) (.tmp 91) _ rfl rfl rfl) rfl ?_; simp only [Act.put, List.setIfInBounds_toArray, List.set_cons_zero, List.set_cons_succ])
    | go_big_quiet_step (fail))
  as_aux_lemma =>
  iterate 10 (first
    | (refine quiet_val (.agg ra3) (fun x hx => LA3.out _ _ (.tmp 88) x hx rfl rfl) rfl ?_; simp only [Act.put, List.setIfInBounds_toArray, List.set_cons_zero, List.set_cons_succ])
    | (refine quiet_val (.agg rb3) (fun x hx => LB3.out _ _ (.tmp 90) x hx rfl rfl) rfl ?_; simp only [Act.put, List.setIfInBounds_toArray, List.set_cons_zero, List.set_cons_succ])
    | (refine quiet_val (.bool e3) (fun x hx => E3.out _ _ x (.tmp 89) (.tmp 91) _ rfl rfl rfl) rfl ?_; simp only [Act.put, List.setIfInBounds_toArray, List.set_cons_zero, List.set_cons_succ])
    | go_big_quiet_step (fail))
  as_aux_lemma =>
  iterate 9 (first
    | (refine quiet_val (.agg ra3) (fun x hx => LA3.out _ _ (.tmp 88) x hx rfl rfl) rfl ?_; simp only [Act.put, List.setIfInBounds_toArray, List.set_cons_zero, List.set_cons_succ])
    | (refine quiet_val (.agg rb3) (fun x hx => LB3.out _ _ (.tmp 90) x hx rfl rfl) rfl ?_; simp only [Act.put, List.setIfInBounds_toArray, List.set_cons_zero, List.set_cons_succ])
    | (refine quiet_val (.bool e3) (fun x hx => E3.out _ _ x (.tmp 89) (.tmp 91) _ rfl rfl rfl) rfl ?_; simp only [Act.put, List.setIfInBounds_toArray, List.set_cons_zero, List.set_cons_succ])
    | go_big_quiet_step (fail))
  as_aux_lemma =>
  refine wpQuiet_nil ?_
  intro _ hw'
  obtain ⟨nq, hw''⟩ := hw'
  subst hw''
  go_wp2
  go_ret
  exact ⟨rfl, below_drewN HW.out _⟩
end Go.Proofs.Ytpdggopkalbbeaa
