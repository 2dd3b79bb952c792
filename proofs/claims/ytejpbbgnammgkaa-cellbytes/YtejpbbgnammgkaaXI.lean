/-
  The walk of CellBytes: any cell's bytes, and the cell of any bytes, are the document's, or refused.
-/
import Derived.Test.YtejpbbgnammgkaaXH
namespace Go.Proofs.Ytejpbbgnammgkaa
set_option linter.unusedVariables false
open Go.RowKit Plain

theorem exec_strF {o : Oper} {ρ : Operand → Value} {w' : World} (x y : Operand) (ty : TypeId) (ho : o.op = .binOp .neq 9 x y ty) (A : List Int) (hA : Byt A) (hx : ρ x = .string (strOfNums A)) (hy : ρ y = .string (strOfNums A)) :
    (execOp ρ o).run Try.prog w' = .ok (.value (.bool false)) w' := by
  rw [exec_strN x y ty ho A A hA hA hx hy, decide_eq_true rfl]; rfl
theorem exec_strT {o : Oper} {ρ : Operand → Value} {w' : World} (x y : Operand) (ty : TypeId) (ho : o.op = .binOp .eql 9 x y ty) (A : List Int) (hA : Byt A) (hx : ρ x = .string (strOfNums A)) (hy : ρ y = .string (strOfNums A)) :
    (execOp ρ o).run Try.prog w' = .ok (.value (.bool true)) w' := by
  rw [exec_str x y ty ho A A hA hA hx hy, decide_eq_true rfl]
/-- What the law has made: its own cell, the cell got out of its bytes, and the two cells of the bytes that came in. -/
structure Cy (w x : World) (S Gy Gz Gw : Nat) (ax : Option Addr) (C Z : Cl) : Prop where
  lc : Lies x S C
  bx : Bytes x ax 96 (cb C)
  ly : Lies x Gy C
  lz : Lies x Gz Z
  lw : Lies x Gw Z
  bel : Below w.heap.size w x
theorem Cy.on {w x y : World} {S Gy Gz Gw : Nat} {ax : Option Addr} {C Z : Cl} (h : Cy w x S Gy Gz Gw ax C Z) (hb : Below x.heap.size x y) : Cy w y S Gy Gz Gw ax C Z :=
  ⟨h.lc.below hb, h.bx.below hb, h.ly.below hb, h.lz.below hb, h.lw.below hb, below_to h.bel hb⟩

set_option maxRecDepth 20000 in
set_option maxHeartbeats 1000000 in
theorem cbytes_far (C : Cl) (b : Option Addr) (lb cap : Nat) (w : World) (hm : lb ≤ maxLen) (h : 300 < lb) : Calls Try.prog 3 #[.agg (av C), .slice b lb cap] w fun e w' => e = .returned (.bool true) ∧ Below w.heap.size w w' := by
  have d1 : 300 < (lb : Int) := by omega
  have H0 : Box (Below w.heap.size w (w.alloc (.cells (av C) 26))) := ⟨(Below.refl _ _).alloc (Nat.le_refl _) _⟩
  clear h
  go_enter Try.func3, Try.ntmps3
  go_wp2_with (go_at_call 7; refine Calls.mono (awake_any _) ?_; rintro e w1 ⟨rfl, hb⟩; have H1 : Box (Below w.heap.size w w1) := ⟨below_to H0.out hb⟩; clear hb)
  go_ret
  exact ⟨rfl, H1.out⟩

set_option maxRecDepth 20000 in
set_option maxHeartbeats 2000000 in
theorem cbytes_no (C Z : Cl) (b : Option Addr) (lb cap : Nat) (L : List Int) (w : World) (hC : Ok C) (hZ : Ok Z) (hB : Bytes w b lb L) (hm : lb ≤ 300) (hl : lb ≠ 96) (hz : Z = zc) : Calls Try.prog 3 #[.agg (av C), .slice b lb cap] w fun e w' => e = .returned (.bool true) ∧ Below w.heap.size w w' := by
  have d1 : ¬ 300 < (lb : Int) := by omega
  obtain ⟨S, hS⟩ : ∃ S, w.heap.size = S := ⟨_, rfl⟩
  have HS : Box (w.heap.size = S) := ⟨hS⟩
  have HO : Box (Ok C ∧ Ok Z) := ⟨hC, hZ⟩
  have HY : Box (Byt (cb C)) := ⟨byt_cb hC⟩
  have HCC : Box (ofB (cb C) = C) := ⟨ofB_cb hC⟩
  have HN : Box ((vs C).length = 68) := ⟨len_vs hC⟩
  have HB : Box (∀ x, Below w.heap.size w x → Bytes x b lb L) := ⟨fun x hx => hB.below hx⟩
  have H0 : Box (Lies (w.alloc (.cells (av C) 26)) S C ∧ Below w.heap.size w (w.alloc (.cells (av C) 26))) := ⟨hS ▸ lies_new w C, (Below.refl _ _).alloc (Nat.le_refl _) _⟩
  have HG : Box (∀ x, Calls Try.prog 9 #[.slice b lb cap] x fun e w' => e = .returned (.tuple #[.agg (av Z), .int .i64 11]) ∧ Below x.heap.size x w') := ⟨fun x => hz ▸ cget_no b lb cap x hl (by unfold maxLen; omega)⟩
  have HW : Box (∀ x, Calls Try.prog 10 #[.slice b lb cap] x fun e w' => e = .returned (.tuple #[.agg (av Z), .int .i64 11]) ∧ Below x.heap.size x w') := ⟨fun x => hz ▸ rcget_no b lb cap x hl (by unfold maxLen; omega)⟩
  clear hl hz
  clear hS hB hC hZ hm
  go_enter Try.func3, Try.ntmps3
  go_upto_region 1 with fail
  rw [HS.out]
  generalize w.alloc (.cells (av C) 26) = w0 at H0 ⊢
  go_upto_region 10 with (first
    | (refine wpList_newC w5 Z HO.out.2 rfl _ _ rfl rfl rfl rfl ?_; intro z5 hz hb; have H5 : Box (Cy w z5 S w3.heap.size w4.heap.size w5.heap.size ax C Z) := ⟨H5x.out.1.below hb, H5x.out.2.1.below hb, H5x.out.2.2.1.below hb, H5x.out.2.2.2.1.below hb, hz, below_to H5x.out.2.2.2.2 hb⟩; clear hz hb)
    | (go_at_call 10; refine Calls.mono (HW.out z4) ?_; rintro e w5 ⟨rfl, hb⟩; have H5x : Box (Lies w5 S C ∧ Bytes w5 ax 96 (cb C) ∧ Lies w5 w3.heap.size C ∧ Lies w5 w4.heap.size Z ∧ Below w.heap.size w w5) := ⟨H4.out.1.below hb, H4.out.2.1.below hb, H4.out.2.2.1.below hb, H4.out.2.2.2.1.below hb, below_to H4.out.2.2.2.2 hb⟩; clear hb)
    | (refine wpList_newC w4 Z HO.out.2 rfl _ _ rfl rfl rfl rfl ?_; intro z4 hz hb; have H4 : Box (Lies z4 S C ∧ Bytes z4 ax 96 (cb C) ∧ Lies z4 w3.heap.size C ∧ Lies z4 w4.heap.size Z ∧ Below w.heap.size w z4) := ⟨H4x.out.1.below hb, H4x.out.2.1.below hb, H4x.out.2.2.1.below hb, hz, below_to H4x.out.2.2.2 hb⟩; clear hz hb)
    | (go_at_call 9; refine Calls.mono (HG.out z3) ?_; rintro e w4 ⟨rfl, hb⟩; have H4x : Box (Lies w4 S C ∧ Bytes w4 ax 96 (cb C) ∧ Lies w4 w3.heap.size C ∧ Below w.heap.size w w4) := ⟨H3.out.1.below hb, H3.out.2.1.below hb, H3.out.2.2.1.below hb, below_to H3.out.2.2.2 hb⟩; clear hb)
    | (refine wpList_newC w3 C HO.out.1 rfl _ _ rfl rfl rfl rfl ?_; intro z3 hz hb; have H3 : Box (Lies z3 S C ∧ Bytes z3 ax 96 (cb C) ∧ Lies z3 w3.heap.size C ∧ Below w.heap.size w z3) := ⟨H3x.out.1.below hb, H3x.out.2.1.below hb, hz, below_to H3x.out.2.2 hb⟩; clear hz hb)
    | (refine wpList_run rfl _ _ (exec_alloc 26 rfl _ zeroC) ?_)
    | (go_at_call 9; refine Calls.mono (cget_ok ax cx (cb C) w2 H2.out.2.1 H2.out.2.2.1) ?_; rintro e w3 ⟨rfl, hb⟩; rw [HCC.out]; have H3x : Box (Lies w3 S C ∧ Bytes w3 ax 96 (cb C) ∧ Below w.heap.size w w3) := ⟨H2.out.1.below hb, H2.out.2.1.below hb, below_to H2.out.2.2.2 hb⟩; clear hb)
    | (go_at_call 8; refine Calls.mono (cput_any C w1 HO.out.1) ?_; rintro e w2 ⟨ax, cx, rfl, hX, hcx, -, hb⟩; have H2 : Box (Lies w2 S C ∧ Bytes w2 ax 96 (cb C) ∧ 96 ≤ cx ∧ Below w.heap.size w w2) := ⟨H1.out.1.below hb, hX, hcx, below_to H1.out.2 hb⟩; clear hX hcx hb)
    | (refine wpList_load_mid rfl 26 _ rfl S 0 rfl (vs C) _ (range_vs H1.out.1) Try.underlying26 rfl (by rw [HN.out]; exact infoC) ?_)
    | (go_at_call 7; refine Calls.mono (awake_any w0) ?_; rintro e w1 ⟨rfl, hb⟩; have H1 : Box (Lies w1 S C ∧ Below w.heap.size w w1) := ⟨H0.out.1.below hb, below_to H0.out.2 hb⟩; clear hb))
  generalize w3.heap.size = Gy at H5 ⊢
  generalize w4.heap.size = Gz at H5 ⊢
  generalize w5.heap.size = Gw at H5 ⊢
  clear H0 H1 H2 H3x H3 H4x H4 H5x
  refine Seq.begin_any (by kernel_rfl) (fun wd hd => ?_)
  have HX0 : Box (Cy w wd S Gy Gz Gw ax C Z) := ⟨H5.out.on hd⟩
  clear hd
  refine Seq.take_lat (i := 0) (v := ?_) rfl (by kernel_rfl) (by kernel_rfl) (by kernel_rfl) (fun _ _ _ h => h) (by rfl) ?_ ?_
  rotate_left
  · intro w' hLat; change Below _ _ _ at hLat; go_simp <;> with_reducible rfl
  try simp only [Act.put, List.setIfInBounds_toArray, List.set_cons_zero, List.set_cons_succ, List.getElem_toArray, List.getElem_cons_zero]
  refine Seq.take_lat (i := 1) (v := .string (strOfNums (cb C))) rfl (by kernel_rfl) (by kernel_rfl) (by kernel_rfl) (fun _ _ _ h => h) (by rfl) (fun w' hLat => exec_conv (.tmp 36) rfl rfl (HX0.out.bx.below hLat)) ?_
  try simp only [Act.put, List.setIfInBounds_toArray, List.set_cons_zero, List.set_cons_succ, List.getElem_toArray, List.getElem_cons_zero, List.getElem_cons_succ]
  refine Seq.take_lat (i := 2) (v := .agg (av C)) rfl (by kernel_rfl) (by kernel_rfl) (by kernel_rfl) (fun _ _ _ h => h) (by rfl) (fun w' hLat => exec_cell (.tmp 2) rfl S rfl C HO.out.1 (HX0.out.lc.below hLat)) ?_
  try simp only [Act.put, List.setIfInBounds_toArray, List.set_cons_zero, List.set_cons_succ, List.getElem_toArray, List.getElem_cons_zero, List.getElem_cons_succ]
  refine Seq.only_lat (i := 3) rfl (by kernel_rfl) (fun KK hK => ?_)
  rw [if_pos (by rfl)]
  go_simp
  refine Calls.mono (rcput_any C wd HO.out.1) ?_
  rintro e y3 ⟨a3, c3, rfl, hB, hb⟩
  have HX1 : Box (Cy w y3 S Gy Gz Gw ax C Z ∧ Bytes y3 a3 96 (cb C)) := ⟨HX0.out.on hb, hB⟩
  refine hK.out _ _ hb ?_
  clear hb hB
  clear hK KK
  try simp only [Act.put, List.setIfInBounds_toArray, List.set_cons_zero, List.set_cons_succ, List.getElem_toArray, List.getElem_cons_zero, List.getElem_cons_succ]
  refine Seq.take_lat (i := 4) (v := .string (strOfNums (cb C))) rfl (by kernel_rfl) (by kernel_rfl) (by kernel_rfl) (fun _ _ _ h => h) (by rfl) (fun w' hLat => exec_conv (.tmp 39) rfl rfl (HX1.out.2.below hLat)) ?_
  try simp only [Act.put, List.setIfInBounds_toArray, List.set_cons_zero, List.set_cons_succ, List.getElem_toArray, List.getElem_cons_zero, List.getElem_cons_succ]
  refine Seq.take_lat (i := 5) (v := .bool false) rfl (by kernel_rfl) (by kernel_rfl) (by kernel_rfl) (fun _ _ _ h => h) (by rfl) (fun w' hLat => exec_strF (.tmp 37) (.tmp 40) _ rfl (cb C) HY.out rfl rfl) ?_
  try simp only [Act.put, List.setIfInBounds_toArray, List.set_cons_zero, List.set_cons_succ, List.getElem_toArray, List.getElem_cons_zero, List.getElem_cons_succ]
  refine Seq.take_lat (i := 6) (v := ?_) rfl (by kernel_rfl) (by kernel_rfl) (by kernel_rfl) (fun _ _ _ h => h) (by rfl) ?_ ?_
  rotate_left
  · intro w' hLat; change Below _ _ _ at hLat; go_simp <;> with_reducible rfl
  try simp only [Act.put, List.setIfInBounds_toArray, List.set_cons_zero, List.set_cons_succ, List.getElem_toArray, List.getElem_cons_zero, List.getElem_cons_succ]
  refine Seq.take_lat (i := 7) (v := .agg (av C)) rfl (by kernel_rfl) (by kernel_rfl) (by kernel_rfl) (fun _ _ _ h => h) (by rfl) (fun w' hLat => exec_cell (.tmp 7) rfl Gy rfl C HO.out.1 (HX1.out.1.ly.below hLat)) ?_
  try simp only [Act.put, List.setIfInBounds_toArray, List.set_cons_zero, List.set_cons_succ, List.getElem_toArray, List.getElem_cons_zero, List.getElem_cons_succ]
  refine Seq.take_lat (i := 8) (v := .agg (av C)) rfl (by kernel_rfl) (by kernel_rfl) (by kernel_rfl) (fun _ _ _ h => h) (by rfl) (fun w' hLat => exec_cell (.tmp 2) rfl S rfl C HO.out.1 (HX1.out.1.lc.below hLat)) ?_
  try simp only [Act.put, List.setIfInBounds_toArray, List.set_cons_zero, List.set_cons_succ, List.getElem_toArray, List.getElem_cons_zero, List.getElem_cons_succ]
  refine Seq.take_lat (i := 9) (v := .bool false) rfl (by kernel_rfl) (by kernel_rfl) (by kernel_rfl) (fun _ _ _ h => h) (by rfl) (fun w' hLat => exec_neS (.tmp 43) (.tmp 44) _ rfl C HO.out.1 rfl rfl) ?_
  try simp only [Act.put, List.setIfInBounds_toArray, List.set_cons_zero, List.set_cons_succ, List.getElem_toArray, List.getElem_cons_zero, List.getElem_cons_succ]
  refine Seq.take_lat (i := 10) (v := ?_) rfl (by kernel_rfl) (by kernel_rfl) (by kernel_rfl) (fun _ _ _ h => h) (by rfl) ?_ ?_
  rotate_left
  · intro w' hLat; change Below _ _ _ at hLat; go_simp <;> with_reducible rfl
  try simp only [Act.put, List.setIfInBounds_toArray, List.set_cons_zero, List.set_cons_succ, List.getElem_toArray, List.getElem_cons_zero, List.getElem_cons_succ]
  refine Seq.take_lat (i := 11) (v := ?_) rfl (by kernel_rfl) (by kernel_rfl) (by kernel_rfl) (fun _ _ _ h => h) (by rfl) ?_ ?_
  rotate_left
  · intro w' hLat; change Below _ _ _ at hLat; go_simp <;> with_reducible rfl
  try simp only [Act.put, List.setIfInBounds_toArray, List.set_cons_zero, List.set_cons_succ, List.getElem_toArray, List.getElem_cons_zero, List.getElem_cons_succ]
  refine Seq.take_lat (i := 12) (v := ?_) rfl (by kernel_rfl) (by kernel_rfl) (by kernel_rfl) (fun _ _ _ h => h) (by rfl) ?_ ?_
  rotate_left
  · intro w' hLat; change Below _ _ _ at hLat; go_simp <;> with_reducible rfl
  try simp only [Act.put, List.setIfInBounds_toArray, List.set_cons_zero, List.set_cons_succ, List.getElem_toArray, List.getElem_cons_zero, List.getElem_cons_succ]
  refine Seq.take_lat (i := 13) (v := ?_) rfl (by kernel_rfl) (by kernel_rfl) (by kernel_rfl) (fun _ _ _ h => h) (by rfl) ?_ ?_
  rotate_left
  · intro w' hLat; change Below _ _ _ at hLat; go_simp <;> with_reducible rfl
  try simp only [Act.put, List.setIfInBounds_toArray, List.set_cons_zero, List.set_cons_succ, List.getElem_toArray, List.getElem_cons_zero, List.getElem_cons_succ]
  refine Seq.take_lat (i := 14) (v := ?_) rfl (by kernel_rfl) (by kernel_rfl) (by kernel_rfl) (fun _ _ _ h => h) (by rfl) ?_ ?_
  rotate_left
  · intro w' hLat; change Below _ _ _ at hLat; go_simp <;> with_reducible rfl
  try simp only [Act.put, List.setIfInBounds_toArray, List.set_cons_zero, List.set_cons_succ, List.getElem_toArray, List.getElem_cons_zero, List.getElem_cons_succ]
  refine Seq.take_lat (i := 15) (v := ?_) rfl (by kernel_rfl) (by kernel_rfl) (by kernel_rfl) (fun _ _ _ h => h) (by rfl) ?_ ?_
  rotate_left
  · intro w' hLat; change Below _ _ _ at hLat; go_simp <;> with_reducible rfl
  try simp only [Act.put, List.setIfInBounds_toArray, List.set_cons_zero, List.set_cons_succ, List.getElem_toArray, List.getElem_cons_zero, List.getElem_cons_succ]
  refine Seq.take_lat (i := 16) (v := .agg (av Z)) rfl (by kernel_rfl) (by kernel_rfl) (by kernel_rfl) (fun _ _ _ h => h) (by rfl) (fun w' hLat => exec_cell (.tmp 9) rfl Gz rfl Z HO.out.2 (HX1.out.1.lz.below hLat)) ?_
  try simp only [Act.put, List.setIfInBounds_toArray, List.set_cons_zero, List.set_cons_succ, List.getElem_toArray, List.getElem_cons_zero, List.getElem_cons_succ]
  refine Seq.take_lat (i := 17) (v := .agg (av Z)) rfl (by kernel_rfl) (by kernel_rfl) (by kernel_rfl) (fun _ _ _ h => h) (by rfl) (fun w' hLat => exec_cell (.tmp 11) rfl Gw rfl Z HO.out.2 (HX1.out.1.lw.below hLat)) ?_
  try simp only [Act.put, List.setIfInBounds_toArray, List.set_cons_zero, List.set_cons_succ, List.getElem_toArray, List.getElem_cons_zero, List.getElem_cons_succ]
  refine Seq.take_lat (i := 18) (v := .bool false) rfl (by kernel_rfl) (by kernel_rfl) (by kernel_rfl) (fun _ _ _ h => h) (by rfl) (fun w' hLat => exec_neS (.tmp 52) (.tmp 53) _ rfl Z HO.out.2 rfl rfl) ?_
  try simp only [Act.put, List.setIfInBounds_toArray, List.set_cons_zero, List.set_cons_succ, List.getElem_toArray, List.getElem_cons_zero, List.getElem_cons_succ]
  refine Seq.take_lat (i := 19) (v := ?_) rfl (by kernel_rfl) (by kernel_rfl) (by kernel_rfl) (fun _ _ _ h => h) (by rfl) ?_ ?_
  rotate_left
  · intro w' hLat; change Below _ _ _ at hLat; go_simp <;> with_reducible rfl
  try simp only [Act.put, List.setIfInBounds_toArray, List.set_cons_zero, List.set_cons_succ, List.getElem_toArray, List.getElem_cons_zero, List.getElem_cons_succ]
  refine Seq.take_lat (i := 20) (v := ?_) rfl (by kernel_rfl) (by kernel_rfl) (by kernel_rfl) (fun _ _ _ h => h) (by rfl) ?_ ?_
  rotate_left
  · intro w' hLat; change Below _ _ _ at hLat; go_simp <;> with_reducible rfl
  try simp only [Act.put, List.setIfInBounds_toArray, List.set_cons_zero, List.set_cons_succ, List.getElem_toArray, List.getElem_cons_zero, List.getElem_cons_succ]
  refine Seq.take_lat (i := 21) (v := ?_) rfl (by kernel_rfl) (by kernel_rfl) (by kernel_rfl) (fun _ _ _ h => h) (by rfl) ?_ ?_
  rotate_left
  · intro w' hLat; change Below _ _ _ at hLat; go_simp <;> with_reducible rfl
  try simp only [Act.put, List.setIfInBounds_toArray, List.set_cons_zero, List.set_cons_succ, List.getElem_toArray, List.getElem_cons_zero, List.getElem_cons_succ]
  refine Seq.take_lat (i := 22) (v := ?_) rfl (by kernel_rfl) (by kernel_rfl) (by kernel_rfl) (fun _ _ _ h => h) (by rfl) ?_ ?_
  rotate_left
  · intro w' hLat; change Below _ _ _ at hLat; go_simp <;> with_reducible rfl
  try simp only [Act.put, List.setIfInBounds_toArray, List.set_cons_zero, List.set_cons_succ, List.getElem_toArray, List.getElem_cons_zero, List.getElem_cons_succ]
  refine Seq.take_lat (i := 23) (v := ?_) rfl (by kernel_rfl) (by kernel_rfl) (by kernel_rfl) (fun _ _ _ h => h) (by rfl) ?_ ?_
  rotate_left
  · intro w' hLat; change Below _ _ _ at hLat; go_simp <;> with_reducible rfl
  try simp only [Act.put, List.setIfInBounds_toArray, List.set_cons_zero, List.set_cons_succ, List.getElem_toArray, List.getElem_cons_zero, List.getElem_cons_succ]
  refine Seq.take_lat (i := 24) (v := ?_) rfl (by kernel_rfl) (by kernel_rfl) (by kernel_rfl) (fun _ _ _ h => h) (by rfl) ?_ ?_
  rotate_left
  · intro w' hLat; change Below _ _ _ at hLat; go_simp <;> with_reducible rfl
  try simp only [Act.put, List.setIfInBounds_toArray, List.set_cons_zero, List.set_cons_succ, List.getElem_toArray, List.getElem_cons_zero, List.getElem_cons_succ]
  refine wpAnyH_done (by kernel_rfl) ?_ _
  go_upto_region 12 with fail
  refine Seq.begin_any (by kernel_rfl) (fun wd hd => ?_)
  have HU0 : Box (Cy w wd S Gy Gz Gw ax C Z) := ⟨HX1.out.1.on hd⟩
  clear hd
  refine Seq.take_lat (i := 0) (v := ?_) rfl (by kernel_rfl) (by kernel_rfl) (by kernel_rfl) (fun _ _ _ h => h) (by rfl) ?_ ?_
  rotate_left
  · intro w' hLat; change Below _ _ _ at hLat; go_simp <;> with_reducible rfl
  try simp only [Act.put, List.setIfInBounds_toArray, List.set_cons_zero, List.set_cons_succ, List.getElem_toArray, List.getElem_cons_zero]
  refine Seq.take_lat (i := 1) (v := ?_) rfl (by kernel_rfl) (by kernel_rfl) (by kernel_rfl) (fun _ _ _ h => h) (by rfl) ?_ ?_
  rotate_left
  · intro w' hLat; change Below _ _ _ at hLat; go_simp <;> with_reducible rfl
  try simp only [Act.put, List.setIfInBounds_toArray, List.set_cons_zero, List.set_cons_succ, List.getElem_toArray, List.getElem_cons_zero, List.getElem_cons_succ]
  refine Seq.take_lat (i := 2) (v := ?_) rfl (by kernel_rfl) (by kernel_rfl) (by kernel_rfl) (fun _ _ _ h => h) (by rfl) ?_ ?_
  rotate_left
  · intro w' hLat; change Below _ _ _ at hLat; go_simp <;> with_reducible rfl
  try simp only [Act.put, List.setIfInBounds_toArray, List.set_cons_zero, List.set_cons_succ, List.getElem_toArray, List.getElem_cons_zero, List.getElem_cons_succ]
  refine Seq.pass_lat (i := 3) rfl (by kernel_rfl) (by kernel_rfl) (by kernel_rfl) (fun _ _ _ h => h) (by rfl) ?_
  try simp only [Act.put, List.setIfInBounds_toArray, List.set_cons_zero, List.set_cons_succ, List.getElem_toArray, List.getElem_cons_zero, List.getElem_cons_succ]
  refine Seq.pass_lat (i := 4) rfl (by kernel_rfl) (by kernel_rfl) (by kernel_rfl) (fun _ _ _ h => h) (by rfl) ?_
  try simp only [Act.put, List.setIfInBounds_toArray, List.set_cons_zero, List.set_cons_succ, List.getElem_toArray, List.getElem_cons_zero, List.getElem_cons_succ]
  refine Seq.pass_lat (i := 5) rfl (by kernel_rfl) (by kernel_rfl) (by kernel_rfl) (fun _ _ _ h => h) (by rfl) ?_
  try simp only [Act.put, List.setIfInBounds_toArray, List.set_cons_zero, List.set_cons_succ, List.getElem_toArray, List.getElem_cons_zero, List.getElem_cons_succ]
  refine Seq.pass_lat (i := 6) rfl (by kernel_rfl) (by kernel_rfl) (by kernel_rfl) (fun _ _ _ h => h) (by rfl) ?_
  try simp only [Act.put, List.setIfInBounds_toArray, List.set_cons_zero, List.set_cons_succ, List.getElem_toArray, List.getElem_cons_zero, List.getElem_cons_succ]
  refine Seq.pass_lat (i := 7) rfl (by kernel_rfl) (by kernel_rfl) (by kernel_rfl) (fun _ _ _ h => h) (by rfl) ?_
  try simp only [Act.put, List.setIfInBounds_toArray, List.set_cons_zero, List.set_cons_succ, List.getElem_toArray, List.getElem_cons_zero, List.getElem_cons_succ]
  refine Seq.pass_lat (i := 8) rfl (by kernel_rfl) (by kernel_rfl) (by kernel_rfl) (fun _ _ _ h => h) (by rfl) ?_
  try simp only [Act.put, List.setIfInBounds_toArray, List.set_cons_zero, List.set_cons_succ, List.getElem_toArray, List.getElem_cons_zero, List.getElem_cons_succ]
  refine Seq.take_lat (i := 9) (v := ?_) rfl (by kernel_rfl) (by kernel_rfl) (by kernel_rfl) (fun _ _ _ h => h) (by rfl) ?_ ?_
  rotate_left
  · intro w' hLat; change Below _ _ _ at hLat; go_simp <;> with_reducible rfl
  try simp only [Act.put, List.setIfInBounds_toArray, List.set_cons_zero, List.set_cons_succ, List.getElem_toArray, List.getElem_cons_zero, List.getElem_cons_succ]
  refine Seq.take_lat (i := 10) (v := ?_) rfl (by kernel_rfl) (by kernel_rfl) (by kernel_rfl) (fun _ _ _ h => h) (by rfl) ?_ ?_
  rotate_left
  · intro w' hLat; change Below _ _ _ at hLat; go_simp <;> with_reducible rfl
  try simp only [Act.put, List.setIfInBounds_toArray, List.set_cons_zero, List.set_cons_succ, List.getElem_toArray, List.getElem_cons_zero, List.getElem_cons_succ]
  refine wpAnyH_done (by kernel_rfl) ?_ _
  go_wp2
  go_ret
  exact ⟨rfl, HU0.out.bel⟩

set_option maxRecDepth 20000 in
set_option maxHeartbeats 2000000 in
theorem cbytes_ok (C Z : Cl) (b : Option Addr) (lb cap : Nat) (L : List Int) (w : World) (hC : Ok C) (hZ : Ok Z) (hB : Bytes w b lb L) (hm : lb ≤ 300) (hl : lb = 96) (hcap : 96 ≤ cap) (hz : ofB L = Z) : Calls Try.prog 3 #[.agg (av C), .slice b lb cap] w fun e w' => e = .returned (.bool true) ∧ Below w.heap.size w w' := by
  have d1 : ¬ 300 < (lb : Int) := by omega
  obtain ⟨S, hS⟩ : ∃ S, w.heap.size = S := ⟨_, rfl⟩
  have HS : Box (w.heap.size = S) := ⟨hS⟩
  have HO : Box (Ok C ∧ Ok Z) := ⟨hC, hZ⟩
  have HY : Box (Byt (cb C)) := ⟨byt_cb hC⟩
  have HCC : Box (ofB (cb C) = C) := ⟨ofB_cb hC⟩
  have HN : Box ((vs C).length = 68) := ⟨len_vs hC⟩
  have HB : Box (∀ x, Below w.heap.size w x → Bytes x b lb L) := ⟨fun x hx => hB.below hx⟩
  have H0 : Box (Lies (w.alloc (.cells (av C) 26)) S C ∧ Below w.heap.size w (w.alloc (.cells (av C) 26))) := ⟨hS ▸ lies_new w C, (Below.refl _ _).alloc (Nat.le_refl _) _⟩
  have HG : Box (∀ x, Below w.heap.size w x → Calls Try.prog 9 #[.slice b lb cap] x fun e w' => e = .returned (.tuple #[.agg (av Z), .int .i64 0]) ∧ Below x.heap.size x w') := ⟨fun x hx => by subst hl; subst hz; exact cget_ok b cap L x (HB.out x hx) hcap⟩
  have HW : Box (∀ x, Below w.heap.size w x → Calls Try.prog 10 #[.slice b lb cap] x fun e w' => e = .returned (.tuple #[.agg (av Z), .int .i64 0]) ∧ Below x.heap.size x w') := ⟨fun x hx => by subst hl; subst hz; exact rcget_ok b cap L x (HB.out x hx)⟩
  have HZL : Box (cb Z = L) := ⟨by rw [← hz]; exact cb_ofB L hB.2.1 (hB.1.trans hl)⟩
  have HYZ : Box (Byt (cb Z)) := ⟨byt_cb hZ⟩
  clear hl hcap hz
  clear hS hB hC hZ hm
  go_enter Try.func3, Try.ntmps3
  go_upto_region 1 with fail
  rw [HS.out]
  generalize w.alloc (.cells (av C) 26) = w0 at H0 ⊢
  go_upto_region 10 with (first
    | (refine wpList_newC w5 Z HO.out.2 rfl _ _ rfl rfl rfl rfl ?_; intro z5 hz hb; have H5 : Box (Cy w z5 S w3.heap.size w4.heap.size w5.heap.size ax C Z) := ⟨H5x.out.1.below hb, H5x.out.2.1.below hb, H5x.out.2.2.1.below hb, H5x.out.2.2.2.1.below hb, hz, below_to H5x.out.2.2.2.2 hb⟩; clear hz hb)
    | (go_at_call 10; refine Calls.mono (HW.out z4 H4.out.2.2.2.2) ?_; rintro e w5 ⟨rfl, hb⟩; have H5x : Box (Lies w5 S C ∧ Bytes w5 ax 96 (cb C) ∧ Lies w5 w3.heap.size C ∧ Lies w5 w4.heap.size Z ∧ Below w.heap.size w w5) := ⟨H4.out.1.below hb, H4.out.2.1.below hb, H4.out.2.2.1.below hb, H4.out.2.2.2.1.below hb, below_to H4.out.2.2.2.2 hb⟩; clear hb)
    | (refine wpList_newC w4 Z HO.out.2 rfl _ _ rfl rfl rfl rfl ?_; intro z4 hz hb; have H4 : Box (Lies z4 S C ∧ Bytes z4 ax 96 (cb C) ∧ Lies z4 w3.heap.size C ∧ Lies z4 w4.heap.size Z ∧ Below w.heap.size w z4) := ⟨H4x.out.1.below hb, H4x.out.2.1.below hb, H4x.out.2.2.1.below hb, hz, below_to H4x.out.2.2.2 hb⟩; clear hz hb)
    | (go_at_call 9; refine Calls.mono (HG.out z3 H3.out.2.2.2) ?_; rintro e w4 ⟨rfl, hb⟩; have H4x : Box (Lies w4 S C ∧ Bytes w4 ax 96 (cb C) ∧ Lies w4 w3.heap.size C ∧ Below w.heap.size w w4) := ⟨H3.out.1.below hb, H3.out.2.1.below hb, H3.out.2.2.1.below hb, below_to H3.out.2.2.2 hb⟩; clear hb)
    | (refine wpList_newC w3 C HO.out.1 rfl _ _ rfl rfl rfl rfl ?_; intro z3 hz hb; have H3 : Box (Lies z3 S C ∧ Bytes z3 ax 96 (cb C) ∧ Lies z3 w3.heap.size C ∧ Below w.heap.size w z3) := ⟨H3x.out.1.below hb, H3x.out.2.1.below hb, hz, below_to H3x.out.2.2 hb⟩; clear hz hb)
    | (refine wpList_run rfl _ _ (exec_alloc 26 rfl _ zeroC) ?_)
    | (go_at_call 9; refine Calls.mono (cget_ok ax cx (cb C) w2 H2.out.2.1 H2.out.2.2.1) ?_; rintro e w3 ⟨rfl, hb⟩; rw [HCC.out]; have H3x : Box (Lies w3 S C ∧ Bytes w3 ax 96 (cb C) ∧ Below w.heap.size w w3) := ⟨H2.out.1.below hb, H2.out.2.1.below hb, below_to H2.out.2.2.2 hb⟩; clear hb)
    | (go_at_call 8; refine Calls.mono (cput_any C w1 HO.out.1) ?_; rintro e w2 ⟨ax, cx, rfl, hX, hcx, -, hb⟩; have H2 : Box (Lies w2 S C ∧ Bytes w2 ax 96 (cb C) ∧ 96 ≤ cx ∧ Below w.heap.size w w2) := ⟨H1.out.1.below hb, hX, hcx, below_to H1.out.2 hb⟩; clear hX hcx hb)
    | (refine wpList_load_mid rfl 26 _ rfl S 0 rfl (vs C) _ (range_vs H1.out.1) Try.underlying26 rfl (by rw [HN.out]; exact infoC) ?_)
    | (go_at_call 7; refine Calls.mono (awake_any w0) ?_; rintro e w1 ⟨rfl, hb⟩; have H1 : Box (Lies w1 S C ∧ Below w.heap.size w w1) := ⟨H0.out.1.below hb, below_to H0.out.2 hb⟩; clear hb))
  generalize w3.heap.size = Gy at H5 ⊢
  generalize w4.heap.size = Gz at H5 ⊢
  generalize w5.heap.size = Gw at H5 ⊢
  clear H0 H1 H2 H3x H3 H4x H4 H5x
  refine Seq.begin_any (by kernel_rfl) (fun wd hd => ?_)
  have HX0 : Box (Cy w wd S Gy Gz Gw ax C Z) := ⟨H5.out.on hd⟩
  clear hd
  refine Seq.take_lat (i := 0) (v := ?_) rfl (by kernel_rfl) (by kernel_rfl) (by kernel_rfl) (fun _ _ _ h => h) (by rfl) ?_ ?_
  rotate_left
  · intro w' hLat; change Below _ _ _ at hLat; go_simp <;> with_reducible rfl
  try simp only [Act.put, List.setIfInBounds_toArray, List.set_cons_zero, List.set_cons_succ, List.getElem_toArray, List.getElem_cons_zero]
  refine Seq.take_lat (i := 1) (v := .string (strOfNums (cb C))) rfl (by kernel_rfl) (by kernel_rfl) (by kernel_rfl) (fun _ _ _ h => h) (by rfl) (fun w' hLat => exec_conv (.tmp 36) rfl rfl (HX0.out.bx.below hLat)) ?_
  try simp only [Act.put, List.setIfInBounds_toArray, List.set_cons_zero, List.set_cons_succ, List.getElem_toArray, List.getElem_cons_zero, List.getElem_cons_succ]
  refine Seq.take_lat (i := 2) (v := .agg (av C)) rfl (by kernel_rfl) (by kernel_rfl) (by kernel_rfl) (fun _ _ _ h => h) (by rfl) (fun w' hLat => exec_cell (.tmp 2) rfl S rfl C HO.out.1 (HX0.out.lc.below hLat)) ?_
  try simp only [Act.put, List.setIfInBounds_toArray, List.set_cons_zero, List.set_cons_succ, List.getElem_toArray, List.getElem_cons_zero, List.getElem_cons_succ]
  refine Seq.only_lat (i := 3) rfl (by kernel_rfl) (fun KK hK => ?_)
  rw [if_pos (by rfl)]
  go_simp
  refine Calls.mono (rcput_any C wd HO.out.1) ?_
  rintro e y3 ⟨a3, c3, rfl, hB, hb⟩
  have HX1 : Box (Cy w y3 S Gy Gz Gw ax C Z ∧ Bytes y3 a3 96 (cb C)) := ⟨HX0.out.on hb, hB⟩
  refine hK.out _ _ hb ?_
  clear hb hB
  clear hK KK
  try simp only [Act.put, List.setIfInBounds_toArray, List.set_cons_zero, List.set_cons_succ, List.getElem_toArray, List.getElem_cons_zero, List.getElem_cons_succ]
  refine Seq.take_lat (i := 4) (v := .string (strOfNums (cb C))) rfl (by kernel_rfl) (by kernel_rfl) (by kernel_rfl) (fun _ _ _ h => h) (by rfl) (fun w' hLat => exec_conv (.tmp 39) rfl rfl (HX1.out.2.below hLat)) ?_
  try simp only [Act.put, List.setIfInBounds_toArray, List.set_cons_zero, List.set_cons_succ, List.getElem_toArray, List.getElem_cons_zero, List.getElem_cons_succ]
  refine Seq.take_lat (i := 5) (v := .bool false) rfl (by kernel_rfl) (by kernel_rfl) (by kernel_rfl) (fun _ _ _ h => h) (by rfl) (fun w' hLat => exec_strF (.tmp 37) (.tmp 40) _ rfl (cb C) HY.out rfl rfl) ?_
  try simp only [Act.put, List.setIfInBounds_toArray, List.set_cons_zero, List.set_cons_succ, List.getElem_toArray, List.getElem_cons_zero, List.getElem_cons_succ]
  refine Seq.take_lat (i := 6) (v := ?_) rfl (by kernel_rfl) (by kernel_rfl) (by kernel_rfl) (fun _ _ _ h => h) (by rfl) ?_ ?_
  rotate_left
  · intro w' hLat; change Below _ _ _ at hLat; go_simp <;> with_reducible rfl
  try simp only [Act.put, List.setIfInBounds_toArray, List.set_cons_zero, List.set_cons_succ, List.getElem_toArray, List.getElem_cons_zero, List.getElem_cons_succ]
  refine Seq.take_lat (i := 7) (v := .agg (av C)) rfl (by kernel_rfl) (by kernel_rfl) (by kernel_rfl) (fun _ _ _ h => h) (by rfl) (fun w' hLat => exec_cell (.tmp 7) rfl Gy rfl C HO.out.1 (HX1.out.1.ly.below hLat)) ?_
  try simp only [Act.put, List.setIfInBounds_toArray, List.set_cons_zero, List.set_cons_succ, List.getElem_toArray, List.getElem_cons_zero, List.getElem_cons_succ]
  refine Seq.take_lat (i := 8) (v := .agg (av C)) rfl (by kernel_rfl) (by kernel_rfl) (by kernel_rfl) (fun _ _ _ h => h) (by rfl) (fun w' hLat => exec_cell (.tmp 2) rfl S rfl C HO.out.1 (HX1.out.1.lc.below hLat)) ?_
  try simp only [Act.put, List.setIfInBounds_toArray, List.set_cons_zero, List.set_cons_succ, List.getElem_toArray, List.getElem_cons_zero, List.getElem_cons_succ]
  refine Seq.take_lat (i := 9) (v := .bool false) rfl (by kernel_rfl) (by kernel_rfl) (by kernel_rfl) (fun _ _ _ h => h) (by rfl) (fun w' hLat => exec_neS (.tmp 43) (.tmp 44) _ rfl C HO.out.1 rfl rfl) ?_
  try simp only [Act.put, List.setIfInBounds_toArray, List.set_cons_zero, List.set_cons_succ, List.getElem_toArray, List.getElem_cons_zero, List.getElem_cons_succ]
  refine Seq.take_lat (i := 10) (v := ?_) rfl (by kernel_rfl) (by kernel_rfl) (by kernel_rfl) (fun _ _ _ h => h) (by rfl) ?_ ?_
  rotate_left
  · intro w' hLat; change Below _ _ _ at hLat; go_simp <;> with_reducible rfl
  try simp only [Act.put, List.setIfInBounds_toArray, List.set_cons_zero, List.set_cons_succ, List.getElem_toArray, List.getElem_cons_zero, List.getElem_cons_succ]
  refine Seq.take_lat (i := 11) (v := ?_) rfl (by kernel_rfl) (by kernel_rfl) (by kernel_rfl) (fun _ _ _ h => h) (by rfl) ?_ ?_
  rotate_left
  · intro w' hLat; change Below _ _ _ at hLat; go_simp <;> with_reducible rfl
  try simp only [Act.put, List.setIfInBounds_toArray, List.set_cons_zero, List.set_cons_succ, List.getElem_toArray, List.getElem_cons_zero, List.getElem_cons_succ]
  refine Seq.take_lat (i := 12) (v := ?_) rfl (by kernel_rfl) (by kernel_rfl) (by kernel_rfl) (fun _ _ _ h => h) (by rfl) ?_ ?_
  rotate_left
  · intro w' hLat; change Below _ _ _ at hLat; go_simp <;> with_reducible rfl
  try simp only [Act.put, List.setIfInBounds_toArray, List.set_cons_zero, List.set_cons_succ, List.getElem_toArray, List.getElem_cons_zero, List.getElem_cons_succ]
  refine Seq.take_lat (i := 13) (v := ?_) rfl (by kernel_rfl) (by kernel_rfl) (by kernel_rfl) (fun _ _ _ h => h) (by rfl) ?_ ?_
  rotate_left
  · intro w' hLat; change Below _ _ _ at hLat; go_simp <;> with_reducible rfl
  try simp only [Act.put, List.setIfInBounds_toArray, List.set_cons_zero, List.set_cons_succ, List.getElem_toArray, List.getElem_cons_zero, List.getElem_cons_succ]
  refine Seq.take_lat (i := 14) (v := ?_) rfl (by kernel_rfl) (by kernel_rfl) (by kernel_rfl) (fun _ _ _ h => h) (by rfl) ?_ ?_
  rotate_left
  · intro w' hLat; change Below _ _ _ at hLat; go_simp <;> with_reducible rfl
  try simp only [Act.put, List.setIfInBounds_toArray, List.set_cons_zero, List.set_cons_succ, List.getElem_toArray, List.getElem_cons_zero, List.getElem_cons_succ]
  refine Seq.take_lat (i := 15) (v := ?_) rfl (by kernel_rfl) (by kernel_rfl) (by kernel_rfl) (fun _ _ _ h => h) (by rfl) ?_ ?_
  rotate_left
  · intro w' hLat; change Below _ _ _ at hLat; go_simp <;> with_reducible rfl
  try simp only [Act.put, List.setIfInBounds_toArray, List.set_cons_zero, List.set_cons_succ, List.getElem_toArray, List.getElem_cons_zero, List.getElem_cons_succ]
  refine Seq.take_lat (i := 16) (v := .agg (av Z)) rfl (by kernel_rfl) (by kernel_rfl) (by kernel_rfl) (fun _ _ _ h => h) (by rfl) (fun w' hLat => exec_cell (.tmp 9) rfl Gz rfl Z HO.out.2 (HX1.out.1.lz.below hLat)) ?_
  try simp only [Act.put, List.setIfInBounds_toArray, List.set_cons_zero, List.set_cons_succ, List.getElem_toArray, List.getElem_cons_zero, List.getElem_cons_succ]
  refine Seq.take_lat (i := 17) (v := .agg (av Z)) rfl (by kernel_rfl) (by kernel_rfl) (by kernel_rfl) (fun _ _ _ h => h) (by rfl) (fun w' hLat => exec_cell (.tmp 11) rfl Gw rfl Z HO.out.2 (HX1.out.1.lw.below hLat)) ?_
  try simp only [Act.put, List.setIfInBounds_toArray, List.set_cons_zero, List.set_cons_succ, List.getElem_toArray, List.getElem_cons_zero, List.getElem_cons_succ]
  refine Seq.take_lat (i := 18) (v := .bool false) rfl (by kernel_rfl) (by kernel_rfl) (by kernel_rfl) (fun _ _ _ h => h) (by rfl) (fun w' hLat => exec_neS (.tmp 52) (.tmp 53) _ rfl Z HO.out.2 rfl rfl) ?_
  try simp only [Act.put, List.setIfInBounds_toArray, List.set_cons_zero, List.set_cons_succ, List.getElem_toArray, List.getElem_cons_zero, List.getElem_cons_succ]
  refine Seq.take_lat (i := 19) (v := ?_) rfl (by kernel_rfl) (by kernel_rfl) (by kernel_rfl) (fun _ _ _ h => h) (by rfl) ?_ ?_
  rotate_left
  · intro w' hLat; change Below _ _ _ at hLat; go_simp <;> with_reducible rfl
  try simp only [Act.put, List.setIfInBounds_toArray, List.set_cons_zero, List.set_cons_succ, List.getElem_toArray, List.getElem_cons_zero, List.getElem_cons_succ]
  refine Seq.take_lat (i := 20) (v := ?_) rfl (by kernel_rfl) (by kernel_rfl) (by kernel_rfl) (fun _ _ _ h => h) (by rfl) ?_ ?_
  rotate_left
  · intro w' hLat; change Below _ _ _ at hLat; go_simp <;> with_reducible rfl
  try simp only [Act.put, List.setIfInBounds_toArray, List.set_cons_zero, List.set_cons_succ, List.getElem_toArray, List.getElem_cons_zero, List.getElem_cons_succ]
  refine Seq.take_lat (i := 21) (v := ?_) rfl (by kernel_rfl) (by kernel_rfl) (by kernel_rfl) (fun _ _ _ h => h) (by rfl) ?_ ?_
  rotate_left
  · intro w' hLat; change Below _ _ _ at hLat; go_simp <;> with_reducible rfl
  try simp only [Act.put, List.setIfInBounds_toArray, List.set_cons_zero, List.set_cons_succ, List.getElem_toArray, List.getElem_cons_zero, List.getElem_cons_succ]
  refine Seq.take_lat (i := 22) (v := ?_) rfl (by kernel_rfl) (by kernel_rfl) (by kernel_rfl) (fun _ _ _ h => h) (by rfl) ?_ ?_
  rotate_left
  · intro w' hLat; change Below _ _ _ at hLat; go_simp <;> with_reducible rfl
  try simp only [Act.put, List.setIfInBounds_toArray, List.set_cons_zero, List.set_cons_succ, List.getElem_toArray, List.getElem_cons_zero, List.getElem_cons_succ]
  refine Seq.take_lat (i := 23) (v := ?_) rfl (by kernel_rfl) (by kernel_rfl) (by kernel_rfl) (fun _ _ _ h => h) (by rfl) ?_ ?_
  rotate_left
  · intro w' hLat; change Below _ _ _ at hLat; go_simp <;> with_reducible rfl
  try simp only [Act.put, List.setIfInBounds_toArray, List.set_cons_zero, List.set_cons_succ, List.getElem_toArray, List.getElem_cons_zero, List.getElem_cons_succ]
  refine Seq.take_lat (i := 24) (v := ?_) rfl (by kernel_rfl) (by kernel_rfl) (by kernel_rfl) (fun _ _ _ h => h) (by rfl) ?_ ?_
  rotate_left
  · intro w' hLat; change Below _ _ _ at hLat; go_simp <;> with_reducible rfl
  try simp only [Act.put, List.setIfInBounds_toArray, List.set_cons_zero, List.set_cons_succ, List.getElem_toArray, List.getElem_cons_zero, List.getElem_cons_succ]
  refine wpAnyH_done (by kernel_rfl) ?_ _
  go_upto_region 12 with fail
  refine Seq.begin_any (by kernel_rfl) (fun wd hd => ?_)
  have HU0 : Box (Cy w wd S Gy Gz Gw ax C Z) := ⟨HX1.out.1.on hd⟩
  clear hd
  refine Seq.take_lat (i := 0) (v := ?_) rfl (by kernel_rfl) (by kernel_rfl) (by kernel_rfl) (fun _ _ _ h => h) (by rfl) ?_ ?_
  rotate_left
  · intro w' hLat; change Below _ _ _ at hLat; go_simp <;> with_reducible rfl
  try simp only [Act.put, List.setIfInBounds_toArray, List.set_cons_zero, List.set_cons_succ, List.getElem_toArray, List.getElem_cons_zero]
  refine Seq.take_lat (i := 1) (v := ?_) rfl (by kernel_rfl) (by kernel_rfl) (by kernel_rfl) (fun _ _ _ h => h) (by rfl) ?_ ?_
  rotate_left
  · intro w' hLat; change Below _ _ _ at hLat; go_simp <;> with_reducible rfl
  try simp only [Act.put, List.setIfInBounds_toArray, List.set_cons_zero, List.set_cons_succ, List.getElem_toArray, List.getElem_cons_zero, List.getElem_cons_succ]
  refine Seq.take_lat (i := 2) (v := ?_) rfl (by kernel_rfl) (by kernel_rfl) (by kernel_rfl) (fun _ _ _ h => h) (by rfl) ?_ ?_
  rotate_left
  · intro w' hLat; change Below _ _ _ at hLat; go_simp <;> with_reducible rfl
  try simp only [Act.put, List.setIfInBounds_toArray, List.set_cons_zero, List.set_cons_succ, List.getElem_toArray, List.getElem_cons_zero, List.getElem_cons_succ]
  refine Seq.take_lat (i := 3) (v := .agg (av Z)) rfl (by kernel_rfl) (by kernel_rfl) (by kernel_rfl) (fun _ _ _ h => h) (by rfl) (fun w' hLat => exec_cell (.tmp 9) rfl Gz rfl Z HO.out.2 (HU0.out.lz.below hLat)) ?_
  try simp only [Act.put, List.setIfInBounds_toArray, List.set_cons_zero, List.set_cons_succ, List.getElem_toArray, List.getElem_cons_zero, List.getElem_cons_succ]
  refine Seq.take_lat (i := 6) (v := ?_) rfl (by kernel_rfl) (by kernel_rfl) (by kernel_rfl) (fun _ _ _ h => h) (by rfl) ?_ ?_
  rotate_left
  · intro w' hLat; change Below _ _ _ at hLat; go_simp <;> with_reducible rfl
  try simp only [Act.put, List.setIfInBounds_toArray, List.set_cons_zero, List.set_cons_succ, List.getElem_toArray, List.getElem_cons_zero, List.getElem_cons_succ]
  refine Seq.take_lat (i := 7) (v := .string (strOfNums (cb Z))) rfl (by kernel_rfl) (by kernel_rfl) (by kernel_rfl) (fun _ _ _ h => h) (by rfl) (fun w' hLat => exec_conv (.tmp 67) rfl rfl (by rw [HZL.out]; exact (HB.out _ HU0.out.bel).below hLat)) ?_
  try simp only [Act.put, List.setIfInBounds_toArray, List.set_cons_zero, List.set_cons_succ, List.getElem_toArray, List.getElem_cons_zero, List.getElem_cons_succ]
  refine Seq.only_lat (i := 4) rfl (by kernel_rfl) (fun KK hK => ?_)
  rw [if_pos (by rfl)]
  go_simp
  refine Calls.mono (cput_any Z wd HO.out.2) ?_
  rintro e y4 ⟨a4, c4, rfl, hB, -, -, hb⟩
  have HU1 : Box (Cy w y4 S Gy Gz Gw ax C Z ∧ Bytes y4 a4 96 (cb Z)) := ⟨HU0.out.on hb, hB⟩
  refine hK.out _ _ hb ?_
  clear hb hB
  clear hK KK
  try simp only [Act.put, List.setIfInBounds_toArray, List.set_cons_zero, List.set_cons_succ, List.getElem_toArray, List.getElem_cons_zero, List.getElem_cons_succ]
  refine Seq.take_lat (i := 5) (v := .string (strOfNums (cb Z))) rfl (by kernel_rfl) (by kernel_rfl) (by kernel_rfl) (fun _ _ _ h => h) (by rfl) (fun w' hLat => exec_conv (.tmp 65) rfl rfl (HU1.out.2.below hLat)) ?_
  try simp only [Act.put, List.setIfInBounds_toArray, List.set_cons_zero, List.set_cons_succ, List.getElem_toArray, List.getElem_cons_zero, List.getElem_cons_succ]
  refine Seq.take_lat (i := 8) (v := .bool true) rfl (by kernel_rfl) (by kernel_rfl) (by kernel_rfl) (fun _ _ _ h => h) (by rfl) (fun w' hLat => exec_strT (.tmp 66) (.tmp 68) _ rfl (cb Z) HYZ.out rfl rfl) ?_
  try simp only [Act.put, List.setIfInBounds_toArray, List.set_cons_zero, List.set_cons_succ, List.getElem_toArray, List.getElem_cons_zero, List.getElem_cons_succ]
  refine Seq.take_lat (i := 9) (v := ?_) rfl (by kernel_rfl) (by kernel_rfl) (by kernel_rfl) (fun _ _ _ h => h) (by rfl) ?_ ?_
  rotate_left
  · intro w' hLat; change Below _ _ _ at hLat; go_simp <;> with_reducible rfl
  try simp only [Act.put, List.setIfInBounds_toArray, List.set_cons_zero, List.set_cons_succ, List.getElem_toArray, List.getElem_cons_zero, List.getElem_cons_succ]
  refine Seq.take_lat (i := 10) (v := ?_) rfl (by kernel_rfl) (by kernel_rfl) (by kernel_rfl) (fun _ _ _ h => h) (by rfl) ?_ ?_
  rotate_left
  · intro w' hLat; change Below _ _ _ at hLat; go_simp <;> with_reducible rfl
  try simp only [Act.put, List.setIfInBounds_toArray, List.set_cons_zero, List.set_cons_succ, List.getElem_toArray, List.getElem_cons_zero, List.getElem_cons_succ]
  refine wpAnyH_done (by kernel_rfl) ?_ _
  go_wp2
  go_ret
  exact ⟨rfl, HU1.out.1.bel⟩

theorem cellBytes_walk (C : Cl) (b : Option Addr) (lb cap : Nat) (zs : List Int) (w : World) (hC : Ok C) (hB : IsRow .u8 w b lb cap zs) : Calls Try.prog 3 #[.agg (av C), .slice b lb cap] w fun e w' => e = .returned (.bool true) ∧ Below w.heap.size w w' := by
  have hp := hB.pc
  have hl := hB.len
  by_cases h1 : 300 < lb
  · exact cbytes_far C b lb cap w hl h1
  · by_cases h2 : lb = 96
    · exact cbytes_ok C (ofB (zs.take lb)) b lb cap (zs.take lb) w hC (ok_ofB _ hp.1.2.1 (hp.1.1.trans h2)) hp.1 (by omega) h2 (by omega) rfl
    · exact cbytes_no C zc b lb cap (zs.take lb) w hC ok_zc hp.1 (by omega) h2 rfl
end Go.Proofs.Ytejpbbgnammgkaa
