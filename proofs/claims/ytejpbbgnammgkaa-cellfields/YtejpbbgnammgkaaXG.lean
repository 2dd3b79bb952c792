/-
  The walk of CellFields: each field of a cell stands at its place, and at no other.
-/
import Derived.Test.YtejpbbgnammgkaaXF2
namespace Go.Proofs.Ytejpbbgnammgkaa
set_option linter.unusedVariables false
open Go.RowKit Plain

set_option maxRecDepth 40000 in
set_option maxHeartbeats 4000000 in
theorem cellFields_walk (A B : Cl) (w : World) (hA : Ok A) (hB : Ok B) : Calls Try.prog 6 #[.agg (av A), .agg (av B)] w fun e w' => e = .returned (.bool true) ∧ Below w.heap.size w w' := by
  obtain ⟨S, hS⟩ : ∃ S, w.heap.size = S := ⟨_, rfl⟩
  have HS : Box (w.heap.size = S) := ⟨hS⟩
  have HO : Box (Ok A ∧ Ok B) := ⟨hA, hB⟩
  have HN : Box ((vs A).length = 68 ∧ (vs B).length = 68) := ⟨len_vs hA, len_vs hB⟩
  have H1 : Box (Lies ((w.alloc (.cells (av A) 26)).alloc (.cells (av B) 26)) S A ∧ Lies ((w.alloc (.cells (av A) 26)).alloc (.cells (av B) 26)) (S + 1) B ∧ Below w.heap.size w ((w.alloc (.cells (av A) 26)).alloc (.cells (av B) 26))) := ⟨al_old (al_at hS), al_at (by simp [hS]), ((Below.refl _ _).alloc (Nat.le_refl _) _).alloc (by simp) _⟩
  clear hS hA hB
  go_enter Try.func6, Try.ntmps6
  go_upto_region 1 with fail
  simp only [HS.out]
  generalize (w.alloc (.cells (av A) 26)).alloc (.cells (av B) 26) = w1 at H1 ⊢
  go_upto_region 6 with (first
    | (go_at_call 8; refine Calls.mono (cput_any B w3 HO.out.2) ?_; rintro e w4 ⟨a4, c2, rfl, hY, hcY, -, hb⟩; have H4 : Box (Bytes w4 a3 96 (cb A) ∧ 96 ≤ c1 ∧ Bytes w4 a4 96 (cb B) ∧ 96 ≤ c2 ∧ Lies w4 S A ∧ Lies w4 (S + 1) B ∧ Below w.heap.size w w4) := ⟨H3.out.1.below hb, H3.out.2.1, hY, hcY, H3.out.2.2.1.below hb, H3.out.2.2.2.1.below hb, below_to H3.out.2.2.2.2 hb⟩; clear hY hcY hb H3)
    | (refine wpList_load_mid rfl 26 _ rfl (S + 1) 0 rfl (vs B) _ (range_vs H3.out.2.2.2.1) Try.underlying26 rfl (by rw [HN.out.2]; exact infoC) ?_)
    | (go_at_call 8; refine Calls.mono (cput_any A w2 HO.out.1) ?_; rintro e w3 ⟨a3, c1, rfl, hX, hcX, -, hb⟩; have H3 : Box (Bytes w3 a3 96 (cb A) ∧ 96 ≤ c1 ∧ Lies w3 S A ∧ Lies w3 (S + 1) B ∧ Below w.heap.size w w3) := ⟨hX, hcX, H2.out.1.below hb, H2.out.2.1.below hb, below_to H2.out.2.2 hb⟩; clear hX hcX hb H2)
    | (refine wpList_load_mid rfl 26 _ rfl S 0 rfl (vs A) _ (range_vs H2.out.1) Try.underlying26 rfl (by rw [HN.out.1]; exact infoC) ?_)
    | (go_at_call 7; refine Calls.mono (awake_any w1) ?_; rintro e w2 ⟨rfl, hb⟩; have H2 : Box (Lies w2 S A ∧ Lies w2 (S + 1) B ∧ Below w.heap.size w w2) := ⟨H1.out.1.below hb, H1.out.2.1.below hb, below_to H1.out.2.2 hb⟩; clear hb H1))
  obtain ⟨b1, o1, rfl, -, -⟩ := H4.out.1.2.2 (by omega)
  obtain ⟨b2, o2, rfl, -, -⟩ := H4.out.2.2.1.2.2 (by omega)
  have HBX : Box (Bytes w4 (some ⟨b1, o1, none⟩) 96 (cb A)) := ⟨H4.out.1⟩
  have HBY : Box (Bytes w4 (some ⟨b2, o2, none⟩) 96 (cb B)) := ⟨H4.out.2.2.1⟩
  have HL : Box (Lies w4 S A ∧ Lies w4 (S + 1) B) := ⟨H4.out.2.2.2.2.1, H4.out.2.2.2.2.2.1⟩
  have HW : Box (Below w.heap.size w w4) := ⟨H4.out.2.2.2.2.2.2⟩
  have hX : 96 ≤ c1 := H4.out.2.1
  have hY : 96 ≤ c2 := H4.out.2.2.2.1
  clear H4
  have SX0 : ∀ x, (Instr.sliceAt 27 (.slice (some ⟨b1, o1, none⟩) 96 c1) none (some (.int .i64 32)) none).run Try.prog x = .ok (.slice (some ⟨b1, o1, none⟩) 32 c1) x := slice_h b1 o1 c1 hX 
  have SX1 : ∀ x, (Instr.sliceAt 27 (.slice (some ⟨b1, o1, none⟩) 96 c1) (some (.int .i64 32)) (some (.int .i64 40)) none).run Try.prog x = .ok (.slice (some ⟨b1, o1 + 32, none⟩) 8 (c1 - 32)) x := slice_lh b1 o1 c1 32 40 hX (by omega) (by omega)
  have SX2 : ∀ x, (Instr.sliceAt 27 (.slice (some ⟨b1, o1, none⟩) 96 c1) (some (.int .i64 40)) (some (.int .i64 48)) none).run Try.prog x = .ok (.slice (some ⟨b1, o1 + 40, none⟩) 8 (c1 - 40)) x := slice_lh b1 o1 c1 40 48 hX (by omega) (by omega)
  have SX3 : ∀ x, (Instr.sliceAt 27 (.slice (some ⟨b1, o1, none⟩) 96 c1) (some (.int .i64 48)) (some (.int .i64 56)) none).run Try.prog x = .ok (.slice (some ⟨b1, o1 + 48, none⟩) 8 (c1 - 48)) x := slice_lh b1 o1 c1 48 56 hX (by omega) (by omega)
  have SX4 : ∀ x, (Instr.sliceAt 27 (.slice (some ⟨b1, o1, none⟩) 96 c1) (some (.int .i64 56)) (some (.int .i64 64)) none).run Try.prog x = .ok (.slice (some ⟨b1, o1 + 56, none⟩) 8 (c1 - 56)) x := slice_lh b1 o1 c1 56 64 hX (by omega) (by omega)
  have SX5 : ∀ x, (Instr.sliceAt 27 (.slice (some ⟨b1, o1, none⟩) 96 c1) (some (.int .i64 64)) none none).run Try.prog x = .ok (.slice (some ⟨b1, o1 + 64, none⟩) 32 (c1 - 64)) x := slice_l b1 o1 c1 hX 
  have SY0 : ∀ x, (Instr.sliceAt 27 (.slice (some ⟨b2, o2, none⟩) 96 c2) none (some (.int .i64 32)) none).run Try.prog x = .ok (.slice (some ⟨b2, o2, none⟩) 32 c2) x := slice_h b2 o2 c2 hY 
  have SY1 : ∀ x, (Instr.sliceAt 27 (.slice (some ⟨b2, o2, none⟩) 96 c2) (some (.int .i64 32)) (some (.int .i64 40)) none).run Try.prog x = .ok (.slice (some ⟨b2, o2 + 32, none⟩) 8 (c2 - 32)) x := slice_lh b2 o2 c2 32 40 hY (by omega) (by omega)
  have SY2 : ∀ x, (Instr.sliceAt 27 (.slice (some ⟨b2, o2, none⟩) 96 c2) (some (.int .i64 40)) (some (.int .i64 48)) none).run Try.prog x = .ok (.slice (some ⟨b2, o2 + 40, none⟩) 8 (c2 - 40)) x := slice_lh b2 o2 c2 40 48 hY (by omega) (by omega)
  have SY3 : ∀ x, (Instr.sliceAt 27 (.slice (some ⟨b2, o2, none⟩) 96 c2) (some (.int .i64 48)) (some (.int .i64 56)) none).run Try.prog x = .ok (.slice (some ⟨b2, o2 + 48, none⟩) 8 (c2 - 48)) x := slice_lh b2 o2 c2 48 56 hY (by omega) (by omega)
  have SY4 : ∀ x, (Instr.sliceAt 27 (.slice (some ⟨b2, o2, none⟩) 96 c2) (some (.int .i64 56)) (some (.int .i64 64)) none).run Try.prog x = .ok (.slice (some ⟨b2, o2 + 56, none⟩) 8 (c2 - 56)) x := slice_lh b2 o2 c2 56 64 hY (by omega) (by omega)
  have SY5 : ∀ x, (Instr.sliceAt 27 (.slice (some ⟨b2, o2, none⟩) 96 c2) (some (.int .i64 64)) none none).run Try.prog x = .ok (.slice (some ⟨b2, o2 + 64, none⟩) 32 (c2 - 64)) x := slice_l b2 o2 c2 hY 
  have CX0 : ∀ m, (convert 27 9 (.slice (some ⟨b1, o1, none⟩) 32 c1)).run Try.prog (w4.drewN m) = .ok (.string (strOfNums A.r)) (w4.drewN m) := fun m => conv_bytes (bytes_drewN' (cut0 HO.out.1 HBX.out) m) _
  have CY0 : ∀ m, (convert 27 9 (.slice (some ⟨b2, o2, none⟩) 32 c2)).run Try.prog (w4.drewN m) = .ok (.string (strOfNums B.r)) (w4.drewN m) := fun m => conv_bytes (bytes_drewN' (cut0 HO.out.2 HBY.out) m) _
  have Q0 : ((strOfNums A.r).toList == (strOfNums B.r).toList) = decide (A.r = B.r) := str_beq _ _ HO.out.1.br HO.out.2.br
  have E0 : Box (∀ (o : Oper) (ρ : Operand → Value) (x : World) (p q : Operand) (ty : TypeId), o.op = .binOp .eql 23 p q ty → ρ p = .agg (u8s A.r) → ρ q = .agg (u8s B.r) → (execOp ρ o).run Try.prog x = .ok (.value (.bool (decide (A.r = B.r)))) x) := ⟨fun o ρ x p q ty h1 h2 h3 => exec_eqS p q ty h1 _ _ HO.out.1.lr HO.out.2.lr h2 h3⟩
  have LA0 : Box (∀ (o : Oper) (ρ : Operand → Value) (p : Operand) (x : World), (∃ n, x = w4.drewN n) → o.op = .load 23 p → ρ p = .pointer (some ⟨S, 0, none⟩) → (execOp ρ o).run Try.prog x = .ok (.value (.agg (u8s A.r))) x) := ⟨fun o ρ p x hx h1 h2 => exec_sum p h1 S 0 h2 _ (by obtain ⟨m, rfl⟩ := hx; exact bytes_drewN' (HL.out.1.root HO.out.1) m)⟩
  have LB0 : Box (∀ (o : Oper) (ρ : Operand → Value) (p : Operand) (x : World), (∃ n, x = w4.drewN n) → o.op = .load 23 p → ρ p = .pointer (some ⟨(S + 1), 0, none⟩) → (execOp ρ o).run Try.prog x = .ok (.value (.agg (u8s B.r))) x) := ⟨fun o ρ p x hx h1 h2 => exec_sum p h1 (S + 1) 0 h2 _ (by obtain ⟨m, rfl⟩ := hx; exact bytes_drewN' (HL.out.2.root HO.out.2) m)⟩
  generalize decide (A.r = B.r) = e0 at Q0 E0
  generalize strOfNums A.r = sa0 at CX0 Q0
  generalize strOfNums B.r = sb0 at CY0 Q0
  generalize u8s A.r = ra0 at LA0 E0
  generalize u8s B.r = rb0 at LB0 E0
  have CX1 : ∀ m, (convert 27 9 (.slice (some ⟨b1, o1 + 32, none⟩) 8 (c1 - 32))).run Try.prog (w4.drewN m) = .ok (.string (strOfNums (bytesOf A.v 8))) (w4.drewN m) := fun m => conv_bytes (bytes_drewN' (cut1 HO.out.1 HBX.out) m) _
  have CY1 : ∀ m, (convert 27 9 (.slice (some ⟨b2, o2 + 32, none⟩) 8 (c2 - 32))).run Try.prog (w4.drewN m) = .ok (.string (strOfNums (bytesOf B.v 8))) (w4.drewN m) := fun m => conv_bytes (bytes_drewN' (cut1 HO.out.2 HBY.out) m) _
  have Q1 : ((strOfNums (bytesOf A.v 8)).toList == (strOfNums (bytesOf B.v 8)).toList) = (A.v == B.v) := str_num _ _ HO.out.1.hv HO.out.2.hv
  have LA1 : w4.cell? ⟨S, 32, none⟩ = some (.int .u64 A.v) := HL.out.1.num HO.out.1 0 (by omega)
  have LB1 : w4.cell? ⟨S + 1, 32, none⟩ = some (.int .u64 B.v) := HL.out.2.num HO.out.2 0 (by omega)
  generalize hE1 : (A.v == B.v) = e1 at Q1
  generalize strOfNums (bytesOf A.v 8) = sa1 at CX1 Q1
  generalize strOfNums (bytesOf B.v 8) = sb1 at CY1 Q1
  have CX2 : ∀ m, (convert 27 9 (.slice (some ⟨b1, o1 + 40, none⟩) 8 (c1 - 40))).run Try.prog (w4.drewN m) = .ok (.string (strOfNums (bytesOf A.c 8))) (w4.drewN m) := fun m => conv_bytes (bytes_drewN' (cut2 HO.out.1 HBX.out) m) _
  have CY2 : ∀ m, (convert 27 9 (.slice (some ⟨b2, o2 + 40, none⟩) 8 (c2 - 40))).run Try.prog (w4.drewN m) = .ok (.string (strOfNums (bytesOf B.c 8))) (w4.drewN m) := fun m => conv_bytes (bytes_drewN' (cut2 HO.out.2 HBY.out) m) _
  have Q2 : ((strOfNums (bytesOf A.c 8)).toList == (strOfNums (bytesOf B.c 8)).toList) = (A.c == B.c) := str_num _ _ HO.out.1.hc HO.out.2.hc
  have LA2 : w4.cell? ⟨S, 33, none⟩ = some (.int .u64 A.c) := HL.out.1.num HO.out.1 1 (by omega)
  have LB2 : w4.cell? ⟨S + 1, 33, none⟩ = some (.int .u64 B.c) := HL.out.2.num HO.out.2 1 (by omega)
  generalize hE2 : (A.c == B.c) = e2 at Q2
  generalize strOfNums (bytesOf A.c 8) = sa2 at CX2 Q2
  generalize strOfNums (bytesOf B.c 8) = sb2 at CY2 Q2
  have CX3 : ∀ m, (convert 27 9 (.slice (some ⟨b1, o1 + 48, none⟩) 8 (c1 - 48))).run Try.prog (w4.drewN m) = .ok (.string (strOfNums (bytesOf A.s 8))) (w4.drewN m) := fun m => conv_bytes (bytes_drewN' (cut3 HO.out.1 HBX.out) m) _
  have CY3 : ∀ m, (convert 27 9 (.slice (some ⟨b2, o2 + 48, none⟩) 8 (c2 - 48))).run Try.prog (w4.drewN m) = .ok (.string (strOfNums (bytesOf B.s 8))) (w4.drewN m) := fun m => conv_bytes (bytes_drewN' (cut3 HO.out.2 HBY.out) m) _
  have Q3 : ((strOfNums (bytesOf A.s 8)).toList == (strOfNums (bytesOf B.s 8)).toList) = (A.s == B.s) := str_num _ _ HO.out.1.hs HO.out.2.hs
  have LA3 : w4.cell? ⟨S, 34, none⟩ = some (.int .u64 A.s) := HL.out.1.num HO.out.1 2 (by omega)
  have LB3 : w4.cell? ⟨S + 1, 34, none⟩ = some (.int .u64 B.s) := HL.out.2.num HO.out.2 2 (by omega)
  generalize hE3 : (A.s == B.s) = e3 at Q3
  generalize strOfNums (bytesOf A.s 8) = sa3 at CX3 Q3
  generalize strOfNums (bytesOf B.s 8) = sb3 at CY3 Q3
  have CX4 : ∀ m, (convert 27 9 (.slice (some ⟨b1, o1 + 56, none⟩) 8 (c1 - 56))).run Try.prog (w4.drewN m) = .ok (.string (strOfNums (bytesOf A.n 8))) (w4.drewN m) := fun m => conv_bytes (bytes_drewN' (cut4 HO.out.1 HBX.out) m) _
  have CY4 : ∀ m, (convert 27 9 (.slice (some ⟨b2, o2 + 56, none⟩) 8 (c2 - 56))).run Try.prog (w4.drewN m) = .ok (.string (strOfNums (bytesOf B.n 8))) (w4.drewN m) := fun m => conv_bytes (bytes_drewN' (cut4 HO.out.2 HBY.out) m) _
  have Q4 : ((strOfNums (bytesOf A.n 8)).toList == (strOfNums (bytesOf B.n 8)).toList) = (A.n == B.n) := str_num _ _ HO.out.1.hn HO.out.2.hn
  have LA4 : w4.cell? ⟨S, 35, none⟩ = some (.int .u64 A.n) := HL.out.1.num HO.out.1 3 (by omega)
  have LB4 : w4.cell? ⟨S + 1, 35, none⟩ = some (.int .u64 B.n) := HL.out.2.num HO.out.2 3 (by omega)
  generalize hE4 : (A.n == B.n) = e4 at Q4
  generalize strOfNums (bytesOf A.n 8) = sa4 at CX4 Q4
  generalize strOfNums (bytesOf B.n 8) = sb4 at CY4 Q4
  have CX5 : ∀ m, (convert 27 9 (.slice (some ⟨b1, o1 + 64, none⟩) 32 (c1 - 64))).run Try.prog (w4.drewN m) = .ok (.string (strOfNums A.t)) (w4.drewN m) := fun m => conv_bytes (bytes_drewN' (cut5 HO.out.1 HBX.out) m) _
  have CY5 : ∀ m, (convert 27 9 (.slice (some ⟨b2, o2 + 64, none⟩) 32 (c2 - 64))).run Try.prog (w4.drewN m) = .ok (.string (strOfNums B.t)) (w4.drewN m) := fun m => conv_bytes (bytes_drewN' (cut5 HO.out.2 HBY.out) m) _
  have Q5 : ((strOfNums A.t).toList == (strOfNums B.t).toList) = decide (A.t = B.t) := str_beq _ _ HO.out.1.bt HO.out.2.bt
  have E5 : Box (∀ (o : Oper) (ρ : Operand → Value) (x : World) (p q : Operand) (ty : TypeId), o.op = .binOp .eql 23 p q ty → ρ p = .agg (u8s A.t) → ρ q = .agg (u8s B.t) → (execOp ρ o).run Try.prog x = .ok (.value (.bool (decide (A.t = B.t)))) x) := ⟨fun o ρ x p q ty h1 h2 h3 => exec_eqS p q ty h1 _ _ HO.out.1.lt HO.out.2.lt h2 h3⟩
  have LA5 : Box (∀ (o : Oper) (ρ : Operand → Value) (p : Operand) (x : World), (∃ n, x = w4.drewN n) → o.op = .load 23 p → ρ p = .pointer (some ⟨S, 36, none⟩) → (execOp ρ o).run Try.prog x = .ok (.value (.agg (u8s A.t))) x) := ⟨fun o ρ p x hx h1 h2 => exec_sum p h1 S 36 h2 _ (by obtain ⟨m, rfl⟩ := hx; exact bytes_drewN' (HL.out.1.tag HO.out.1) m)⟩
  have LB5 : Box (∀ (o : Oper) (ρ : Operand → Value) (p : Operand) (x : World), (∃ n, x = w4.drewN n) → o.op = .load 23 p → ρ p = .pointer (some ⟨(S + 1), 36, none⟩) → (execOp ρ o).run Try.prog x = .ok (.value (.agg (u8s B.t))) x) := ⟨fun o ρ p x hx h1 h2 => exec_sum p h1 (S + 1) 36 h2 _ (by obtain ⟨m, rfl⟩ := hx; exact bytes_drewN' (HL.out.2.tag HO.out.2) m)⟩
  generalize decide (A.t = B.t) = e5 at Q5 E5
  generalize strOfNums A.t = sa5 at CX5 Q5
  generalize strOfNums B.t = sb5 at CY5 Q5
  generalize u8s A.t = ra5 at LA5 E5
  generalize u8s B.t = rb5 at LB5 E5
  clear HBX HBY HL HO HN HS hX hY
  dsimp only [List.append]
  refine wp_region_quiet_lit (by kernel_rfl) (lex_all _ 99 rfl (by decide) (by as_aux_lemma => kernel_rfl) (by as_aux_lemma => kernel_rfl) (by as_aux_lemma => kernel_rfl) (by as_aux_lemma => kernel_rfl) (by as_aux_lemma => kernel_rfl) (by as_aux_lemma => kernel_rfl) (by as_aux_lemma => kernel_rfl) (by as_aux_lemma => kernel_rfl) (by as_aux_lemma => kernel_rfl) (by as_aux_lemma => kernel_rfl) (by as_aux_lemma => kernel_rfl) (by as_aux_lemma => kernel_rfl)) ?_
  as_aux_lemma =>
  iterate 11 (first
    | (refine quiet_val (.agg ra0) (fun x hx => LA0.out _ _ (.tmp 31) x hx rfl rfl) rfl ?_; simp only [Act.put, List.setIfInBounds_toArray, List.set_cons_zero, List.set_cons_succ])
    | (refine quiet_val (.agg rb0) (fun x hx => LB0.out _ _ (.tmp 33) x hx rfl rfl) rfl ?_; simp only [Act.put, List.setIfInBounds_toArray, List.set_cons_zero, List.set_cons_succ])
    | (refine quiet_val (.agg ra5) (fun x hx => LA5.out _ _ (.tmp 106) x hx rfl rfl) rfl ?_; simp only [Act.put, List.setIfInBounds_toArray, List.set_cons_zero, List.set_cons_succ])
    | (refine quiet_val (.agg rb5) (fun x hx => LB5.out _ _ (.tmp 108) x hx rfl rfl) rfl ?_; simp only [Act.put, List.setIfInBounds_toArray, List.set_cons_zero, List.set_cons_succ])
    | (refine quiet_val (.bool e0) (fun x hx => E0.out _ _ x (.tmp 32) (.tmp 34) _ rfl rfl rfl) rfl ?_; simp only [Act.put, List.setIfInBounds_toArray, List.set_cons_zero, List.set_cons_succ])
    | (refine quiet_val (.bool e5) (fun x hx => E5.out _ _ x (.tmp 107) (.tmp 109) _ rfl rfl rfl) rfl ?_; simp only [Act.put, List.setIfInBounds_toArray, List.set_cons_zero, List.set_cons_succ])
    | go_big_quiet_step (fail))
  as_aux_lemma =>
  iterate 11 (first
    | (refine quiet_val (.agg ra0) (fun x hx => LA0.out _ _ (.tmp 31) x hx rfl rfl) rfl ?_; simp only [Act.put, List.setIfInBounds_toArray, List.set_cons_zero, List.set_cons_succ])
    | (refine quiet_val (.agg rb0) (fun x hx => LB0.out _ _ (.tmp 33) x hx rfl rfl) rfl ?_; simp only [Act.put, List.setIfInBounds_toArray, List.set_cons_zero, List.set_cons_succ])
    | (refine quiet_val (.agg ra5) (fun x hx => LA5.out _ _ (.tmp 106) x hx rfl rfl) rfl ?_; simp only [Act.put, List.setIfInBounds_toArray, List.set_cons_zero, List.set_cons_succ])
    | (refine quiet_val (.agg rb5) (fun x hx => LB5.out _ _ (.tmp 108) x hx rfl rfl) rfl ?_; simp only [Act.put, List.setIfInBounds_toArray, List.set_cons_zero, List.set_cons_succ])
    | (refine quiet_val (.bool e0) (fun x hx => E0.out _ _ x (.tmp 32) (.tmp 34) _ rfl rfl rfl) rfl ?_; simp only [Act.put, List.setIfInBounds_toArray, List.set_cons_zero, List.set_cons_succ])
    | (refine quiet_val (.bool e5) (fun x hx => E5.out _ _ x (.tmp 107) (.tmp 109) _ rfl rfl rfl) rfl ?_; simp only [Act.put, List.setIfInBounds_toArray, List.set_cons_zero, List.set_cons_succ])
    | go_big_quiet_step (fail))
  as_aux_lemma =>
  iterate 11 (first
    | (refine quiet_val (.agg ra0) (fun x hx => LA0.out _ _ (.tmp 31) x hx rfl rfl) rfl ?_; simp only [Act.put, List.setIfInBounds_toArray, List.set_cons_zero, List.set_cons_succ])
    | (refine quiet_val (.agg rb0) (fun x hx => LB0.out _ _ (.tmp 33) x hx rfl rfl) rfl ?_; simp only [Act.put, List.setIfInBounds_toArray, List.set_cons_zero, List.set_cons_succ])
    | (refine quiet_val (.agg ra5) (fun x hx => LA5.out _ _ (.tmp 106) x hx rfl rfl) rfl ?_; simp only [Act.put, List.setIfInBounds_toArray, List.set_cons_zero, List.set_cons_succ])
    | (refine quiet_val (.agg rb5) (fun x hx => LB5.out _ _ (.tmp 108) x hx rfl rfl) rfl ?_; simp only [Act.put, List.setIfInBounds_toArray, List.set_cons_zero, List.set_cons_succ])
    | (refine quiet_val (.bool e0) (fun x hx => E0.out _ _ x (.tmp 32) (.tmp 34) _ rfl rfl rfl) rfl ?_; simp only [Act.put, List.setIfInBounds_toArray, List.set_cons_zero, List.set_cons_succ])
    | (refine quiet_val (.bool e5) (fun x hx => E5.out _ _ x (.tmp 107) (.tmp 109) _ rfl rfl rfl) rfl ?_; simp only [Act.put, List.setIfInBounds_toArray, List.set_cons_zero, List.set_cons_succ])
    | go_big_quiet_step (fail))
  as_aux_lemma =>
  iterate 11 (first
    | (refine quiet_val (.agg ra0) (fun x hx => LA0.out _ _ (.tmp 31) x hx rfl rfl) rfl ?_; simp only [Act.put, List.setIfInBounds_toArray, List.set_cons_zero, List.set_cons_succ])
    | (refine quiet_val (.agg rb0) (fun x hx => LB0.out _ _ (.tmp 33) x hx rfl rfl) rfl ?_; simp only [Act.put, List.setIfInBounds_toArray, List.set_cons_zero, List.set_cons_succ])
    | (refine quiet_val (.agg ra5) (fun x hx => LA5.out _ _ (.tmp 106) x hx rfl rfl) rfl ?_; simp only [Act.put, List.setIfInBounds_toArray, List.set_cons_zero, List.set_cons_succ])
    | (refine quiet_val (.agg rb5) (fun x hx => LB5.out _ _ (.tmp 108) x hx rfl rfl) rfl ?_; simp only [Act.put, List.setIfInBounds_toArray, List.set_cons_zero, List.set_cons_succ])
    | (refine quiet_val (.bool e0) (fun x hx => E0.out _ _ x (.tmp 32) (.tmp 34) _ rfl rfl rfl) rfl ?_; simp only [Act.put, List.setIfInBounds_toArray, List.set_cons_zero, List.set_cons_succ])
    | (refine quiet_val (.bool e5) (fun x hx => E5.out _ _ x (.tmp 107) (.tmp 109) _ rfl rfl rfl) rfl ?_; simp only [Act.put, List.setIfInBounds_toArray, List.set_cons_zero, List.set_cons_succ])
    | go_big_quiet_step (fail))
  as_aux_lemma =>
  iterate 11 (first
    | (refine quiet_val (.agg ra0) (fun x hx => LA0.out _ _ (.tmp 31) x hx rfl rfl) rfl ?_; simp only [Act.put, List.setIfInBounds_toArray, List.set_cons_zero, List.set_cons_succ])
    | (refine quiet_val (.agg rb0) (fun x hx => LB0.out _ _ (.tmp 33) x hx rfl rfl) rfl ?_; simp only [Act.put, List.setIfInBounds_toArray, List.set_cons_zero, List.set_cons_succ])
    | (refine quiet_val (.agg ra5) (fun x hx => LA5.out _ _ (.tmp 106) x hx rfl rfl) rfl ?_; simp only [Act.put, List.setIfInBounds_toArray, List.set_cons_zero, List.set_cons_succ])
    | (refine quiet_val (.agg rb5) (fun x hx => LB5.out _ _ (.tmp 108) x hx rfl rfl) rfl ?_; simp only [Act.put, List.setIfInBounds_toArray, List.set_cons_zero, List.set_cons_succ])
    | (refine quiet_val (.bool e0) (fun x hx => E0.out _ _ x (.tmp 32) (.tmp 34) _ rfl rfl rfl) rfl ?_; simp only [Act.put, List.setIfInBounds_toArray, List.set_cons_zero, List.set_cons_succ])
    | (refine quiet_val (.bool e5) (fun x hx => E5.out _ _ x (.tmp 107) (.tmp 109) _ rfl rfl rfl) rfl ?_; simp only [Act.put, List.setIfInBounds_toArray, List.set_cons_zero, List.set_cons_succ])
    | go_big_quiet_step (fail))
  as_aux_lemma =>
  iterate 11 (first
    | (refine quiet_val (.agg ra0) (fun x hx => LA0.out _ _ (.tmp 31) x hx rfl rfl) rfl ?_; simp only [Act.put, List.setIfInBounds_toArray, List.set_cons_zero, List.set_cons_succ])
    | (refine quiet_val (.agg rb0) (fun x hx => LB0.out _ _ (.tmp 33) x hx rfl rfl) rfl ?_; simp only [Act.put, List.setIfInBounds_toArray, List.set_cons_zero, List.set_cons_succ])
    | (refine quiet_val (.agg ra5) (fun x hx => LA5.out _ _ (.tmp 106) x hx rfl rfl) rfl ?_; simp only [Act.put, List.setIfInBounds_toArray, List.set_cons_zero, List.set_cons_succ])
    | (refine quiet_val (.agg rb5) (fun x hx => LB5.out _ _ (.tmp 108) x hx rfl rfl) rfl ?_; simp only [Act.put, List.setIfInBounds_toArray, List.set_cons_zero, List.set_cons_succ])
    | (refine quiet_val (.bool e0) (fun x hx => E0.out _ _ x (.tmp 32) (.tmp 34) _ rfl rfl rfl) rfl ?_; simp only [Act.put, List.setIfInBounds_toArray, List.set_cons_zero, List.set_cons_succ])
    | (refine quiet_val (.bool e5) (fun x hx => E5.out _ _ x (.tmp 107) (.tmp 109) _ rfl rfl rfl) rfl ?_; simp only [Act.put, List.setIfInBounds_toArray, List.set_cons_zero, List.set_cons_succ])
    | go_big_quiet_step (fail))
  as_aux_lemma =>
  iterate 11 (first
    | (refine quiet_val (.agg ra0) (fun x hx => LA0.out _ _ (.tmp 31) x hx rfl rfl) rfl ?_; simp only [Act.put, List.setIfInBounds_toArray, List.set_cons_zero, List.set_cons_succ])
    | (refine quiet_val (.agg rb0) (fun x hx => LB0.out _ _ (.tmp 33) x hx rfl rfl) rfl ?_; simp only [Act.put, List.setIfInBounds_toArray, List.set_cons_zero, List.set_cons_succ])
    | (refine quiet_val (.agg ra5) (fun x hx => LA5.out _ _ (.tmp 106) x hx rfl rfl) rfl ?_; simp only [Act.put, List.setIfInBounds_toArray, List.set_cons_zero, List.set_cons_succ])
    | (refine quiet_val (.agg rb5) (fun x hx => LB5.out _ _ (.tmp 108) x hx rfl rfl) rfl ?_; simp only [Act.put, List.setIfInBounds_toArray, List.set_cons_zero, List.set_cons_succ])
    | (refine quiet_val (.bool e0) (fun x hx => E0.out _ _ x (.tmp 32) (.tmp 34) _ rfl rfl rfl) rfl ?_; simp only [Act.put, List.setIfInBounds_toArray, List.set_cons_zero, List.set_cons_succ])
    | (refine quiet_val (.bool e5) (fun x hx => E5.out _ _ x (.tmp 107) (.tmp 109) _ rfl rfl rfl) rfl ?_; simp only [Act.put, List.setIfInBounds_toArray, List.set_cons_zero, List.set_cons_succ])
    | go_big_quiet_step (fail))
  as_aux_lemma =>
  iterate 11 (first
    | (refine quiet_val (.agg ra0) (fun x hx => LA0.out _ _ (.tmp 31) x hx rfl rfl) rfl ?_; simp only [Act.put, List.setIfInBounds_toArray, List.set_cons_zero, List.set_cons_succ])
    | (refine quiet_val (.agg rb0) (fun x hx => LB0.out _ _ (.tmp 33) x hx rfl rfl) rfl ?_; simp only [Act.put, List.setIfInBounds_toArray, List.set_cons_zero, List.set_cons_succ])
    | (refine quiet_val (.agg ra5) (fun x hx => LA5.out _ _ (.tmp 106) x hx rfl rfl) rfl ?_; simp only [Act.put, List.setIfInBounds_toArray, List.set_cons_zero, List.set_cons_succ])
    | (refine quiet_val (.agg rb5) (fun x hx => LB5.out _ _ (.tmp 108) x hx rfl rfl) rfl ?_; simp only [Act.put, List.setIfInBounds_toArray, List.set_cons_zero, List.set_cons_succ])
    | (refine quiet_val (.bool e0) (fun x hx => E0.out _ _ x (.tmp 32) (.tmp 34) _ rfl rfl rfl) rfl ?_; simp only [Act.put, List.setIfInBounds_toArray, List.set_cons_zero, List.set_cons_succ])
    | (refine quiet_val (.bool e5) (fun x hx => E5.out _ _ x (.tmp 107) (.tmp 109) _ rfl rfl rfl) rfl ?_; simp only [Act.put, List.setIfInBounds_toArray, List.set_cons_zero, List.set_cons_succ])
    | go_big_quiet_step (fail))
  as_aux_lemma =>
  iterate 11 (first
    | (refine quiet_val (.agg ra0) (fun x hx => LA0.out _ _ (.tmp 31) x hx rfl rfl) rfl ?_; simp only [Act.put, List.setIfInBounds_toArray, List.set_cons_zero, List.set_cons_succ])
    | (refine quiet_val (.agg rb0) (fun x hx => LB0.out _ _ (.tmp 33) x hx rfl rfl) rfl ?_; simp only [Act.put, List.setIfInBounds_toArray, List.set_cons_zero, List.set_cons_succ])
    | (refine quiet_val (.agg ra5) (fun x hx => LA5.out _ _ (.tmp 106) x hx rfl rfl) rfl ?_; simp only [Act.put, List.setIfInBounds_toArray, List.set_cons_zero, List.set_cons_succ])
    | (refine quiet_val (.agg rb5) (fun x hx => LB5.out _ _ (.tmp 108) x hx rfl rfl) rfl ?_; simp only [Act.put, List.setIfInBounds_toArray, List.set_cons_zero, List.set_cons_succ])
    | (refine quiet_val (.bool e0) (fun x hx => E0.out _ _ x (.tmp 32) (.tmp 34) _ rfl rfl rfl) rfl ?_; simp only [Act.put, List.setIfInBounds_toArray, List.set_cons_zero, List.set_cons_succ])
    | (refine quiet_val (.bool e5) (fun x hx => E5.out _ _ x (.tmp 107) (.tmp 109) _ rfl rfl rfl) rfl ?_; simp only [Act.put, List.setIfInBounds_toArray, List.set_cons_zero, List.set_cons_succ])
    | go_big_quiet_step (fail))
  as_aux_lemma =>
  refine wpQuiet_nil ?_
  intro _ hw'
  obtain ⟨nq, hw''⟩ := hw'
  subst hw''
  go_wp2
  go_ret
  exact ⟨rfl, below_drewN HW.out _⟩
end Go.Proofs.Ytejpbbgnammgkaa
