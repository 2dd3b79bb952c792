/-
  The walk of DiskLast, for every three bytes and every truth value.
-/
import Derived.Test.YtlokhbkjkobmaaaZH
namespace Go.Proofs.Ytlokhbkjkobmaaa
set_option linter.unusedVariables false
open Go.RowKit Plain

/-- One byte, filled up with noughts. -/
def fo (z : Int) : List Int := fullB 192 [z]
theorem length_fo (z : Int) : (fo z).length = 192 := length_fullB _ _
theorem fo_at (z : Int) : (fo z).getD 0 0 = z := rfl
theorem byt_fo (z : Int) (h : 0 ≤ z ∧ z ≤ 255) : Byt (fo z) := byt_fullB _ _ (byt_cons _ _ h byt_nil)
def e1 (X : List Int) : Dk := wrOk (dk0 3) 1 X
def e2 (X Y : List Int) : Dk := wrOk (e1 X) 1 Y
def e3 (f : Bool) (X Y : List Int) : Dk := if f then flOk (e2 X Y) else e2 X Y
/-- The same, asked so often. -/
def rds : List Int → Dk → Dk
  | [], d => d
  | i :: l, d => rdOk (rds l d) i
theorem lat_e3 (f : Bool) (X Y : List Int) (l : List Int) : lat (rds l (e3 f X Y)) 1 = Y ∧ lat (rds l (e3 f X Y)) 2 = z192 := by
  induction l with
  | nil => cases f <;> exact ⟨rfl, rfl⟩
  | cons i l ih => exact ih
theorem rds_same (l : List Int) (d : Dk) : (rds l d).n = d.n ∧ (rds l d).down = d.down ∧ (rds l d).uw = d.uw ∧ (rds l d).pl = d.pl ∧ (rds l d).ops.length = d.ops.length + l.length := by
  induction l with
  | nil => exact ⟨rfl, rfl, rfl, rfl, rfl⟩
  | cons i l ih => exact ⟨ih.1, ih.2.1, ih.2.2.1, ih.2.2.2.1, by simp only [rds, rdOk, List.length_append, ih.2.2.2.2, List.length_cons, List.length_nil]; omega⟩
theorem e3_ops (f : Bool) (X Y : List Int) : (e3 f X Y).ops.length < 10 := by cases f <;> exact lt_rfl rfl
theorem image_cx {w0 w : World} {D : Nat} {fp : Nat → Prop} {d : Dk} (C : Cx w0 w D fp d) : Calls Try.prog 14 #[.pointer (some ⟨D, 0, none⟩)] w fun e w' => ∃ g L, e = .returned (.slice (some ⟨g, 0, none⟩) d.n d.n) ∧ Rws w w' g d.n d.n d.pl L := by
  obtain ⟨P, uv, ov, h1, _⟩ := C.is
  exact image_any w D P uv ov d h1
/-- The third row of an image. -/
theorem Rws.third {w wr : World} {g : Nat} {pl : Nat → List Int} {L : List Value} (h : Rws w wr g 3 3 pl L) : ∃ j c z, g < j ∧ wr.cell? ⟨g, 2, none⟩ = some (.slice (some ⟨j, 0, none⟩) 192 c) ∧ wr.cell? ⟨j, 0, none⟩ = some (.int .u8 z) ∧ wr.frozen? ⟨j, 0, none⟩ = false := by
  have hl : 2 < L.length := by rw [h.len]; omega
  obtain ⟨h1, h2⟩ := h.each 2 hl
  obtain ⟨j, c, cur, e, _, hj, hs, _, _, hc⟩ := own_block h1 (by omega)
  refine ⟨j, c, _, h2 j (by rw [e]; rfl), ?_, by rw [cell_of_row _ _ _ _ _ _ hj]; exact hc 0 (by omega), frozen_of_row wr j 0 _ _ hj⟩
  rw [cell_of_row _ _ _ _ _ _ h.row, ← e]
  simp [List.getElem?_append_left hl]
set_option maxRecDepth 20000 in
set_option maxHeartbeats 8000000 in
theorem diskLast_walk (a b : Int) (f : Bool) (x : Int) (w : World) (ha : (Lit.int .u8 a).wf = true) (hb : (Lit.int .u8 b).wf = true) (hx : (Lit.int .u8 x).wf = true) :
    Calls Try.prog 7 #[.int .u8 a, .int .u8 b, .bool f, .int .u8 x] w fun e w' => e = .returned (.bool true) ∧ Below w.heap.size w w' := by
  have ha' : 0 ≤ a ∧ a ≤ 255 := (u8_bd ha)
  have hb' : 0 ≤ b ∧ b ≤ 255 := (u8_bd hb)
  have hx' : 0 ≤ x ∧ x ≤ 255 := (u8_bd hx)
  have HAw : Box _ := ⟨awake_any w⟩
  have HN : Box (∀ wx, Calls Try.prog 10 #[.int .i64 3] wx fun e w' => ∃ D, e = .returned (.tuple #[.pointer (some ⟨D, 0, none⟩), .int .i64 0]) ∧ ∃ fp, Cx wx w' D fp (dk0 3)) := ⟨fun wx => (new_cx wx 3 (by omega)).mono fun e w' h => ⟨_, h⟩⟩
  go_enter Try.func7, Try.ntmps7
  go_upto_region 7 with (first
    | (go_at_call 10; refine (HN.out _).mono ?_; rintro e w1 ⟨D, rfl, fp1, hc1⟩; have C1 : Box _ := ⟨hc1⟩; clear hc1)
    | (go_at_call 9; refine HAw.out.mono ?_; rintro e wa ⟨rfl, hba⟩; have BA : Box _ := ⟨hba⟩; clear hba))
  have HX : Box (Byt (fo a) ∧ Byt (fo b)) := ⟨byt_fo _ ha', byt_fo _ hb'⟩
  have HFa : Box (∀ wx, Calls Try.prog 22 #[.agg #[.int .i64 0, .int .i64 0, .slice (some ⟨wx.heap.size, 0, none⟩) 1 1, .slice none 0 0, .bool false]] (wx.alloc (.cells #[.int .u8 a] 5)) fun e w' => ∃ g, e = .returned (.slice (some ⟨g, 0, none⟩) 192 192) ∧ wx.heap.size ≤ g ∧ w'.heap[g]? = some (.cells (u8s (fo a)) 5 (0, 0)) ∧ Below wx.heap.size wx w') := ⟨fun wx => full_one wx a ha'⟩
  have HFb : Box (∀ wx, Calls Try.prog 22 #[.agg #[.int .i64 0, .int .i64 0, .slice (some ⟨wx.heap.size, 0, none⟩) 1 1, .slice none 0 0, .bool false]] (wx.alloc (.cells #[.int .u8 b] 5)) fun e w' => ∃ g, e = .returned (.slice (some ⟨g, 0, none⟩) 192 192) ∧ wx.heap.size ≤ g ∧ w'.heap[g]? = some (.cells (u8s (fo b)) 5 (0, 0)) ∧ Below wx.heap.size wx w') := ⟨fun wx => full_one wx b hb'⟩
  have HW1 : Box (∀ wx fp g, Cx wa wx D fp (dk0 3) → Loc wx fp g (fo a) 5 → Calls Try.prog 18 #[.pointer (some ⟨D, 0, none⟩), .int .i64 1, .slice (some ⟨g, 0, none⟩) 192 192] wx fun e w' => e = .returned (.int .i64 0) ∧ ∃ fp', Cx wa w' D fp' (e1 (fo a)) ∧ Fol wx fp w' fp') :=
    ⟨fun wx fp g C L => write_cx C 1 _ 192 _ (L.bytes HX.out.1 192 (length_fo _)) (fun ad e => by simp only [Option.some.injEq] at e; subst e; exact L.no) rfl (lt_rfl rfl) (fun h => by cases h) (left_rfl rfl) (lt_rfl rfl) (lt_rfl rfl)⟩
  have HW2 : Box (∀ wx fp g, Cx wa wx D fp (e1 (fo a)) → Loc wx fp g (fo b) 5 → Calls Try.prog 18 #[.pointer (some ⟨D, 0, none⟩), .int .i64 1, .slice (some ⟨g, 0, none⟩) 192 192] wx fun e w' => e = .returned (.int .i64 0) ∧ ∃ fp', Cx wa w' D fp' (e2 (fo a) (fo b)) ∧ Fol wx fp w' fp') :=
    ⟨fun wx fp g C L => write_cx C 1 _ 192 _ (L.bytes HX.out.2 192 (length_fo _)) (fun ad e => by simp only [Option.some.injEq] at e; subst e; exact L.no) rfl (lt_rfl rfl) (fun h => by cases h) (left_rfl rfl) (lt_rfl rfl) (lt_rfl rfl)⟩
  have HFl : Box (∀ wx fp, Cx wa wx D fp (e2 (fo a) (fo b)) → Calls Try.prog 19 #[.pointer (some ⟨D, 0, none⟩)] wx fun e w' => e = .returned (.int .i64 0) ∧ ∃ fp', Cx wa w' D fp' (e3 true (fo a) (fo b)) ∧ Fol wx fp w' fp') := ⟨fun wx fp C => flush_cx C rfl (lt_rfl rfl) (lt_rfl rfl)⟩
  have HR1 : Box (∀ l wx fp, Cx wa wx D fp (rds l (e3 f (fo a) (fo b))) ∧ l.length < 100 → Calls Try.prog 21 #[.pointer (some ⟨D, 0, none⟩), .int .i64 1] wx fun e w' => ∃ R fp', e = .returned (.tuple #[.slice (some ⟨R, 0, none⟩) 192 192, .int .i64 0]) ∧ Cx wa w' D fp' (rds (1 :: l) (e3 f (fo a) (fo b))) ∧ Fol wx fp w' fp' ∧ Loc w' fp' R (fo b) 79 ∧ wa.heap.size ≤ R) :=
    ⟨fun l wx fp ⟨C, hl⟩ => by
      obtain ⟨s1, s2, s3, s4, s5⟩ := rds_same l (e3 f (fo a) (fo b))
      refine (read_cx C 1 (by rw [s2]; cases f <;> rfl) (by rw [s1]; cases f <;> exact lt_rfl rfl) (by rw [s5]; have := e3_ops f (fo a) (fo b); omega) (by rw [s3]; cases f <;> exact lt_rfl rfl)).mono ?_
      rintro e w' ⟨R, fp', rfl, h2, h3, h4, h5, _⟩
      rw [(lat_e3 f (fo a) (fo b) l).1] at h4
      exact ⟨R, fp', rfl, h2, h3, h4, Nat.le_trans C.bel.size h5⟩⟩
  have HR2 : Box (∀ l wx fp, Cx wa wx D fp (rds l (e3 f (fo a) (fo b))) ∧ l.length < 100 → Calls Try.prog 21 #[.pointer (some ⟨D, 0, none⟩), .int .i64 2] wx fun e w' => ∃ R fp', e = .returned (.tuple #[.slice (some ⟨R, 0, none⟩) 192 192, .int .i64 0]) ∧ Cx wa w' D fp' (rds (2 :: l) (e3 f (fo a) (fo b))) ∧ Fol wx fp w' fp' ∧ Loc w' fp' R z192 79) :=
    ⟨fun l wx fp ⟨C, hl⟩ => by
      obtain ⟨s1, s2, s3, s4, s5⟩ := rds_same l (e3 f (fo a) (fo b))
      refine (read_cx C 2 (by rw [s2]; cases f <;> rfl) (by rw [s1]; cases f <;> exact lt_rfl rfl) (by rw [s5]; have := e3_ops f (fo a) (fo b); omega) (by rw [s3]; cases f <;> exact lt_rfl rfl)).mono ?_
      rintro e w' ⟨R, fp', rfl, h2, h3, h4, h5, _⟩
      rw [(lat_e3 f (fo a) (fo b) l).2] at h4
      exact ⟨R, fp', rfl, h2, h3, h4⟩⟩
  have HIm : Box (∀ l wx fp, Cx wa wx D fp (rds l (e3 f (fo a) (fo b))) → Calls Try.prog 14 #[.pointer (some ⟨D, 0, none⟩)] wx fun e w' => ∃ g L, e = .returned (.slice (some ⟨g, 0, none⟩) 3 3) ∧ Rws wx w' g 3 3 (e3 f (fo a) (fo b)).pl L) :=
    ⟨fun l wx fp C => by
      have h := image_cx C
      obtain ⟨s1, s2, s3, s4, s5⟩ := rds_same l (e3 f (fo a) (fo b))
      rw [s1, s4, show (e3 f (fo a) (fo b)).n = 3 by cases f <;> rfl] at h
      exact h⟩
  clear HX ha hb hx ha' hb' HN HAw
  cases f
  case false =>
    go_upto_region 13 with (first
      | (go_at_call 18; refine (HW2.out _ _ _ H5.out.1 H5.out.2.1).mono ?_; rintro e w6 ⟨rfl, fp6, hc6, hf6⟩; have H6 : Box (Cx wa w6 D fp6 (e2 (fo a) (fo b)) ∧ Loc w6 fp6 gq (fo b) 5 ∧ wa.heap.size ≤ gq) := ⟨hc6, H5.out.2.1.fol hf6, H5.out.2.2⟩; clear hc6 hf6 H5)
      | (go_at_call 18; refine (HW1.out _ _ _ H4.out.1 H4.out.2.1).mono ?_; rintro e w5 ⟨rfl, fp5, hc5, hf5⟩; have H5 : Box (Cx wa w5 D fp5 (e1 (fo a)) ∧ Loc w5 fp5 gq (fo b) 5 ∧ wa.heap.size ≤ gq) := ⟨hc5, H4.out.2.2.1.fol hf5, H4.out.2.2.2⟩; clear hc5 hf5 H4)
      | (go_at_call 22; refine (HFb.out _).mono ?_; rintro e w4 ⟨gq, rfl, hg1, hg2, hb4⟩; have H4 : Box (Cx wa w4 D fp1 (dk0 3) ∧ Loc w4 fp1 gp (fo a) 5 ∧ Loc w4 fp1 gq (fo b) 5 ∧ wa.heap.size ≤ gq) := ⟨H3.out.1.step hb4, H3.out.2.below hb4, ⟨hg2, fun h => by have := H3.out.1.hi _ h; omega⟩, Nat.le_trans H3.out.1.bel.size hg1⟩; clear hg1 hg2 hb4 H3)
      | (go_at_call 22; refine (HFa.out _).mono ?_; rintro e w3 ⟨gp, rfl, hg1, hg2, hb3⟩; have H3 : Box (Cx wa w3 D fp1 (dk0 3) ∧ Loc w3 fp1 gp (fo a) 5) := ⟨C1.out.step hb3, ⟨hg2, fun h => by have := C1.out.hi _ h; omega⟩⟩; clear hg1 hg2 hb3 C1))
    have H7 : Box (Cx wa w6 D fp6 (e3 false (fo a) (fo b)) ∧ Loc w6 fp6 gq (fo b) 5) := ⟨H6.out.1, H6.out.2.1⟩
    have G7 : Box (wa.heap.size ≤ gq) := ⟨H6.out.2.2⟩
    clear H6
    clear HW1 HW2 HFl HFa HFb
    obtain ⟨cq, fq⟩ := row_cell0 H7.out.2 0 (by rw [length_fo]; omega)
    rw [fo_at] at cq
    go_upto_region 14 with fail
    have C8 : Box (Cx wa (w6.setCell ⟨gq, 0, none⟩ (.int .u8 (bits .xor .u8 b x))) D fp6 (e3 false (fo a) (fo b))) := ⟨H7.out.1.set gq 0 _ H7.out.2.no G7.out⟩
    generalize w6.setCell ⟨gq, 0, none⟩ (.int .u8 (bits .xor .u8 b x)) = w8 at C8 ⊢
    clear cq fq H7 G7
    go_upto_region 17 with (go_at_call 21; refine (HR1.out [] _ _ ⟨C8.out, by decide⟩).mono ?_; rintro e w9 ⟨R, fp9, rfl, hc9, hf9, hl9, hw9⟩; have H9 : Box _ := ⟨hc9⟩; have L9 : Box _ := ⟨hl9⟩; have G9 : Box _ := ⟨hw9⟩; obtain ⟨cr, fr⟩ := row_cell0 hl9 0 (by rw [length_fo]; omega); rw [fo_at] at cr; clear hc9 hf9 hl9 hw9)
    go_upto_region 18 with fail
    have C10 : Box (Cx wa (w9.setCell ⟨R, 0, none⟩ (.int .u8 (bits .xor .u8 b x))) D fp9 _) := ⟨H9.out.set R 0 _ L9.out.no G9.out⟩
    generalize w9.setCell ⟨R, 0, none⟩ (.int .u8 (bits .xor .u8 b x)) = w10 at C10 ⊢
    clear cr fr H9 L9 G9
    go_upto_region 23 with (first
      | (go_at_call 14; refine (HIm.out [2, 1, 1] _ _ H12.out.1).mono ?_; rintro e w13 ⟨gm, L, rfl, hr13⟩; have H13 : Box (Cx wa w13 D fp12 _ ∧ Loc w13 fp12 Rs (fo b) 79 ∧ Loc w13 fp12 Rt z192 79 ∧ Rs < w12.heap.size ∧ Rt < w12.heap.size) := ⟨H12.out.1.step hr13.bel, H12.out.2.1.below hr13.bel, H12.out.2.2.below hr13.bel, H12.out.2.1.lt, H12.out.2.2.lt⟩; have RW : Box _ := ⟨hr13⟩; clear hr13)
      | (go_at_call 21; refine (HR2.out [1, 1] _ _ ⟨H11.out.1, by decide⟩).mono ?_; rintro e w12 ⟨Rt, fp12, rfl, hc12, hf12, hl12⟩; have H12 : Box (Cx wa w12 D fp12 _ ∧ Loc w12 fp12 Rs (fo b) 79 ∧ Loc w12 fp12 Rt z192 79) := ⟨hc12, H11.out.2.fol hf12, hl12⟩; clear hc12 hf12 hl12)
      | (go_at_call 21; refine (HR1.out [1] _ _ ⟨C10.out, by decide⟩).mono ?_; rintro e w11 ⟨Rs, fp11, rfl, hc11, hf11, hl11, hw11⟩; have H11 : Box (Cx wa w11 D fp11 _ ∧ Loc w11 fp11 Rs (fo b) 79) := ⟨hc11, hl11⟩; clear hc11 hf11 hl11 hw11))
    obtain ⟨jm, cm, vm, hjm, cm2, cm0, fm0⟩ := RW.out.third
    have hgm := RW.out.lo
    go_upto_region 24 with fail
    have H14 : Box (Cx wa (w13.setCell ⟨jm, 0, none⟩ (.int .u8 (bits .xor .u8 vm 1))) D fp12 _ ∧ Loc (w13.setCell ⟨jm, 0, none⟩ (.int .u8 (bits .xor .u8 vm 1))) fp12 Rs (fo b) 79 ∧ Loc (w13.setCell ⟨jm, 0, none⟩ (.int .u8 (bits .xor .u8 vm 1))) fp12 Rt z192 79) :=
      ⟨H13.out.1.set jm 0 _ (fun h => by have := H12.out.1.hi _ h; omega) (by have := H12.out.1.bel.size; omega), H13.out.2.1.other 0 _ (by have := H13.out.2.2.2.1; omega), H13.out.2.2.1.other 0 _ (by have := H13.out.2.2.2.2; omega)⟩
    generalize w13.setCell ⟨jm, 0, none⟩ (.int .u8 (bits .xor .u8 vm 1)) = w14 at H14 ⊢
    clear cm2 cm0 fm0 RW H13 H12 H11 C10 C8 HR1 HIm
    go_upto_region 25 with (go_at_call 21; refine (HR2.out [2, 1, 1] _ _ ⟨H14.out.1, by decide⟩).mono ?_; rintro e w15 ⟨Ru, fp15, rfl, hc15, hf15, hl15⟩; obtain ⟨cs, -⟩ := row_cell0 (H14.out.2.1.fol hf15) 0 (by rw [length_fo]; omega); obtain ⟨ct, -⟩ := row_cell0 (H14.out.2.2.fol hf15) 0 (by rw [length_z192]; omega); obtain ⟨cu, -⟩ := row_cell0 hl15 0 (by rw [length_z192]; omega); rw [fo_at] at cs; rw [getD_z192] at ct cu; have H15 : Box _ := ⟨hc15⟩; clear hc15 hf15 hl15)
    clear H14 HR2
    go_wp2
    go_ret
    exact ⟨rfl, BA.out.trans (H15.out.bel.mono BA.out.size)⟩
  case true =>
    go_upto_region 13 with (first
      | (go_at_call 19; refine (HFl.out _ _ H6.out.1).mono ?_; rintro e w7 ⟨rfl, fp7, hc7, hf7⟩; have H7 : Box (Cx wa w7 D fp7 (e3 true (fo a) (fo b)) ∧ Loc w7 fp7 gq (fo b) 5) := ⟨hc7, H6.out.2.1.fol hf7⟩; have G7 : Box (wa.heap.size ≤ gq) := ⟨H6.out.2.2⟩; clear hc7 hf7 H6)
      | (go_at_call 18; refine (HW2.out _ _ _ H5.out.1 H5.out.2.1).mono ?_; rintro e w6 ⟨rfl, fp6, hc6, hf6⟩; have H6 : Box (Cx wa w6 D fp6 (e2 (fo a) (fo b)) ∧ Loc w6 fp6 gq (fo b) 5 ∧ wa.heap.size ≤ gq) := ⟨hc6, H5.out.2.1.fol hf6, H5.out.2.2⟩; clear hc6 hf6 H5)
      | (go_at_call 18; refine (HW1.out _ _ _ H4.out.1 H4.out.2.1).mono ?_; rintro e w5 ⟨rfl, fp5, hc5, hf5⟩; have H5 : Box (Cx wa w5 D fp5 (e1 (fo a)) ∧ Loc w5 fp5 gq (fo b) 5 ∧ wa.heap.size ≤ gq) := ⟨hc5, H4.out.2.2.1.fol hf5, H4.out.2.2.2⟩; clear hc5 hf5 H4)
      | (go_at_call 22; refine (HFb.out _).mono ?_; rintro e w4 ⟨gq, rfl, hg1, hg2, hb4⟩; have H4 : Box (Cx wa w4 D fp1 (dk0 3) ∧ Loc w4 fp1 gp (fo a) 5 ∧ Loc w4 fp1 gq (fo b) 5 ∧ wa.heap.size ≤ gq) := ⟨H3.out.1.step hb4, H3.out.2.below hb4, ⟨hg2, fun h => by have := H3.out.1.hi _ h; omega⟩, Nat.le_trans H3.out.1.bel.size hg1⟩; clear hg1 hg2 hb4 H3)
      | (go_at_call 22; refine (HFa.out _).mono ?_; rintro e w3 ⟨gp, rfl, hg1, hg2, hb3⟩; have H3 : Box (Cx wa w3 D fp1 (dk0 3) ∧ Loc w3 fp1 gp (fo a) 5) := ⟨C1.out.step hb3, ⟨hg2, fun h => by have := C1.out.hi _ h; omega⟩⟩; clear hg1 hg2 hb3 C1))
    clear HW1 HW2 HFl HFa HFb
    obtain ⟨cq, fq⟩ := row_cell0 H7.out.2 0 (by rw [length_fo]; omega)
    rw [fo_at] at cq
    go_upto_region 14 with fail
    have C8 : Box (Cx wa (w7.setCell ⟨gq, 0, none⟩ (.int .u8 (bits .xor .u8 b x))) D fp7 (e3 true (fo a) (fo b))) := ⟨H7.out.1.set gq 0 _ H7.out.2.no G7.out⟩
    generalize w7.setCell ⟨gq, 0, none⟩ (.int .u8 (bits .xor .u8 b x)) = w8 at C8 ⊢
    clear cq fq H7 G7
    go_upto_region 17 with (go_at_call 21; refine (HR1.out [] _ _ ⟨C8.out, by decide⟩).mono ?_; rintro e w9 ⟨R, fp9, rfl, hc9, hf9, hl9, hw9⟩; have H9 : Box _ := ⟨hc9⟩; have L9 : Box _ := ⟨hl9⟩; have G9 : Box _ := ⟨hw9⟩; obtain ⟨cr, fr⟩ := row_cell0 hl9 0 (by rw [length_fo]; omega); rw [fo_at] at cr; clear hc9 hf9 hl9 hw9)
    go_upto_region 18 with fail
    have C10 : Box (Cx wa (w9.setCell ⟨R, 0, none⟩ (.int .u8 (bits .xor .u8 b x))) D fp9 _) := ⟨H9.out.set R 0 _ L9.out.no G9.out⟩
    generalize w9.setCell ⟨R, 0, none⟩ (.int .u8 (bits .xor .u8 b x)) = w10 at C10 ⊢
    clear cr fr H9 L9 G9
    go_upto_region 23 with (first
      | (go_at_call 14; refine (HIm.out [2, 1, 1] _ _ H12.out.1).mono ?_; rintro e w13 ⟨gm, L, rfl, hr13⟩; have H13 : Box (Cx wa w13 D fp12 _ ∧ Loc w13 fp12 Rs (fo b) 79 ∧ Loc w13 fp12 Rt z192 79 ∧ Rs < w12.heap.size ∧ Rt < w12.heap.size) := ⟨H12.out.1.step hr13.bel, H12.out.2.1.below hr13.bel, H12.out.2.2.below hr13.bel, H12.out.2.1.lt, H12.out.2.2.lt⟩; have RW : Box _ := ⟨hr13⟩; clear hr13)
      | (go_at_call 21; refine (HR2.out [1, 1] _ _ ⟨H11.out.1, by decide⟩).mono ?_; rintro e w12 ⟨Rt, fp12, rfl, hc12, hf12, hl12⟩; have H12 : Box (Cx wa w12 D fp12 _ ∧ Loc w12 fp12 Rs (fo b) 79 ∧ Loc w12 fp12 Rt z192 79) := ⟨hc12, H11.out.2.fol hf12, hl12⟩; clear hc12 hf12 hl12)
      | (go_at_call 21; refine (HR1.out [1] _ _ ⟨C10.out, by decide⟩).mono ?_; rintro e w11 ⟨Rs, fp11, rfl, hc11, hf11, hl11, hw11⟩; have H11 : Box (Cx wa w11 D fp11 _ ∧ Loc w11 fp11 Rs (fo b) 79) := ⟨hc11, hl11⟩; clear hc11 hf11 hl11 hw11))
    obtain ⟨jm, cm, vm, hjm, cm2, cm0, fm0⟩ := RW.out.third
    have hgm := RW.out.lo
    go_upto_region 24 with fail
    have H14 : Box (Cx wa (w13.setCell ⟨jm, 0, none⟩ (.int .u8 (bits .xor .u8 vm 1))) D fp12 _ ∧ Loc (w13.setCell ⟨jm, 0, none⟩ (.int .u8 (bits .xor .u8 vm 1))) fp12 Rs (fo b) 79 ∧ Loc (w13.setCell ⟨jm, 0, none⟩ (.int .u8 (bits .xor .u8 vm 1))) fp12 Rt z192 79) :=
      ⟨H13.out.1.set jm 0 _ (fun h => by have := H12.out.1.hi _ h; omega) (by have := H12.out.1.bel.size; omega), H13.out.2.1.other 0 _ (by have := H13.out.2.2.2.1; omega), H13.out.2.2.1.other 0 _ (by have := H13.out.2.2.2.2; omega)⟩
    generalize w13.setCell ⟨jm, 0, none⟩ (.int .u8 (bits .xor .u8 vm 1)) = w14 at H14 ⊢
    clear cm2 cm0 fm0 RW H13 H12 H11 C10 C8 HR1 HIm
    go_upto_region 25 with (go_at_call 21; refine (HR2.out [2, 1, 1] _ _ ⟨H14.out.1, by decide⟩).mono ?_; rintro e w15 ⟨Ru, fp15, rfl, hc15, hf15, hl15⟩; obtain ⟨cs, -⟩ := row_cell0 (H14.out.2.1.fol hf15) 0 (by rw [length_fo]; omega); obtain ⟨ct, -⟩ := row_cell0 (H14.out.2.2.fol hf15) 0 (by rw [length_z192]; omega); obtain ⟨cu, -⟩ := row_cell0 hl15 0 (by rw [length_z192]; omega); rw [fo_at] at cs; rw [getD_z192] at ct cu; have H15 : Box _ := ⟨hc15⟩; clear hc15 hf15 hl15)
    clear H14 HR2
    go_wp2
    go_ret
    exact ⟨rfl, BA.out.trans (H15.out.bel.mono BA.out.size)⟩
end Go.Proofs.Ytlokhbkjkobmaaa
