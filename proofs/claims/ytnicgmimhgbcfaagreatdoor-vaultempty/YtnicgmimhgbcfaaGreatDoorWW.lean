/-
  Awake of the laws of layer 11 answers true.
-/
import Derived.Test.YtnicgmimhgbcfaaGreatDoorWV
namespace Go.Proofs.YtnicgmimhgbcfaaGreatDoor
set_option linter.unusedVariables false
set_option maxRecDepth 100000
open Go.RowKit Go.Shelf Plain Go.Proofs.YtnicgmimhgbcfaaGreatDoor.Shap.Plain
attribute [local go_sem] Oper.semAt_some

set_option maxRecDepth 20000 in
set_option maxHeartbeats 4000000 in
theorem awake_v (w : World) (hT : Dig.Tabs w) (hT2 : Seal.Tab w) : Calls Tryz.prog 9 #[] w fun e w' => e = .returned (.bool true) ∧ Below w.heap.size w w' := by
  obtain ⟨D, hD⟩ : ∃ D, w.heap.size + 1 = D := ⟨_, rfl⟩
  have HD : Box (Calls Tryz.prog 10 #[.int .i64 40] w fun e w' => e = .returned (.tuple #[.pointer (some ⟨D, 0, none⟩), .int .i64 0]) ∧ ∃ fp, Disk.Cx w w' D fp (Disk.dk0 40)) := ⟨by have := Disk.new_cx w 40 ⟨by omega, by omega⟩; rw [hD] at this; exact this⟩
  obtain ⟨d0, hd0⟩ : ∃ d0, Disk.dk0 40 = d0 := ⟨_, rfl⟩
  rw [hd0] at HD
  have HD0 : Box (Up d0 ∧ d0.n = 40 ∧ d0.ops.length = 0 ∧ d0.uw.length = 0 ∧ (0 ≤ d0.left ∧ d0.left ≤ 9223372036854775807)) := ⟨by rw [← hd0]; exact ⟨⟨rfl, rfl⟩, rfl, rfl, rfl, by decide, by decide⟩⟩
  have HT : Box (Dig.Tabs w ∧ Seal.Tab w) := ⟨hT, hT2⟩
  obtain ⟨AK, HAK⟩ : ∃ A, Box (u8s k1 = A) := ⟨_, ⟨rfl⟩⟩
  obtain ⟨RZ, HRZ⟩ : ∃ A, Box (ra zr = A) := ⟨_, ⟨rfl⟩⟩
  -- plainly
  obtain ⟨d3, hrm3, hg3, _⟩ := good_read (good_new k1 5 d0 HD0.out.1) (by omega) (by omega) 4 (by omega)
  have hw3 := gw_read k1 5 4 (topL 5) d0 zr
  rw [hrm3] at hw3
  have HG3 : Box (readM (Yk k1) Xd 5 4 (topL 5) d0 zr = (d3, 0, y160) ∧ d3.ops.length < 100 ∧ d3.uw.length < 100 ∧ (0 ≤ d3.left ∧ d3.left ≤ 9223372036854775807)) := ⟨hrm3, by have := hw3.ops; have := HD0.out.2.2.1; simp only [aw_top] at *; omega, by have := hw3.uw; have := HD0.out.2.2.2.1; simp only [aw_top] at *; omega, hw3.left HD0.out.2.2.2.2⟩
  obtain ⟨d6, R, hup6, hg6, _⟩ := good_update hg3 (by omega) (by omega) [((4 : Int), b79)] (fun x hx => by simp only [List.mem_singleton] at hx; subst hx; exact ⟨len_b79, byt_b79, by decide, by decide⟩) (by simp) 1 1000 (by omega) (by omega) (by rw [aw_its]; decide)
  rw [aw_its] at hup6
  have hw6 := gw_updM v1 ⟨len_k1, byt_k1, by decide, by decide, okR_zr, by decide, by decide⟩ [⟨4, none, 160, 160, b79⟩] (fun m hm => by simp only [List.mem_singleton] at hm; subst hm; exact len_b79) (fun m hm => by simp only [List.mem_singleton] at hm; subst hm; decide) d3
  have hw6' : Gw d3 20000 (updM (Yk k1) Xd 5 (topL 5) 1000 [((4 : Int), b79)] d3 1 zr).1 := hw6
  rw [hup6] at hw6'
  obtain ⟨d8, hrm8, _, _⟩ := good_read hg6 (by omega) (by omega) 4 (by omega)
  have HG6 : Box (updM (Yk k1) Xd 5 (topL 5) 1000 [((4 : Int), b79)] d3 1 zr = (d6, 4, 0, R) ∧ OkR R ∧ d6.ops.length < 30000 ∧ d6.uw.length < 30000 ∧ readM (Yk k1) Xd 5 4 (topL 5) d6 R = (d8, 0, b79)) := ⟨hup6, hg6.okr, by have := hw6'.ops; have := HG3.out.2.1; simp only at *; omega, by have := hw6'.uw; have := HG3.out.2.2.1; simp only at *; omega, by rw [hrm8, aw_new]⟩
  obtain ⟨RR, HRR⟩ : ∃ A, Box (ra R = A) := ⟨_, ⟨rfl⟩⟩
  clear hT hT2 hD hd0 hrm3 hg3 hw3 hup6 hg6 hw6 hw6' hrm8
  go_enter Tryz.func9, Tryz.ntmps9
  go_upto_region 2 with (go_at_call 10; refine HD.out.mono ?_; rintro e x1 ⟨rfl, fp1, hc⟩; have H1 : Box (Disk.Cx w x1 D fp1 d0) := ⟨hc⟩; clear hc)
  have HVN : Box (Calls Tryz.prog 12 #[.pointer (some ⟨D, 0, none⟩), .agg AK, .int .i64 5, .agg RZ, .int .u64 1, .int .u64 1000] x1 fun e w' => ∃ V fp' sa sc, e = .returned (.tuple #[.pointer (some ⟨V, 0, none⟩), .int .i64 0]) ∧ VC w w' V D fp' v1 d0 sa sc) := ⟨by
    have := vnew_ok H1.out k1 ⟨len_k1, byt_k1⟩ 5 (by omega) (by omega) zr okR_zr 1 1000 ⟨by omega, by omega⟩ ⟨by omega, by omega⟩ HT.out.1 HT.out.2 (by rw [aw_off, HD0.out.2.1]; omega) (by omega) (by omega)
    rw [HAK.out, HRZ.out] at this
    exact this.mono fun e w' ⟨V, fp', sa, sc, h1, h2, _⟩ => ⟨V, fp', sa, sc, h1, h2⟩⟩
  go_upto_region 3 with (first
    | (refine atBuild 23 ?_; refine wpList_run rfl _ _ (exec_built 23 [(0, .const (.int .u8 1))] rfl [(0, .int .u8 1)] rfl AK (by rw [← HAK.out]; exact built_K)) ?_)
    | (refine atBuild 26 ?_; refine wpList_run rfl _ _ (exec_built 26 [] rfl [] rfl RZ (by rw [← HRZ.out]; exact built_R0)) ?_)
    | (go_at_call 12; refine HVN.out.mono ?_; rintro e x2 ⟨V, fp2, sa, sc, rfl, hc⟩; have H2 : Box (VC w x2 V D fp2 v1 d0 sa sc) := ⟨hc⟩; clear hc))
  have HR1 : Box (Calls Tryz.prog 26 #[.pointer (some ⟨V, 0, none⟩), .int .u64 4] x2 fun e w' => ∃ fp' a, e = .returned (.tuple #[.slice a 160 160, .int .i64 0]) ∧ VC w w' V D fp' v1 d3 sa sc ∧ Bytes w' a 160 y160 ∧ ∀ ad, a = some ad → ¬ fp' ad.block ∧ ad.block ≠ V) := ⟨aw_read1 H2.out HD0.out.2.2.1 HD0.out.2.2.2.1 HG3.out.1⟩
  go_upto_region 6 with (go_at_call 26; refine HR1.out.mono ?_; rintro e x3 ⟨fp3, a3, rfl, h1, h2, h3⟩; have H3 : Box (VC w x3 V D fp3 v1 d3 sa sc ∧ Bytes x3 a3 160 y160 ∧ ∀ ad, a3 = some ad → ¬ fp3 ad.block ∧ ad.block ≠ V) := ⟨h1, h2, h3⟩; clear h1 h2 h3)
  clear HR1 HVN HD
  go_upto_region 7 with (at_make; refine wpList_run rfl _ _ (exec_make160 _ _ rfl rfl rfl) ?_)
  obtain ⟨g4, hg4⟩ : ∃ g, x3.heap.size = g := ⟨_, rfl⟩
  obtain ⟨x4, hx4⟩ : ∃ x, x3.alloc (.cells (u8s y160) 5) = x := ⟨_, rfl⟩
  simp only [hg4, hx4]
  have hr4 : x4.heap[g4]? = some (.cells (u8s y160) 5 (0, 0)) := by rw [← hx4]; exact al_at hg4
  have hb4 : Below x3.heap.size x3 x4 := by rw [← hx4]; exact (Below.refl _ _).alloc (Nat.le_refl _) _
  have hc4 : x4.cell? ⟨g4, 7, none⟩ = some (.int .u8 0) := by rw [cell_of_row _ _ _ _ _ _ hr4]; rfl
  have hf4 : x4.frozen? ⟨g4, 7, none⟩ = false := frozen_of_row _ _ _ _ _ hr4
  have H4 : Box (x4.heap[g4]? = some (.cells (u8s y160) 5 (0, 0)) ∧ Below x3.heap.size x3 x4 ∧ x3.heap.size = g4) := ⟨hr4, hb4, hg4⟩
  clear hr4 hb4 hg4 hx4
  go_upto_region 8 with fail
  obtain ⟨x5, hx5⟩ : ∃ x, x4.setCell ⟨g4, 7, none⟩ (.int .u8 9) = x := ⟨_, rfl⟩
  (try simp only [hx5])
  have hr5 : x5.heap[g4]? = some (.cells (u8s b79) 5 (0, 0)) := by
    rw [← hx5, heap_setCell_same x4 g4 7 _ 5 (.int .u8 9) H4.out.1]
    kernel_rfl
  have hb5 : Below x3.heap.size x3 x5 := by rw [← hx5]; exact below_set H4.out.2.1 (by rw [H4.out.2.2]; exact Nat.le_refl _) _
  obtain ⟨b3, o3, ha3, hlt3, hcl3⟩ := H3.out.2.1.2.2 (by omega)
  subst ha3
  have H5 : Box (x5.heap[g4]? = some (.cells (u8s b79) 5 (0, 0)) ∧ Below x3.heap.size x3 x5 ∧ VC w x5 V D fp3 v1 d3 sa sc ∧ ¬ fp3 g4 ∧ g4 ≠ V) := ⟨hr5, hb5, H3.out.1.below hb5, fun hf => by have := H3.out.1.cx.hi _ hf; have := H4.out.2.2; omega, fun e => by have := H3.out.1.lt; have := H4.out.2.2; omega⟩
  have H3a : Box (b3 < x5.heap.size ∧ ¬ fp3 b3 ∧ b3 ≠ V ∧ x5.cell? ⟨b3, o3 + 7, none⟩ = some (.int .u8 0)) := ⟨Nat.lt_of_lt_of_le hlt3 hb5.size, (H3.out.2.2 _ rfl).1, (H3.out.2.2 _ rfl).2, by
    have h7 := hcl3 7 (by omega)
    rw [hb5.cell hlt3, h7]
    rfl⟩
  clear hr5 hb5 hlt3 hcl3 hx5 hc4 hf4
  have HUP : Box (Calls Tryz.prog 19 #[.pointer (some ⟨V, 0, none⟩), .slice (some ⟨x5.heap.size, 0, none⟩) 1 1] (x5.alloc (.cells #[.int .u64 4, .slice (some ⟨g4, 0, none⟩) 160 160] 65)) fun e w' => ∃ fp', e = .returned (.tuple #[.agg RR, .int .i64 0]) ∧ VC w w' V D fp' ⟨k1, 5, zr, 4, 1000⟩ d6 sa sc ∧ Fw (fun k => k = V) x5 w' fp3 fp') := ⟨by
    have := aw_update H5.out.1 H5.out.2.2.1 H5.out.2.2.2.1 H5.out.2.2.2.2 HG3.out.2.2.2 HG3.out.2.1 HG3.out.2.2.1 HG6.out.1
    rw [HRR.out] at this
    exact this⟩
  have HRS : Box ((Tryz.prog.info? 26).map (·.size) = some RR.size ∧ (ra zr).size = RR.size ∧ RR.all (·.oneCell') = true) := ⟨by rw [← HRR.out, size_ra HG6.out.2.1]; exact infoR, by rw [← HRR.out, size_ra HG6.out.2.1, size_ra okR_zr], by rw [← HRR.out]; exact all_ra R⟩
  go_upto_region 9 with (first
    | (refine atBuild 65 ?_; refine wpList_run rfl _ _ (exec_built 65 [(0, .const (.int .u64 4)), (1, .tmp 47)] rfl [(0, .int .u64 4), (1, .slice (some ⟨g4, 0, none⟩) 160 160)] rfl _ (built_I4 _ _ _)) ?_)
    | (go_at_call 19; refine HUP.out.mono ?_; rintro e x6 ⟨fp6, rfl, h1, h2⟩; have H6 : Box (VC w x6 V D fp6 ⟨k1, 5, zr, 4, 1000⟩ d6 sa sc ∧ Fw (fun k => k = V) x5 x6 fp3 fp6) := ⟨h1, h2⟩; clear h1 h2)
    | (refine atAlloc _ ?_; refine wpList_run rfl _ _ (exec_alloc 26 rfl _ zeroR) ?_)
    | (refine atStore _ ?_; refine wpList_newRow x6 (ra zr) RR HRS.out.1 HRS.out.2.1 HRS.out.2.2 rfl _ _ rfl rfl rfl rfl ?_; intro x7 h7 hb7; have H7 : Box (x7.heap[x6.heap.size]? = some (.cells RR 26 (0, 0)) ∧ Below x6.heap.size x6 x7) := ⟨h7, hb7⟩; clear h7 hb7))
  clear HUP
  have HAD : Box (Calls Tryz.prog 21 #[.pointer (some ⟨V, 0, none⟩), .agg RR, .int .u64 1000] x7 fun e w' => e = .returned (.tuple #[]) ∧ VC w w' V D fp6 (v2 R) d6 sa sc ∧ Fw (fun k => k = V) x7 w' fp6 fp6) := ⟨by
    have := aw_adopt (H6.out.1.below H7.out.2) HG6.out.2.1
    rw [HRR.out] at this
    exact this⟩
  have HRY : Box (x7.rangeAt x6.heap.size 0 RR.toList) := ⟨fun j q hq => by
    rw [cell_of_row _ _ _ _ _ _ H7.out.1, Nat.zero_add]
    simpa using hq⟩
  have HRI : Box ((Tryz.prog.info? 26).map (·.size) = some RR.toList.length) := ⟨by rw [Array.length_toList]; exact HRS.out.1⟩
  go_upto_region 10 with (first
    | (refine atLoad 26 ?_; refine wpList_ldMid rfl 26 _ _ rfl Tryz.underlying26 rfl x6.heap.size 0 rfl RR.toList HRI.out HRY.out ?_)
    | (go_at_call 21; refine HAD.out.mono ?_; rintro e x8 ⟨rfl, h1, h2⟩; have H8 : Box (VC w x8 V D fp6 (v2 R) d6 sa sc ∧ Fw (fun k => k = V) x7 x8 fp6 fp6) := ⟨h1, h2⟩; clear h1 h2))
  clear HAD HRY HRI
  have HR2 : Box (Calls Tryz.prog 26 #[.pointer (some ⟨V, 0, none⟩), .int .u64 4] x8 fun e w' => ∃ fp' a, e = .returned (.tuple #[.slice a 160 160, .int .i64 0]) ∧ VC w w' V D fp' (v2 R) d8 sa sc ∧ Bytes w' a 160 b79 ∧ Fw No x8 w' fp6 fp') := ⟨aw_read2 H8.out.1 HG6.out.2.2.1 HG6.out.2.2.2.1 HG6.out.2.2.2.2⟩
  go_upto_region 11 with (go_at_call 26; refine HR2.out.mono ?_; rintro e x9 ⟨fp9, a9, rfl, h1, h2, h3⟩; have H9 : Box (VC w x9 V D fp9 (v2 R) d8 sa sc ∧ Bytes x9 a9 160 b79 ∧ Fw No x8 x9 fp6 fp9) := ⟨h1, h2, h3⟩; clear h1 h2 h3)
  clear HR2
  obtain ⟨b9, o9, ha9, hlt9, hcl9⟩ := H9.out.2.1.2.2 (by omega)
  subst ha9
  have H9c : Box (b9 < x9.heap.size ∧ x9.cell? ⟨b9, o9 + 7, none⟩ = some (.int .u8 9)) := ⟨hlt9, by
    have h7 := hcl9 7 (by omega)
    rw [h7]
    rfl⟩
  have H3c : Box (b3 < x9.heap.size ∧ x9.cell? ⟨b3, o3 + 7, none⟩ = some (.int .u8 0)) := ⟨by
    have := H3a.out.1; have := H6.out.2.size; have := H7.out.2.size; have := H8.out.2.size; have := H9.out.2.2.size
    omega, by
    have l6 : b3 < x6.heap.size := Nat.lt_of_lt_of_le H3a.out.1 H6.out.2.size
    have l7 : b3 < x7.heap.size := Nat.lt_of_lt_of_le l6 H7.out.2.size
    have l8 : b3 < x8.heap.size := Nat.lt_of_lt_of_le l7 H8.out.2.size
    have n6 : ¬ fp6 b3 := H6.out.2.k b3 H3a.out.1 H3a.out.2.1
    have e6 := H6.out.2.block H3a.out.1 H3a.out.2.1 H3a.out.2.2.1
    have e7 := H7.out.2.block b3 l6
    have e8 := H8.out.2.block l7 n6 H3a.out.2.2.1
    have e9 := H9.out.2.2.block l8 n6 id
    have e : x9.heap[b3]? = x5.heap[b3]? := e9.trans (e8.trans (e7.trans e6))
    exact (World.cell?_of_block e).trans H3a.out.2.2.2⟩
  clear hlt9 hcl9
  go_upto_region 12 with (go_at_call 29; refine (aw_places _).mono ?_; rintro e x10 ⟨rfl, hb⟩; have H10 : Box (Below x9.heap.size x9 x10) := ⟨hb⟩; clear hb)
  have HTP : Box (Calls Tryz.prog 16 #[.pointer (some ⟨V, 0, none⟩)] x10 fun e w' => e = .returned (.tuple #[.agg RR, .int .u64 4]) ∧ Below x10.heap.size x10 w') := ⟨by
    have C := H9.out.1.below H10.out
    have := top_v C.row C.ok
    have e : ra (v2 R).top = RR := HRR.out
    rw [e] at this
    exact this⟩
  go_upto_region 13 with (first
    | (go_at_call 16; refine HTP.out.mono ?_; rintro e x11 ⟨rfl, hb⟩; have H11 : Box (Below x9.heap.size x9 x11) := ⟨below_to H10.out hb⟩; clear hb)
    | (refine atAlloc _ ?_; refine wpList_run rfl _ _ (exec_alloc 26 rfl _ zeroR) ?_)
    | (refine atStore _ ?_; refine wpList_newRow x11 (ra zr) RR HRS.out.1 HRS.out.2.1 HRS.out.2.2 rfl _ _ rfl rfl rfl rfl ?_; intro x12 h12 hb12; have H12 : Box (Below x9.heap.size x9 x12) := ⟨below_to H11.out hb12⟩; clear h12 hb12))
  have c3 : x12.cell? ⟨b3, o3 + 7, none⟩ = some (.int .u8 0) := (H12.out.cell H3c.out.1).trans H3c.out.2
  have c9 : x12.cell? ⟨b9, o9 + 7, none⟩ = some (.int .u8 9) := (H12.out.cell H9c.out.1).trans H9c.out.2
  go_wp2
  go_ret
  exact ⟨rfl, below_to H9.out.1.cx.bel H12.out⟩
end Go.Proofs.YtnicgmimhgbcfaaGreatDoor
