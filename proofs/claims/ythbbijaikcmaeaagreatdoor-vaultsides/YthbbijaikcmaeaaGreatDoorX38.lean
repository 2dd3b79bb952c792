/-
  Awake of the laws of layer 11: a vault that reads noughts, and what is put. And what follows it.
-/
import Derived.Test.YthbbijaikcmaeaaGreatDoorX37
import Derived.Test.YthbbijaikcmaeaaGreatDoorCards
import Derived.Test.YthbbijaikcmaeaaGreatDoorTie
import Derived.ProofKit
import Derived.OpenShut
import Derived.ShutString
import Derived.ChangeOld
import Derived.Below
import Derived.Deep.DeepHandedRow
import Derived.Lib.LaidTab
import Derived.Deep.Grids
import Derived.Test.YthbbijaikcmaeaaGreatDoorX00
import Derived.Test.YthbbijaikcmaeaaGreatDoorX36
namespace Go.Proofs.YthbbijaikcmaeaaGreatDoor
set_option maxRecDepth 100000
set_option linter.unusedVariables false
set_option maxRecDepth 100000
open Go.RowKit Go.Shelf Plain Go.Proofs.YthbbijaikcmaeaaGreatDoor.Shap.Plain
attribute [local go_sem] Oper.semAt_some
def k1 : List Int := 1 :: List.replicate 31 0
theorem len_k1 : k1.length = 32 := by simp [k1]
theorem byt_k1 : Byt k1 := fun i => by
  cases i with
  | zero => decide
  | succ i => simpa [k1] using byt_zeros 31 i
theorem built_K : Tryz.prog.built 23 [(0, .int .u8 1)] = some (u8s k1) := by kernel_rfl
theorem built_I4 (a : Option Addr) (l c : Nat) : Tryz.prog.built 41 [(0, .int .u64 4), (1, .slice a l c)] = some #[.int .u64 4, .slice a l c] := by kernel_rfl
theorem len_y160 : y160.length = 160 := by simp [y160]
theorem Good.okr {K : List Int} {n : Nat} {d : Disk.Dk} {f : Nat → List Int} {top : Rf} (h : Good K n d f top) : OkR top := by
  obtain ⟨Kk, h1, h2⟩ := h.is
  rw [← h2]
  exact h1.okr _ _
theorem aw_new : newF (fun _ => y160) (lastB [((4 : Int), b79)]) 4 = b79 := rfl
def v1 : Vt := ⟨k1, 5, zr, 1, 1000⟩
def v2 (R : Rf) : Vt := ⟨k1, 5, R, 4, mn63 1000⟩
theorem aw_update {w x5 : World} {V D : Nat} {fp3 : Nat → Prop} {sa : Option Addr} {sc g4 : Nat} {d3 d6 : Disk.Dk} {R : Rf} (h1 : x5.heap[g4]? = some (.cells (u8s b79) 5 (0, 0))) (h3 : VC w x5 V D fp3 v1 d3 sa sc) (h4 : ¬ fp3 g4) (h5 : g4 ≠ V)
    (hl : 0 ≤ d3.left ∧ d3.left ≤ 9223372036854775807) (ho : d3.ops.length < 100) (hu : d3.uw.length < 100) (hup : updM (Yk k1) Xd 5 (topL 5) 1000 [((4 : Int), b79)] d3 1 zr = (d6, 4, 0, R)) :
    Calls Tryz.prog 11 #[.pointer (some ⟨V, 0, none⟩), .slice (some ⟨x5.heap.size, 0, none⟩) 1 1] (x5.alloc (.cells #[.int .u64 4, .slice (some ⟨g4, 0, none⟩) 160 160] 41)) fun e w' => ∃ fp', e = .returned (.tuple #[.agg (ra R), .int .i64 0]) ∧ VC w w' V D fp' ⟨k1, 5, zr, 4, 1000⟩ d6 sa sc ∧ Fw (fun k => k = V) x5 w' fp3 fp' := by
  obtain ⟨y, hy⟩ : ∃ y, x5.alloc (.cells #[.int .u64 4, .slice (some ⟨g4, 0, none⟩) 160 160] 41) = y := ⟨_, rfl⟩
  have hb : Below x5.heap.size x5 y := by rw [← hy]; exact (Below.refl _ _).alloc (Nat.le_refl _) _
  have hrow : y.heap[x5.heap.size]? = some (.cells #[.int .u64 4, .slice (some ⟨g4, 0, none⟩) 160 160] 41 (0, 0)) := by rw [← hy]; exact al_at rfl
  rw [hy]
  have hg5 : y.heap[g4]? = some (.cells (u8s b79) 5 (0, 0)) := (hb.block g4 (Array.getElem?_eq_some_iff.1 h1).1).trans h1
  obtain ⟨B, hB, hBl, hBy⟩ : ∃ B, b79 = B ∧ B.length = 160 ∧ Byt B := ⟨_, rfl, len_b79, byt_b79⟩
  rw [hB] at hup hg5
  have hM : Imgs y (some ⟨x5.heap.size, 0, none⟩) [⟨4, some ⟨g4, 0, none⟩, 160, 160, B⟩] := by
    refine ⟨fun _ => ⟨x5.heap.size, 0, rfl, (Array.getElem?_eq_some_iff.1 hrow).1, fun i hi j q hq => ?_⟩, fun m hm => ?_⟩
    · have e : i = 0 := by simp at hi; exact hi
      subst e
      rw [cell_of_row _ _ _ _ _ _ hrow]
      simpa [imc] using hq
    · simp only [List.mem_singleton] at hm
      subst hm
      exact ⟨by have := bytes_of_row hBy hg5; rw [hBl] at this; exact this, by show (0 : Int) ≤ 4; decide, by show (4 : Int) ≤ _; decide, by show 160 ≤ maxLen; unfold maxLen; omega⟩
  have := update_v (h3.below hb) _ 1 _ hM (by simp) (fun m hm ad e => by simp only [List.mem_singleton] at hm; subst hm; cases e; exact ⟨h4, h5⟩) (by decide) hl (by omega) (by omega)
  have e2 : updM (Yk v1.key) Xd v1.n (topL v1.n) v1.lim (LM [⟨4, some ⟨g4, 0, none⟩, 160, 160, B⟩]) d3 v1.nx v1.top = (d6, 4, 0, R) := hup
  rw [e2] at this
  refine this.mono ?_
  rintro e w' ⟨fp', q1, q2, q3⟩
  exact ⟨fp', q1, q2, (Fw.below _ fp3 hb).trans q3⟩
theorem aw_read1 {w x2 : World} {V D : Nat} {fp2 : Nat → Prop} {sa : Option Addr} {sc : Nat} {d0 d3 : Disk.Dk} (h : VC w x2 V D fp2 v1 d0 sa sc) (ho : d0.ops.length = 0) (hu : d0.uw.length = 0) (hr : readM (Yk k1) Xd 5 4 (topL 5) d0 zr = (d3, 0, y160)) :
    Calls Tryz.prog 18 #[.pointer (some ⟨V, 0, none⟩), .int .u64 4] x2 fun e w' => ∃ fp' a, e = .returned (.tuple #[.slice a 160 160, .int .i64 0]) ∧ VC w w' V D fp' v1 d3 sa sc ∧ Bytes w' a 160 y160 ∧ ∀ ad, a = some ad → ¬ fp' ad.block ∧ ad.block ≠ V := by
  have := read_z h 4 (by decide) (by rw [ho]; omega) (by rw [hu]; omega) rfl
  have e2 : readM (Yk v1.key) Xd v1.n 4 (topL v1.n) d0 v1.top = (d3, 0, y160) := hr
  rw [e2] at this
  refine this.mono ?_
  rintro e w' ⟨fp', a, h1, h2, h3, h4, h5⟩
  simp only [len_y160] at h3 h4
  exact ⟨fp', a, h3, h1, h4, fun ad e => ⟨(h5 ad e).1, by have := (h5 ad e).2; have := h.lt; omega⟩⟩
theorem aw_read2 {w x8 : World} {V D : Nat} {fp6 : Nat → Prop} {sa : Option Addr} {sc : Nat} {d6 d8 : Disk.Dk} {R : Rf} (h : VC w x8 V D fp6 (v2 R) d6 sa sc) (ho : d6.ops.length < 30000) (hu : d6.uw.length < 30000) (hr : readM (Yk k1) Xd 5 4 (topL 5) d6 R = (d8, 0, b79)) :
    Calls Tryz.prog 18 #[.pointer (some ⟨V, 0, none⟩), .int .u64 4] x8 fun e w' => ∃ fp' a, e = .returned (.tuple #[.slice a 160 160, .int .i64 0]) ∧ VC w w' V D fp' (v2 R) d8 sa sc ∧ Bytes w' a 160 b79 ∧ Fw No x8 w' fp6 fp' := by
  have := read_ok h 4 (show 4 < 5 by omega) (by omega) (by omega)
  have e2 : readM (Yk (v2 R).key) Xd (v2 R).n 4 (topL (v2 R).n) d6 (v2 R).top = (d8, 0, b79) := hr
  rw [e2] at this
  refine this.mono ?_
  rintro e w' ⟨fp', a, h1, h2, h3, h4⟩
  simp only [len_b79] at h3 h4
  exact ⟨fp', a, h3, h1, h4, h2⟩
theorem aw_adopt {w x7 : World} {V D : Nat} {fp6 : Nat → Prop} {sa : Option Addr} {sc : Nat} {d6 : Disk.Dk} {R : Rf} (h : VC w x7 V D fp6 ⟨k1, 5, zr, 4, 1000⟩ d6 sa sc) (hR : OkR R) :
    Calls Tryz.prog 13 #[.pointer (some ⟨V, 0, none⟩), .agg (ra R), .int .u64 1000] x7 fun e w' => e = .returned (.tuple #[]) ∧ VC w w' V D fp6 (v2 R) d6 sa sc ∧ Fw (fun k => k = V) x7 w' fp6 fp6 := adopt_v h R hR 1000 ⟨by decide, by decide⟩
theorem aw_places (x : World) : Calls Tryz.prog 22 #[.int .i64 5] x fun e w' => e = .returned (.tuple #[.int .i64 16, .int .i64 0]) ∧ Below x.heap.size x w' := by
  have := places_ok 5 x (by omega) (by omega)
  rw [aw_off] at this
  exact this
end Go.Proofs.YthbbijaikcmaeaaGreatDoor
namespace Go.Proofs.YthbbijaikcmaeaaGreatDoor
set_option maxRecDepth 100000
set_option linter.unusedVariables false
open Go.RowKit Go.Shelf Plain Go.Proofs.YthbbijaikcmaeaaGreatDoor.Shap.Plain
attribute [local go_sem] Oper.semAt_some
set_option maxRecDepth 20000 in
set_option maxHeartbeats 4000000 in
theorem awake_v (w : World) (hT : Dig.Tabs w) (hT2 : Seal.Tab w) : Calls Tryz.prog 7 #[] w fun e w' => e = .returned (.bool true) ∧ Below w.heap.size w w' := by
  obtain ⟨D, hD⟩ : ∃ D, w.heap.size + 1 = D := ⟨_, rfl⟩
  have HD : Box (Calls Tryz.prog 8 #[.int .i64 40] w fun e w' => e = .returned (.tuple #[.pointer (some ⟨D, 0, none⟩), .int .i64 0]) ∧ ∃ fp, Disk.Cx w w' D fp (Disk.dk0 40)) := ⟨by have := Disk.new_cx w 40 ⟨by omega, by omega⟩; rw [hD] at this; exact this⟩
  obtain ⟨d0, hd0⟩ : ∃ d0, Disk.dk0 40 = d0 := ⟨_, rfl⟩
  rw [hd0] at HD
  have HD0 : Box (Up d0 ∧ d0.n = 40 ∧ d0.ops.length = 0 ∧ d0.uw.length = 0 ∧ (0 ≤ d0.left ∧ d0.left ≤ 9223372036854775807)) := ⟨by rw [← hd0]; exact ⟨⟨rfl, rfl⟩, rfl, rfl, rfl, by decide, by decide⟩⟩
  have HT : Box (Dig.Tabs w ∧ Seal.Tab w) := ⟨hT, hT2⟩
  obtain ⟨AK, HAK⟩ : ∃ A, Box (u8s k1 = A) := ⟨_, ⟨rfl⟩⟩
  obtain ⟨RZ, HRZ⟩ : ∃ A, Box (ra zr = A) := ⟨_, ⟨rfl⟩⟩
  -- plainly
  obtain ⟨d3, hrm3, hg3, _⟩ := good_read (good_new k1 5 d0 HD0.out.1) (by omega) (by omega) 4 (by omega)
  have hw3 := gw_read k1 5 4 (topL 5) d0 zr
  rw [hrm3] at hw3
  have HG3 : Box (readM (Yk k1) Xd 5 4 (topL 5) d0 zr = (d3, 0, y160) ∧ d3.ops.length < 100 ∧ d3.uw.length < 100 ∧ (0 ≤ d3.left ∧ d3.left ≤ 9223372036854775807)) := ⟨hrm3, by have := hw3.ops; have := HD0.out.2.2.1; simp only [aw_top] at *; omega, by have := hw3.uw; have := HD0.out.2.2.2.1; simp only [aw_top] at *; omega, hw3.left HD0.out.2.2.2.2⟩
  obtain ⟨d6, R, hup6, hg6, _⟩ := good_update hg3 (by omega) (by omega) [((4 : Int), b79)] (fun x hx => by simp only [List.mem_singleton] at hx; subst hx; exact ⟨len_b79, byt_b79, by decide, by decide⟩) (by simp) 1 1000 (by omega) (by omega) (by rw [aw_its]; decide)
  rw [aw_its] at hup6
  have hw6 := gw_updM v1 ⟨len_k1, byt_k1, by decide, by decide, okR_zr, by decide, by decide⟩ [⟨4, none, 160, 160, b79⟩] (fun m hm => by simp only [List.mem_singleton] at hm; subst hm; exact len_b79) (fun m hm => by simp only [List.mem_singleton] at hm; subst hm; decide) d3
  have hw6' : Gw d3 20000 (updM (Yk k1) Xd 5 (topL 5) 1000 [((4 : Int), b79)] d3 1 zr).1 := hw6
  rw [hup6] at hw6'
  obtain ⟨d8, hrm8, _, _⟩ := good_read hg6 (by omega) (by omega) 4 (by omega)
  have HG6 : Box (updM (Yk k1) Xd 5 (topL 5) 1000 [((4 : Int), b79)] d3 1 zr = (d6, 4, 0, R) ∧ OkR R ∧ d6.ops.length < 30000 ∧ d6.uw.length < 30000 ∧ readM (Yk k1) Xd 5 4 (topL 5) d6 R = (d8, 0, b79)) := ⟨hup6, hg6.okr, by have := hw6'.ops; have := HG3.out.2.1; simp only at *; omega, by have := hw6'.uw; have := HG3.out.2.2.1; simp only at *; omega, by rw [hrm8, aw_new]⟩
  obtain ⟨RR, HRR⟩ : ∃ A, Box (ra R = A) := ⟨_, ⟨rfl⟩⟩
  clear hT hT2 hD hd0 hrm3 hg3 hw3 hup6 hg6 hw6 hw6' hrm8
  go_enter Tryz.func7, Tryz.ntmps7
  go_upto_region 2 with (go_at_call 8; refine HD.out.mono ?_; rintro e x1 ⟨rfl, fp1, hc⟩; have H1 : Box (Disk.Cx w x1 D fp1 d0) := ⟨hc⟩; clear hc)
  have HVN : Box (Calls Tryz.prog 9 #[.pointer (some ⟨D, 0, none⟩), .agg AK, .int .i64 5, .agg RZ, .int .u64 1, .int .u64 1000] x1 fun e w' => ∃ V fp' sa sc, e = .returned (.tuple #[.pointer (some ⟨V, 0, none⟩), .int .i64 0]) ∧ VC w w' V D fp' v1 d0 sa sc) := ⟨by
    have := vnew_ok H1.out k1 ⟨len_k1, byt_k1⟩ 5 (by omega) (by omega) zr okR_zr 1 1000 ⟨by omega, by omega⟩ ⟨by omega, by omega⟩ HT.out.1 HT.out.2 (by rw [aw_off, HD0.out.2.1]; omega) (by omega) (by omega)
    rw [HAK.out, HRZ.out] at this
    exact this.mono fun e w' ⟨V, fp', sa, sc, h1, h2, _⟩ => ⟨V, fp', sa, sc, h1, h2⟩⟩
  go_upto_region 3 with (first
    | (refine atBuild 23 ?_; refine wpList_run rfl _ _ (exec_built 23 [(0, .const (.int .u8 1))] rfl [(0, .int .u8 1)] rfl AK (by rw [← HAK.out]; exact built_K)) ?_)
    | (refine atBuild 36 ?_; refine wpList_run rfl _ _ (exec_built 36 [] rfl [] rfl RZ (by rw [← HRZ.out]; exact built_R0)) ?_)
    | (go_at_call 9; refine HVN.out.mono ?_; rintro e x2 ⟨V, fp2, sa, sc, rfl, hc⟩; have H2 : Box (VC w x2 V D fp2 v1 d0 sa sc) := ⟨hc⟩; clear hc))
  have HR1 : Box (Calls Tryz.prog 18 #[.pointer (some ⟨V, 0, none⟩), .int .u64 4] x2 fun e w' => ∃ fp' a, e = .returned (.tuple #[.slice a 160 160, .int .i64 0]) ∧ VC w w' V D fp' v1 d3 sa sc ∧ Bytes w' a 160 y160 ∧ ∀ ad, a = some ad → ¬ fp' ad.block ∧ ad.block ≠ V) := ⟨aw_read1 H2.out HD0.out.2.2.1 HD0.out.2.2.2.1 HG3.out.1⟩
  go_upto_region 6 with (go_at_call 18; refine HR1.out.mono ?_; rintro e x3 ⟨fp3, a3, rfl, h1, h2, h3⟩; have H3 : Box (VC w x3 V D fp3 v1 d3 sa sc ∧ Bytes x3 a3 160 y160 ∧ ∀ ad, a3 = some ad → ¬ fp3 ad.block ∧ ad.block ≠ V) := ⟨h1, h2, h3⟩; clear h1 h2 h3)
  clear HR1 HVN HD
  go_upto_region 7 with (at_make; refine wpList_run rfl _ _ (exec_make160 _ _ rfl rfl rfl) ?_)
  obtain ⟨g4, hg4⟩ : ∃ g, x3.heap.size = g := ⟨_, rfl⟩
  obtain ⟨x4, hx4⟩ : ∃ x, x3.alloc (.cells (u8s y160) 5) = x := ⟨_, rfl⟩
  simp only [hg4, hx4]
  have hr4 : x4.heap[g4]? = some (.cells (u8s y160) 5 (0, 0)) := by rw [← hx4]; exact al_at hg4
  have hb4 : Below x3.heap.size x3 x4 := by rw [← hx4]; exact (Below.refl _ _).alloc (Nat.le_refl _) _
  have hc4 : x4.cell? ⟨g4, 7, none⟩ = some (.int .u8 0) := by rw [cell_of_row _ _ _ _ _ _ hr4]; rfl
  have hf4 : x4.frozen? ⟨g4, 7, none⟩ = false := frozen_of_row _ _ _ _ _ hr4
  have H4 : Box (x4.heap[g4]? = some (.cells (u8s y160) 5 (0, 0)) ∧ Below x3.heap.size x3 x4 ∧ x3.heap.size = g4) := ⟨hr4, hb4, hg4⟩
  clear hr4 hb4 hg4 hx4
  go_upto_region 8 with fail
  obtain ⟨x5, hx5⟩ : ∃ x, x4.setCell ⟨g4, 7, none⟩ (.int .u8 9) = x := ⟨_, rfl⟩
  (try simp only [hx5])
  have hr5 : x5.heap[g4]? = some (.cells (u8s b79) 5 (0, 0)) := by
    rw [← hx5, heap_setCell_same x4 g4 7 _ 5 (.int .u8 9) H4.out.1]
    kernel_rfl
  have hb5 : Below x3.heap.size x3 x5 := by rw [← hx5]; exact below_set H4.out.2.1 (by rw [H4.out.2.2]; exact Nat.le_refl _) _
  obtain ⟨b3, o3, ha3, hlt3, hcl3⟩ := H3.out.2.1.2.2 (by omega)
  subst ha3
  have H5 : Box (x5.heap[g4]? = some (.cells (u8s b79) 5 (0, 0)) ∧ Below x3.heap.size x3 x5 ∧ VC w x5 V D fp3 v1 d3 sa sc ∧ ¬ fp3 g4 ∧ g4 ≠ V) := ⟨hr5, hb5, H3.out.1.below hb5, fun hf => by have := H3.out.1.cx.hi _ hf; have := H4.out.2.2; omega, fun e => by have := H3.out.1.lt; have := H4.out.2.2; omega⟩
  have H3a : Box (b3 < x5.heap.size ∧ ¬ fp3 b3 ∧ b3 ≠ V ∧ x5.cell? ⟨b3, o3 + 7, none⟩ = some (.int .u8 0)) := ⟨Nat.lt_of_lt_of_le hlt3 hb5.size, (H3.out.2.2 _ rfl).1, (H3.out.2.2 _ rfl).2, by
    have h7 := hcl3 7 (by omega)
    rw [hb5.cell hlt3, h7]
    rfl⟩
  clear hr5 hb5 hlt3 hcl3 hx5 hc4 hf4
  have HUP : Box (Calls Tryz.prog 11 #[.pointer (some ⟨V, 0, none⟩), .slice (some ⟨x5.heap.size, 0, none⟩) 1 1] (x5.alloc (.cells #[.int .u64 4, .slice (some ⟨g4, 0, none⟩) 160 160] 41)) fun e w' => ∃ fp', e = .returned (.tuple #[.agg RR, .int .i64 0]) ∧ VC w w' V D fp' ⟨k1, 5, zr, 4, 1000⟩ d6 sa sc ∧ Fw (fun k => k = V) x5 w' fp3 fp') := ⟨by
    have := aw_update H5.out.1 H5.out.2.2.1 H5.out.2.2.2.1 H5.out.2.2.2.2 HG3.out.2.2.2 HG3.out.2.1 HG3.out.2.2.1 HG6.out.1
    rw [HRR.out] at this
    exact this⟩
  have HRS : Box ((Tryz.prog.info? 36).map (·.size) = some RR.size ∧ (ra zr).size = RR.size ∧ RR.all (·.oneCell') = true) := ⟨by rw [← HRR.out, size_ra HG6.out.2.1]; exact infoR, by rw [← HRR.out, size_ra HG6.out.2.1, size_ra okR_zr], by rw [← HRR.out]; exact all_ra R⟩
  go_upto_region 9 with (first
    | (refine atBuild 41 ?_; refine wpList_run rfl _ _ (exec_built 41 [(0, .const (.int .u64 4)), (1, .tmp 47)] rfl [(0, .int .u64 4), (1, .slice (some ⟨g4, 0, none⟩) 160 160)] rfl _ (built_I4 _ _ _)) ?_)
    | (go_at_call 11; refine HUP.out.mono ?_; rintro e x6 ⟨fp6, rfl, h1, h2⟩; have H6 : Box (VC w x6 V D fp6 ⟨k1, 5, zr, 4, 1000⟩ d6 sa sc ∧ Fw (fun k => k = V) x5 x6 fp3 fp6) := ⟨h1, h2⟩; clear h1 h2)
    | (refine atAlloc _ ?_; refine wpList_run rfl _ _ (exec_alloc 36 rfl _ zeroR) ?_)
    | (refine atStore _ ?_; refine wpList_newRow x6 (ra zr) RR HRS.out.1 HRS.out.2.1 HRS.out.2.2 rfl _ _ rfl rfl rfl rfl ?_; intro x7 h7 hb7; have H7 : Box (x7.heap[x6.heap.size]? = some (.cells RR 36 (0, 0)) ∧ Below x6.heap.size x6 x7) := ⟨h7, hb7⟩; clear h7 hb7))
  clear HUP
  have HAD : Box (Calls Tryz.prog 13 #[.pointer (some ⟨V, 0, none⟩), .agg RR, .int .u64 1000] x7 fun e w' => e = .returned (.tuple #[]) ∧ VC w w' V D fp6 (v2 R) d6 sa sc ∧ Fw (fun k => k = V) x7 w' fp6 fp6) := ⟨by
    have := aw_adopt (H6.out.1.below H7.out.2) HG6.out.2.1
    rw [HRR.out] at this
    exact this⟩
  have HRY : Box (x7.rangeAt x6.heap.size 0 RR.toList) := ⟨fun j q hq => by
    rw [cell_of_row _ _ _ _ _ _ H7.out.1, Nat.zero_add]
    simpa using hq⟩
  have HRI : Box ((Tryz.prog.info? 36).map (·.size) = some RR.toList.length) := ⟨by rw [Array.length_toList]; exact HRS.out.1⟩
  go_upto_region 10 with (first
    | (refine atLoad 36 ?_; refine wpList_ldMid rfl 36 _ _ rfl Tryz.underlying36 rfl x6.heap.size 0 rfl RR.toList HRI.out HRY.out ?_)
    | (go_at_call 13; refine HAD.out.mono ?_; rintro e x8 ⟨rfl, h1, h2⟩; have H8 : Box (VC w x8 V D fp6 (v2 R) d6 sa sc ∧ Fw (fun k => k = V) x7 x8 fp6 fp6) := ⟨h1, h2⟩; clear h1 h2))
  clear HAD HRY HRI
  have HR2 : Box (Calls Tryz.prog 18 #[.pointer (some ⟨V, 0, none⟩), .int .u64 4] x8 fun e w' => ∃ fp' a, e = .returned (.tuple #[.slice a 160 160, .int .i64 0]) ∧ VC w w' V D fp' (v2 R) d8 sa sc ∧ Bytes w' a 160 b79 ∧ Fw No x8 w' fp6 fp') := ⟨aw_read2 H8.out.1 HG6.out.2.2.1 HG6.out.2.2.2.1 HG6.out.2.2.2.2⟩
  go_upto_region 11 with (go_at_call 18; refine HR2.out.mono ?_; rintro e x9 ⟨fp9, a9, rfl, h1, h2, h3⟩; have H9 : Box (VC w x9 V D fp9 (v2 R) d8 sa sc ∧ Bytes x9 a9 160 b79 ∧ Fw No x8 x9 fp6 fp9) := ⟨h1, h2, h3⟩; clear h1 h2 h3)
  clear HR2
  obtain ⟨b9, o9, ha9, hlt9, hcl9⟩ := H9.out.2.1.2.2 (by omega)
  subst ha9
  have H9c : Box (b9 < x9.heap.size ∧ x9.cell? ⟨b9, o9 + 7, none⟩ = some (.int .u8 9)) := ⟨hlt9, by
    have h7 := hcl9 7 (by omega)
    rw [h7]
    rfl⟩
  have H3c : Box (b3 < x9.heap.size ∧ x9.cell? ⟨b3, o3 + 7, none⟩ = some (.int .u8 0)) := ⟨by
    have := H3a.out.1; have := H6.out.2.size; have := H7.out.2.size; have := H8.out.2.size; have := H9.out.2.2.size
    omega, by
    have l6 : b3 < x6.heap.size := Nat.lt_of_lt_of_le H3a.out.1 H6.out.2.size
    have l7 : b3 < x7.heap.size := Nat.lt_of_lt_of_le l6 H7.out.2.size
    have l8 : b3 < x8.heap.size := Nat.lt_of_lt_of_le l7 H8.out.2.size
    have n6 : ¬ fp6 b3 := H6.out.2.k b3 H3a.out.1 H3a.out.2.1
    have e6 := H6.out.2.block H3a.out.1 H3a.out.2.1 H3a.out.2.2.1
    have e7 := H7.out.2.block b3 l6
    have e8 := H8.out.2.block l7 n6 H3a.out.2.2.1
    have e9 := H9.out.2.2.block l8 n6 id
    have e : x9.heap[b3]? = x5.heap[b3]? := e9.trans (e8.trans (e7.trans e6))
    exact (World.cell?_of_block e).trans H3a.out.2.2.2⟩
  clear hlt9 hcl9
  go_upto_region 12 with (go_at_call 22; refine (aw_places _).mono ?_; rintro e x10 ⟨rfl, hb⟩; have H10 : Box (Below x9.heap.size x9 x10) := ⟨hb⟩; clear hb)
  have HTP : Box (Calls Tryz.prog 20 #[.pointer (some ⟨V, 0, none⟩)] x10 fun e w' => e = .returned (.tuple #[.agg RR, .int .u64 4]) ∧ Below x10.heap.size x10 w') := ⟨by
    have C := H9.out.1.below H10.out
    have := top_v C.row C.ok
    have e : ra (v2 R).top = RR := HRR.out
    rw [e] at this
    exact this⟩
  go_upto_region 13 with (first
    | (go_at_call 20; refine HTP.out.mono ?_; rintro e x11 ⟨rfl, hb⟩; have H11 : Box (Below x9.heap.size x9 x11) := ⟨below_to H10.out hb⟩; clear hb)
    | (refine atAlloc _ ?_; refine wpList_run rfl _ _ (exec_alloc 36 rfl _ zeroR) ?_)
    | (refine atStore _ ?_; refine wpList_newRow x11 (ra zr) RR HRS.out.1 HRS.out.2.1 HRS.out.2.2 rfl _ _ rfl rfl rfl rfl ?_; intro x12 h12 hb12; have H12 : Box (Below x9.heap.size x9 x12) := ⟨below_to H11.out hb12⟩; clear h12 hb12))
  have c3 : x12.cell? ⟨b3, o3 + 7, none⟩ = some (.int .u8 0) := (H12.out.cell H3c.out.1).trans H3c.out.2
  have c9 : x12.cell? ⟨b9, o9 + 7, none⟩ = some (.int .u8 9) := (H12.out.cell H9c.out.1).trans H9c.out.2
  go_wp2
  go_ret
  exact ⟨rfl, below_to H9.out.1.cx.bel H12.out⟩
end Go.Proofs.YthbbijaikcmaeaaGreatDoor
namespace Go.Proofs.YthbbijaikcmaeaaGreatDoor
set_option maxRecDepth 100000
set_option linter.unusedVariables false
open Go.RowKit Plain Go.WideShapes
theorem gFirst : Tryz.prog.globalNamed "reliquary/digest.first" = some 0 := by kernel_rfl
theorem gRounds : Tryz.prog.globalNamed "reliquary/digest.rounds" = some 1 := by kernel_rfl
theorem gQuart : Tryz.prog.globalNamed "reliquary/cipher.quarters" = some 2 := by kernel_rfl
theorem tFirst : (Tryz.prog.globals[0]?).map (·.type) = some 113 := by kernel_rfl
theorem tRounds : (Tryz.prog.globals[1]?).map (·.type) = some 142 := by kernel_rfl
theorem tQuart : (Tryz.prog.globals[2]?).map (·.type) = some 207 := by kernel_rfl
def quads : List (List Int) := [[0, 4, 8, 12], [1, 5, 9, 13], [2, 6, 10, 14], [3, 7, 11, 15], [0, 5, 10, 15], [1, 6, 11, 12], [2, 7, 8, 13], [3, 4, 9, 14]]
def laid3 : List (String × DataW Unit) := [("reliquary/digest.first", Lib.tabData .u32 Dig.Plain.hh), ("reliquary/digest.rounds", Lib.tabData .u32 Dig.Plain.kk), ("reliquary/cipher.quarters", .agg (quads.map (Lib.tabData .i64)))]
theorem cell_block {w : World} {b o : Nat} {v : Value} (h : w.cell? ⟨b, o, none⟩ = some v) : b < w.heap.size := by
  apply Nat.lt_of_not_le
  intro hle
  simp [World.cell?, Array.getElem?_eq_none hle] at h
theorem quads_at (i : Nat) (h : i < 32) : (quads.getD (i / 4) []).getD (i % 4) 0 = Seal.Plain.qt.getD i 0 ∧ (quads.getD (i / 4) []).length = 4 := by
  have key : ∀ k : Fin 32, (quads.getD (k.val / 4) []).getD (k.val % 4) 0 = Seal.Plain.qt.getD k.val 0 ∧ (quads.getD (k.val / 4) []).length = 4 := by decide +kernel
  exact key ⟨i, h⟩
theorem tabs_of_laid {W : World} (h : laidMetH Tryz.prog laid3 W) : Dig.Tabs W ∧ Seal.Tab W := by
  have h' : laidMet Tryz.prog laid3 W := h
  obtain ⟨ps, ⟨g0, t0, cs0, f0, p0, q0, hg0, ht0, hv0, hd0, ⟨g1, t1, cs1, f1, p1, q1, hg1, ht1, hv1, hd1, ⟨g2, t2, cs2, f2, p2, q2, hg2, ht2, hv2, hd2, _, _⟩, _⟩, _⟩, _, _⟩ := h'
  obtain rfl := Option.some.inj (gFirst.symm.trans hg0)
  obtain rfl := Option.some.inj (gRounds.symm.trans hg1)
  obtain rfl := Option.some.inj (gQuart.symm.trans hg2)
  obtain rfl := Option.some.inj (tFirst.symm.trans ht0)
  obtain rfl := Option.some.inj (tRounds.symm.trans ht1)
  obtain rfl := Option.some.inj (tQuart.symm.trans ht2)
  have e0 : Lib.TabIs Tryz.prog W "reliquary/digest.first" .u32 Dig.Plain.hh := by
    unfold Lib.TabIs
    rw [hv0, ← Lib.cells_of_tab Tryz.underlying113 Tryz.underlying112 (by kernel_rfl) (by kernel_rfl) hd0]
  have e1 : Lib.TabIs Tryz.prog W "reliquary/digest.rounds" .u32 Dig.Plain.kk := by
    unfold Lib.TabIs
    rw [hv1, ← Lib.cells_of_tab Tryz.underlying142 Tryz.underlying112 (by kernel_rfl) (by kernel_rfl) hd1]
  obtain ⟨xs, m, _, hx, hl, hn, hel⟩ := DataW.trod_array Tryz.underlying207 hd2
  have hc4 : Tryz.prog.cellsOf 206 = 4 := by kernel_rfl
  have hx1 : xs.map (·.1) = quads.map (Lib.tabData .i64) := by
    have := congrArg Prod.fst hx
    simp only [DataW.agg.injEq] at this
    exact this.symm
  have hrow : ∀ j, j < 8 → (cs2.toList.drop (j * 4)).take 4 = (quads.getD j []).map fun z => Value.int .i64 z := by
    intro j hj
    have h1 := hel j hj
    rw [hc4] at h1
    obtain ⟨y, hy⟩ : ∃ y, xs[j]? = some y := ⟨xs[j]'(by omega), by simp [hn, hj]⟩
    rw [hy] at h1
    obtain ⟨y1, y2⟩ := y
    have e1 : y1 = Lib.tabData .i64 (quads.getD j []) := by
      have h2 : (xs.map (·.1))[j]? = some y1 := by simp [hy]
      rw [hx1] at h2
      have hq : j < quads.length := hj
      simp only [List.getElem?_map, List.getElem?_eq_getElem hq, Option.map_some, Option.some.injEq] at h2
      rw [← h2]
      simp [List.getD, hq]
    subst e1
    exact Lib.cells_of_tab Tryz.underlying206 Tryz.underlying3 (by kernel_rfl) (by kernel_rfl) h1
  have hcell : ∀ i, i < 32 → W.cell? ⟨2, i, none⟩ = some (.int .i64 (Seal.Plain.qt.getD i 0)) := by
    intro i hi
    have h1 := hrow (i / 4) (by omega)
    have h2 := congrArg (·[i % 4]?) h1
    simp only [List.getElem?_take, List.getElem?_drop, List.getElem?_map] at h2
    rw [if_pos (by omega), show i / 4 * 4 + i % 4 = i by omega] at h2
    obtain ⟨q1, q2⟩ := quads_at i hi
    have q3 : (quads.getD (i / 4) [])[i % 4]? = some (Seal.Plain.qt.getD i 0) := by
      rw [← q1]
      have : i % 4 < (quads.getD (i / 4) []).length := by omega
      generalize quads.getD (i / 4) [] = Q at this ⊢
      simp [List.getD, this]
    rw [q3] at h2
    have h3 := World.var?_cell gQuart hv2 i
    rw [h3]
    simpa using h2
  refine ⟨⟨?_, fun i hi => e0.cell gFirst i hi, fun i hi => e1.cell gRounds i hi⟩, cell_block (hcell 0 (by omega)), hcell⟩
  have := cell_block (e1.cell gRounds 0 (by decide))
  omega
def putTab (cs : Array Value) : Obj → Obj
  | .cells _ t frozen => .cells cs t frozen
  | o => o
noncomputable def laidWorld (os : Os) : World :=
  { World.holding Tryz.prog os ⟨#[], #[], []⟩ with heap := (((World.holding Tryz.prog os ⟨#[], #[], []⟩).heap.modify 0 (putTab (u32s Dig.Plain.hh))).modify 1 (putTab (u32s Dig.Plain.kk))).modify 2 (putTab (Seal.Plain.qt.map (Value.int .i64)).toArray) }
def numOf : Option Value → Int
  | some (.int _ z) => z
  | _ => 0
theorem cells5 : Tryz.prog.cellsOf 5 = 1 := by kernel_rfl
theorem cellsU : Tryz.prog.cellsOf 34 = 1 := by kernel_rfl
theorem cellsS : Tryz.prog.cellsOf 23 = 32 := by kernel_rfl
theorem open_sumL {H : Type} {enc : TypeId × Value → H} {W : World} {base : Nat} {sp : Nat → Bool} {held : Bool} {fuel : Nat} {cs : List Value} {x : DataW H × List MemPlace} (h : DataW.trod enc Tryz.prog W base sp held fuel 23 cs = some x) : ∃ D : List Int, cs = D.map (Value.int .u8) ∧ D.length = 32 ∧ Byt D := by
  obtain ⟨xs, m, _, _, hl, hn, hel⟩ := DataW.trod_array Tryz.underlying23 h
  rw [cellsS] at hl
  have key : ∀ i, i < 32 → ∃ z, cs[i]? = some (.int .u8 z) ∧ 0 ≤ z ∧ z ≤ 255 := by
    intro i hi
    have := hel i hi
    rw [cells5, Nat.mul_one] at this
    have hx : ∃ y, xs[i]? = some y := ⟨xs[i]'(by omega), by simp [hn, hi]⟩
    obtain ⟨y, hy⟩ := hx
    rw [hy] at this
    obtain ⟨z, hz, _, hw⟩ := DataW.trod_int Tryz.underlying5 this
    have hb := bounds_u8 hw
    refine ⟨z, ?_, by omega, by omega⟩
    have h1 := congrArg (·[0]?) hz
    simpa [List.getElem?_take, List.getElem?_drop] using h1
  refine ⟨(List.range 32).map fun i => numOf cs[i]?, ?_, by simp, ?_⟩
  · apply List.ext_getElem
    · simp [hl]
    · intro i h1 h2
      obtain ⟨z, hz, _⟩ := key i (by omega)
      have : cs[i] = .int .u8 z := by
        rw [List.getElem?_eq_getElem h1] at hz
        exact Option.some.inj hz
      simp [this, hz, numOf]
  · intro i
    by_cases hi : i < 32
    · obtain ⟨z, hz, h0, h1⟩ := key i hi
      simp [hi, hz, h0, h1, numOf]
    · simp [hi]
theorem open_sum {H : Type} {enc : TypeId × Value → H} {W : World} {base : Nat} {v : Value} {d : DataW H} {p : List MemPlace} (hval : Value.okWide Tryz.prog W .any base 23 v) (h : DataW.Trod enc Tryz.prog W 0 (fun _ => true) true 23 v d p) :
    ∃ D : List Int, v = .agg (u8s D) ∧ D.length = 32 ∧ Byt D := by
  simp only [Value.okWide, Tryz.underlying23] at hval
  obtain ⟨cs, rfl, h2, _⟩ := hval
  obtain ⟨fuel, hf⟩ := h
  have hcs : (Value.agg cs).cells = cs := rfl
  rw [hcs] at hf
  obtain ⟨D, hD, l, b⟩ := open_sumL hf
  exact ⟨D, by rw [u8s, ← hD], l, b⟩
end Go.Proofs.YthbbijaikcmaeaaGreatDoor
namespace Go.Proofs.YthbbijaikcmaeaaGreatDoor
set_option maxRecDepth 100000
set_option linter.unusedVariables false
open Go.RowKit Plain Go.Proofs.YthbbijaikcmaeaaGreatDoor.Shap.Plain
def Sm (d d' : Disk.Dk) : Prop := d'.uw = d.uw ∧ d'.pl = d.pl
theorem Sm.refl (d : Disk.Dk) : Sm d d := ⟨rfl, rfl⟩
theorem Sm.trans {a b c : Disk.Dk} (h : Sm a b) (k : Sm b c) : Sm a c := ⟨k.1.trans h.1, k.2.trans h.2⟩
theorem sm_rd (d : Disk.Dk) (p : Nat) : Sm d (Xd.rd d p).1 := by
  unfold Xd
  simp only
  split
  · exact Sm.refl d
  · exact ⟨rfl, rfl⟩
theorem sm_get (K : List Int) (n : Nat) (d : Disk.Dk) (l i : Nat) (r : Rf) : Sm d (getM (Yk K) Xd n d l i r).1 := by
  have key : (getM (Yk K) Xd n d l i r).1 = d ∨ (getM (Yk K) Xd n d l i r).1 = (Xd.rd d (pc n l i r)).1 := by
    unfold getM
    split
    · exact .inl rfl
    · split
      · exact .inr rfl
      · split
        · split
          · split <;> exact .inr rfl
          · exact .inr rfl
        · exact .inr rfl
  rcases key with h | h
  · rw [h]; exact Sm.refl d
  · rw [h]; exact sm_rd d _
theorem sm_read (K : List Int) (n j : Nat) : ∀ (l : Nat) (d : Disk.Dk) (r : Rf), Sm d (readM (Yk K) Xd n j l d r).1
  | 0, d, r => sm_get K n d 0 j r
  | l + 1, d, r => by
    have h1 := sm_get K n d (l + 1) (j / 4 ^ (l + 1)) r
    unfold readM
    split
    · exact h1
    · exact h1.trans (sm_read K n j l _ _)
theorem lastB_snoc : ∀ (L : List (Int × List Int)) (x : Int × List Int) (j : Nat), lastB (L ++ [x]) j = if x.1 = (j : Int) then some x.2 else lastB L j
  | [], x, j => by simp [lastB]
  | y :: L, x, j => by
    rw [List.cons_append, lastB, lastB_snoc L x j, lastB]
    by_cases h : x.1 = (j : Int)
    · simp [h]
    · simp [h]
theorem len_its (g : Nat → Option (List Int)) (n T : Nat) : ∀ k, (itsTo g n T k).length ≤ k
  | 0 => Nat.le_refl _
  | k + 1 => by
    have := len_its g n T k
    rw [itsTo, List.length_append]
    split <;> simp <;> omega
end Go.Proofs.YthbbijaikcmaeaaGreatDoor
namespace Go.Proofs.YthbbijaikcmaeaaGreatDoor
set_option maxRecDepth 100000
set_option linter.unusedVariables false
open Go.RowKit Plain Go.Proofs.YthbbijaikcmaeaaGreatDoor.Shap.Plain
def ht (s : List Bool × Nat) (p : Nat) : List Bool × Nat := if s.1.getD p false = true then s else (s.1.set p true, s.2 + 1)
structure Hs (s : List Bool × Nat) (P : Nat → Prop) : Prop where
  len : s.1.length = 8
  cnt : s.2 = s.1.count true
  hit : ∀ y, y < 8 → (s.1.getD y false = true ↔ P y)
theorem cnt_set : ∀ (l : List Bool) (p : Nat), p < l.length → l.getD p false = false → (l.set p true).count true = l.count true + 1
  | [], p, h, _ => by cases h
  | b :: l, 0, h, e => by
    have : b = false := by simpa using e
    subst this
    simp
  | b :: l, p + 1, h, e => by
    have ih := cnt_set l p (by simpa using h) (by simpa using e)
    simp only [List.set_cons_succ, List.count_cons, ih]
    omega
theorem getD_set (l : List Bool) (p y : Nat) (hp : p < l.length) : (l.set p true).getD y false = if y = p then true else l.getD y false := by
  rw [List.getD_eq_getElem?_getD, List.getD_eq_getElem?_getD, List.getElem?_set]
  by_cases h : y = p
  · subst h; rw [if_pos rfl, if_pos hp, if_pos rfl]; rfl
  · rw [if_neg (fun e => h e.symm), if_neg h]
theorem Hs.ht {s : List Bool × Nat} {P : Nat → Prop} (h : Hs s P) (p : Nat) (hp : p < 8) : Hs (ht s p) (fun y => P y ∨ y = p) := by
  unfold Go.Proofs.YthbbijaikcmaeaaGreatDoor.ht
  by_cases hb : s.1.getD p false = true
  · rw [if_pos hb]
    refine ⟨h.len, h.cnt, fun y hy => ?_⟩
    rw [h.hit y hy]
    constructor
    · exact .inl
    · rintro (h1 | rfl)
      · exact h1
      · exact (h.hit y hy).1 hb
  · rw [if_neg hb]
    have hf : s.1.getD p false = false := by simpa using hb
    refine ⟨by simpa using h.len, ?_, fun y hy => ?_⟩
    · show s.2 + 1 = _
      rw [cnt_set _ _ (by rw [h.len]; exact hp) hf, h.cnt]
    · show (s.1.set p true).getD y false = true ↔ _
      rw [getD_set _ _ _ (by rw [h.len]; exact hp)]
      by_cases e : y = p
      · rw [if_pos e]; simp [e]
      · rw [if_neg e, h.hit y hy]; simp [e]
end Go.Proofs.YthbbijaikcmaeaaGreatDoor
