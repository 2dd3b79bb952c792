/-
  What Adopt, Places and New of package vault leave.
-/
import Derived.Test.YtnicgmimhgbcfaaGreatDoorWK
namespace Go.Proofs.YtnicgmimhgbcfaaGreatDoor
set_option linter.unusedVariables false
set_option maxRecDepth 100000
open Go.RowKit Go.Shelf Plain Go.Proofs.YtnicgmimhgbcfaaGreatDoor.Shap.Plain
attribute [local go_sem] Oper.semAt_some

def mn63 (x : Int) : Int := min x 9223372036854775807
set_option maxHeartbeats 1000000 in
theorem adopt_v {w0 w : World} {V D : Nat} {fp : Nat → Prop} {v : Vt} {d : Disk.Dk} {sa : Option Addr} {sc : Nat} (C : VC w0 w V D fp v d sa sc) (r : Rf) (hr : OkR r) (lim : Int) (hl : 0 ≤ lim ∧ lim ≤ 18446744073709551615) :
    Calls Tryz.prog 21 #[.pointer (some ⟨V, 0, none⟩), .agg (ra r), .int .u64 lim] w fun e w' => e = .returned (.tuple #[]) ∧ VC w0 w' V D fp { v with top := r, lim := mn63 lim } d sa sc ∧ Fw (fun k => k = V) w w' fp fp := by
  obtain ⟨S, hS⟩ : ∃ S, w.heap.size = S := ⟨_, rfl⟩
  obtain ⟨w1, hw1⟩ : ∃ w1, w.alloc (.cells (ra r) 26) = w1 := ⟨_, rfl⟩
  have hb1 : Below w.heap.size w w1 := by rw [← hw1]; exact (Below.refl _ _).alloc (Nat.le_refl _) _
  have h1 : w1.heap[S]? = some (.cells (ra r) 26 (0, 0)) := by rw [← hw1]; exact al_at hS
  have C1 := C.below hb1
  obtain ⟨x2, hx2⟩ : ∃ x2, w1.setCells V 35 (ra r).toList = x2 := ⟨_, rfl⟩
  have hvl : (vcs D v sa sc).length = 70 := by simp [vcs, C.ok.key, rc_len C.ok.top]
  have hrow2 : x2.heap[V]? = some (.cells (vcs D { v with top := r } sa sc).toArray 102 (0, 0)) := by
    rw [← hx2, show (ra r).toList = rc r by simp [ra], setCells_row V _ (rc r) 35 (vcs D v sa sc) w1 C1.row (by rw [rc_len hr, hvl]; omega), vcs_top D v sa sc C.ok r hr]
  have hb2 : But V w1 x2 := by rw [← hx2]; exact Disk.but_setCells V _ 35 _ _ (But.refl _ _)
  have ok2 : ({ v with top := r } : Vt).Ok := ⟨C.ok.key, C.ok.kb, C.ok.lo, C.ok.hi, hr, C.ok.nx, C.ok.lim⟩
  have C2 : VC w0 x2 V D fp { v with top := r } d sa sc := C1.turn hb2 hrow2 rfl ok2
  have c2 : x2.cell? ⟨V, 69, none⟩ = some (.int .u64 v.lim) := C2.rd.lim
  have f2 : x2.frozen? ⟨V, 69, none⟩ = false := frozen_of_row _ _ _ _ _ C2.row
  have HR : Box (w1.rangeAt S 0 (rc r)) := ⟨fun j x hx => by rw [cell_of_row _ _ _ _ _ _ h1, Nat.zero_add]; simpa [ra] using hx⟩
  have HIR : Box ((Tryz.prog.info? 26).map (·.size) = some (rc r).length ∧ (Tryz.prog.info? 26).map (·.size) = some (ra r).size) := ⟨by rw [rc_len hr]; exact infoRef, by rw [size_ra hr]; exact infoR⟩
  have HTH : Box (w1.there V 35 (ra r).size) := ⟨there_row C1.row (by rw [size_ra hr, List.size_toArray, hvl]; omega)⟩
  have HFO : Box (∀ x : Int, x = mn63 lim → VC w0 (x2.setCell ⟨V, 69, none⟩ (.int .u64 x)) V D fp { v with top := r, lim := mn63 lim } d sa sc ∧ Fw (fun k => k = V) w (x2.setCell ⟨V, 69, none⟩ (.int .u64 x)) fp fp) := ⟨fun x hx => by
    have hb3 : But V x2 (x2.setCell ⟨V, 69, none⟩ (.int .u64 x)) := (But.refl _ _).setCell 69 _
    refine ⟨C2.turn hb3 ?_ rfl ⟨C.ok.key, C.ok.kb, C.ok.lo, C.ok.hi, hr, C.ok.nx, by show 0 ≤ mn63 lim ∧ mn63 lim ≤ _; unfold mn63; omega⟩, (Fw.below _ fp hb1).trans ((Fw.of_but hb2 fp).trans (Fw.of_but hb3 fp))⟩
    have := heap_setCell_same x2 V 69 _ _ (.int .u64 x) hrow2
    rw [this, ← hx, ← vcs_lim D { v with top := r } sa sc ok2 x]
    simp⟩
  have HN : Box (w.heap.size = S) := ⟨hS⟩
  clear hS h1 C1 hvl hrow2 hb2 ok2 C2 hb1 C hr
  go_enter Tryz.func21, Tryz.ntmps21
  go_upto_region 1 with fail
  simp only [HN.out]
  go_upto_region 3 with (first
    | (refine atLoad 26 ?_; refine wpList_ldMid rfl 26 _ _ rfl Tryz.underlying26 rfl S 0 rfl (rc r) HIR.out.1 HR.out ?_)
    | (refine atStore _ ?_; refine wpList_store_mid rfl 26 _ _ rfl V 35 (ra r) rfl rfl HTH.out HIR.out.2 (all_ra r) ?_; rw [hx2]))
  go_wp2
  go_end0
  exact ⟨rfl, HFO.out _ rfl⟩
end Go.Proofs.YtnicgmimhgbcfaaGreatDoor
