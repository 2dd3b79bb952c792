/-
  Update of package vault where nothing is written; Adopt and Top. And what follows it.
-/
import Derived.Test.YthbbijaikcmaeaaGreatDoorX33
namespace Go.Proofs.YthbbijaikcmaeaaGreatDoor
set_option maxRecDepth 100000
set_option linter.unusedVariables false
set_option maxRecDepth 100000
open Go.RowKit Go.Shelf Plain Go.Proofs.YthbbijaikcmaeaaGreatDoor.Shap.Plain
attribute [local go_sem] Oper.semAt_some
set_option maxHeartbeats 1000000 in
theorem update_bad {w0 w : World} {V D : Nat} {fp : Nat → Prop} {v : Vt} {d : Disk.Dk} {sa : Option Addr} {sc : Nat} (C : VC w0 w V D fp v d sa sc) (a : Option Addr) (cap : Nat) (M : List Im) (hM : Imgs w a M) (hl : M.length ≤ 1000) (htk : tk v.n M ≠ 0) :
    Calls Tryz.prog 11 #[.pointer (some ⟨V, 0, none⟩), .slice a M.length cap] w fun e w' => UpV w0 w V D fp v sa sc (d, v.nx, tk v.n M, zr) e w' := by
  obtain ⟨S, hS⟩ : ∃ S, w.heap.size = S := ⟨_, rfl⟩
  obtain ⟨w1, hw1⟩ : ∃ w1, w.alloc (.cells (ra zr) 36) = w1 := ⟨_, rfl⟩
  have hb1 : Below w.heap.size w w1 := by rw [← hw1]; exact (Below.refl _ _).alloc (Nat.le_refl _) _
  have h1 : w1.heap[S]? = some (.cells (ra zr) 36 (0, 0)) := by rw [← hw1]; exact al_at hS
  obtain ⟨tt, htt⟩ : ∃ tt, tk v.n M = tt := ⟨_, rfl⟩
  have HTK : Box (Calls Tryz.prog 26 #[.pointer (some ⟨V, 0, none⟩), .slice a M.length cap] w1 fun e w' => e = .returned (.int .i64 tt) ∧ Below w1.heap.size w1 w') := ⟨by have := takes_v (C.below hb1) a cap M (hM.below hb1) (by omega); rw [htt] at this; exact this⟩
  rw [htt] at htk ⊢
  have htk2 : (tt == 0) = false := by simpa using htk
  have HS1 : Box (∀ x, Below w1.heap.size w1 x → x.heap[S]? = some (.cells (ra zr) 36 (0, 0))) := ⟨fun x hx => (hx.block S (Array.getElem?_eq_some_iff.1 h1).1).trans h1⟩
  have HEND : Box (∀ x, Below w1.heap.size w1 x → UpV w0 w V D fp v sa sc (d, v.nx, tt, zr) (.returned (.tuple #[.agg (ra zr), .int .i64 tt])) (x.setRow S (ra zr))) := ⟨fun x hx => by
    have hbx := below_to hb1 hx
    have hV := C.lt
    have h0 := C.cx.bel.size
    have hsh := shp_nb C
    exact ⟨fp, rfl, (C.below hbx).set S (but_setRow _ _ _) (fun hf => by have := C.cx.hi S hf; omega) (by omega) (fun ad e => by have := hsh ad e; omega) (by omega), (Fw.below _ fp hbx).but (but_setRow _ _ _) (by omega)⟩⟩
  have HN : Box (w.heap.size = S) := ⟨hS⟩
  clear h1 hb1 hS C hM htk hl htt
  go_enter Tryz.func11, Tryz.ntmps11
  go_upto_region 1 with (refine atAlloc _ ?_; refine wpList_run rfl _ _ (exec_alloc 36 rfl _ zeroR) ?_)
  simp only [HN.out]
  go_wp2_with (first
    | (refine atBuild _ ?_; refine wpList_run rfl _ _ (exec_built 36 [] rfl [] rfl _ built_R0) ?_)
    | (refine atStore _ ?_; refine wpList_store_row rfl 36 _ _ rfl S (ra zr) rfl rfl 36 (ra zr) HSX.out infoZ rfl (all_ra zr) ?_)
    | (go_at_call 26; refine HTK.out.mono ?_; rintro e x1 ⟨rfl, hb⟩; have HB : Box (Below w1.heap.size w1 x1) := ⟨hb⟩; have HSX : Box (x1.heap[S]? = some (.cells (ra zr) 36 (0, 0))) := ⟨HS1.out x1 hb⟩; clear hb))
  refine bodyPost_ret (results_R2 (t := 4) (u := 5) rfl _ _ S zr okR_zr rfl (setRow_heap _ _ _ _ _ _ HSX.out)) rfl ?_
  exact HEND.out x1 HB.out
set_option maxHeartbeats 1000000 in
theorem update_none {w0 w : World} {V D : Nat} {fp : Nat → Prop} {v : Vt} {d : Disk.Dk} {sa : Option Addr} {sc : Nat} (C : VC w0 w V D fp v d sa sc) (a : Option Addr) (cap : Nat) :
    Calls Tryz.prog 11 #[.pointer (some ⟨V, 0, none⟩), .slice a 0 cap] w fun e w' => UpV w0 w V D fp v sa sc (d, v.nx, 0, v.top) e w' := by
  obtain ⟨S, hS⟩ : ∃ S, w.heap.size = S := ⟨_, rfl⟩
  obtain ⟨w1, hw1⟩ : ∃ w1, w.alloc (.cells (ra zr) 36) = w1 := ⟨_, rfl⟩
  have hb1 : Below w.heap.size w w1 := by rw [← hw1]; exact (Below.refl _ _).alloc (Nat.le_refl _) _
  have h1 : w1.heap[S]? = some (.cells (ra zr) 36 (0, 0)) := by rw [← hw1]; exact al_at hS
  have HTK : Box (Calls Tryz.prog 26 #[.pointer (some ⟨V, 0, none⟩), .slice a 0 cap] w1 fun e w' => e = .returned (.int .i64 0) ∧ Below w1.heap.size w1 w') := ⟨by
    have := takes_v (C.below hb1) a cap [] ⟨fun h => by simp at h, fun m hm => by simp at hm⟩ (by simp)
    exact this⟩
  have HS1 : Box (∀ x, Below w1.heap.size w1 x → x.heap[S]? = some (.cells (ra zr) 36 (0, 0)) ∧ x.rangeAt V 35 (rc v.top)) := ⟨fun x hx => ⟨(hx.block S (Array.getElem?_eq_some_iff.1 h1).1).trans h1, (C.below (below_to hb1 hx)).rd.top⟩⟩
  have HEND : Box (∀ x, Below w1.heap.size w1 x → UpV w0 w V D fp v sa sc (d, v.nx, 0, v.top) (.returned (.tuple #[.agg (ra v.top), .int .i64 0])) (x.setRow S (ra v.top))) := ⟨fun x hx => by
    have hbx := below_to hb1 hx
    have hV := C.lt
    have h0 := C.cx.bel.size
    have hsh := shp_nb C
    exact ⟨fp, rfl, (C.below hbx).set S (but_setRow _ _ _) (fun hf => by have := C.cx.hi S hf; omega) (by omega) (fun ad e => by have := hsh ad e; omega) (by omega), (Fw.below _ fp hbx).but (but_setRow _ _ _) (by omega)⟩⟩
  have HN : Box (w.heap.size = S) := ⟨hS⟩
  have HTO : Box (OkR v.top ∧ (Tryz.prog.info? 36).map (·.size) = some (rc v.top).length ∧ (Tryz.prog.info? 36).map (·.size) = some (ra v.top).size ∧ (ra v.top).size = (ra zr).size) := ⟨C.ok.top, by rw [rc_len C.ok.top]; exact infoRef, by rw [size_ra C.ok.top]; exact infoR, by rw [size_ra C.ok.top, size_ra okR_zr]⟩
  clear h1 hb1 hS C
  go_enter Tryz.func11, Tryz.ntmps11
  go_upto_region 1 with (refine atAlloc _ ?_; refine wpList_run rfl _ _ (exec_alloc 36 rfl _ zeroR) ?_)
  simp only [HN.out]
  go_wp2_with (first
    | (refine atLoad 36 ?_; refine wpList_ldMid rfl 36 _ _ rfl Tryz.underlying36 rfl V 35 rfl (rc v.top) HTO.out.2.1 HSX.out.2 ?_)
    | (refine atStore _ ?_; refine wpList_store_row rfl 36 _ _ rfl S (ra v.top) rfl rfl 36 (ra zr) HSX.out.1 HTO.out.2.2.1 (by first | exact HTO.out.2.2.2 | exact HTO.out.2.2.2.symm) (all_ra v.top) ?_)
    | (go_at_call 26; refine HTK.out.mono ?_; rintro e x1 ⟨rfl, hb⟩; have HB : Box (Below w1.heap.size w1 x1) := ⟨hb⟩; have HSX : Box (x1.heap[S]? = some (.cells (ra zr) 36 (0, 0)) ∧ x1.rangeAt V 35 (rc v.top)) := ⟨HS1.out x1 hb⟩; clear hb))
  refine bodyPost_ret (results_R2 (t := 4) (u := 5) rfl _ _ S v.top HTO.out.1 rfl (setRow_heap _ _ _ _ _ _ HSX.out.1)) rfl ?_
  exact HEND.out x1 HB.out
set_option maxHeartbeats 1000000 in
theorem top_v {w : World} {V D : Nat} {v : Vt} {sa : Option Addr} {sc : Nat} (hrow : w.heap[V]? = some (.cells (vcs D v sa sc).toArray 79 (0, 0))) (ok : v.Ok) : Calls Tryz.prog 20 #[.pointer (some ⟨V, 0, none⟩)] w fun e w' => e = .returned (.tuple #[.agg (ra v.top), .int .u64 v.nx]) ∧ Below w.heap.size w w' := by
  obtain ⟨S, hS⟩ : ∃ S, w.heap.size = S := ⟨_, rfl⟩
  obtain ⟨w1, hw1⟩ : ∃ w1, w.alloc (.cells (ra zr) 36) = w1 := ⟨_, rfl⟩
  have hb1 : Below w.heap.size w w1 := by rw [← hw1]; exact (Below.refl _ _).alloc (Nat.le_refl _) _
  have h1 : w1.heap[S]? = some (.cells (ra zr) 36 (0, 0)) := by rw [← hw1]; exact al_at hS
  have hV := (Array.getElem?_eq_some_iff.1 hrow).1
  have hR := vrd_of ((hb1.block V hV).trans hrow) ok
  have c1 := hR.nx
  have HT : Box (w1.rangeAt V 35 (rc v.top)) := ⟨hR.top⟩
  have HSX : Box _ := ⟨h1⟩
  have HB1 : Box _ := ⟨hb1⟩
  have HN : Box (w.heap.size = S) := ⟨hS⟩
  have HTO : Box (OkR v.top ∧ (Tryz.prog.info? 36).map (·.size) = some (rc v.top).length ∧ (Tryz.prog.info? 36).map (·.size) = some (ra v.top).size ∧ (ra v.top).size = (ra zr).size) := ⟨ok.top, by rw [rc_len ok.top]; exact infoRef, by rw [size_ra ok.top]; exact infoR, by rw [size_ra ok.top, size_ra okR_zr]⟩
  have HVR : Box (∀ x, Below w1.heap.size w1 x → x.rangeAt V 35 (rc v.top) ∧ x.cell? ⟨V, 68, none⟩ = some (.int .u64 v.nx)) := ⟨fun x hx => by
    have := vrd_of (((below_to hb1 hx).block V hV).trans hrow) ok
    exact ⟨this.top, this.nx⟩⟩
  have HSR : Box (∀ x, Below w1.heap.size w1 x → x.heap[S]? = some (.cells (ra zr) 36 (0, 0))) := ⟨fun x hx => (hx.block S (Array.getElem?_eq_some_iff.1 h1).1).trans h1⟩
  have HSZ : Box ((ra v.top).size = 33 ∧ (ra zr).size = 33 ∧ (Tryz.prog.info? 36).map (·.size) = some (ra v.top).toList.length) := ⟨size_ra ok.top, size_ra okR_zr, by rw [Array.length_toList, size_ra ok.top]; exact infoR⟩
  have HFO : Box (∀ x y, Below w1.heap.size w1 x → x.setCells S 0 (ra v.top).toList = y → (y.rangeAt V 35 (rc v.top) ∧ y.cell? ⟨V, 68, none⟩ = some (.int .u64 v.nx)) ∧ y.heap[S]? = some (.cells (ra v.top) 36 (0, 0)) ∧ Below w.heap.size w y) := ⟨fun x y hx hy => by
    have hb : But S x y := by rw [← hy]; exact Disk.but_setCells S _ 0 _ _ (But.refl _ _)
    have hzs := HSZ.out
    refine ⟨⟨Disk.but_range hb (HVR.out x hx).1 (by omega), Disk.but_cell hb (HVR.out x hx).2 (by show V ≠ S; omega)⟩, ?_, below_but (below_to hb1 hx) hb (by omega)⟩
    rw [← hy, Disk.heap_setCells S _ _ 0 _ _ (HSR.out x hx) (by simp only [Array.length_toList]; omega), Disk.splice_all _ _ (by simp only [Array.length_toList]; omega)]⟩
  clear h1 hb1 hS hR hrow ok hV
  go_enter Tryz.func20, Tryz.ntmps20
  go_upto_region 1 with (refine atAlloc _ ?_; refine wpList_run rfl _ _ (exec_alloc 36 rfl _ zeroR) ?_)
  simp only [HN.out]
  go_upto_region 3 with fail
  refine Disk.begin_keep (S := fun x => x.rangeAt V 35 (rc v.top) ∧ x.cell? ⟨V, 68, none⟩ = some (.int .u64 v.nx)) (by kernel_rfl) (fun wd hwd => ?_)
  have hbd : Below w1.heap.size w1 wd := by rw [hwd]; exact (Below.refl _ _).drew
  clear hwd
  have hS := HVR.out wd hbd
  refine take_s (i := 0) (v := ?_) rfl (by kernel_rfl) (by kernel_rfl) (by kernel_rfl) (fun _ _ _ h => h) (by rfl) ?_ hS ?_
  rotate_left
  · intro w' hLat; clear hLat; go_simp <;> with_reducible rfl
  try simp only [Act.put, List.setIfInBounds_toArray, List.set_cons_zero, List.set_cons_succ, List.getElem_toArray, List.getElem_cons_zero]
  refine take_s (i := 1) (v := ?_) rfl (by kernel_rfl) (by kernel_rfl) (by kernel_rfl) (fun _ _ _ h => h) (by rfl) ?_ hS ?_
  rotate_left
  · intro w' hLat; clear hLat; go_simp <;> with_reducible rfl
  try simp only [Act.put, List.setIfInBounds_toArray, List.set_cons_zero, List.set_cons_succ, List.getElem_toArray, List.getElem_cons_zero, List.getElem_cons_succ]
  refine take_s (i := 2) (v := ?_) rfl (by kernel_rfl) (by kernel_rfl) (by kernel_rfl) (fun _ _ _ h => h) (by rfl) ?_ hS ?_
  rotate_left
  · intro w' hLat; clear hLat; go_simp <;> with_reducible rfl
  try simp only [Act.put, List.setIfInBounds_toArray, List.set_cons_zero, List.set_cons_succ, List.getElem_toArray, List.getElem_cons_zero, List.getElem_cons_succ]
  refine take_s (i := 3) (v := .agg (ra v.top)) rfl (by kernel_rfl) (by kernel_rfl) (by kernel_rfl) (fun _ _ _ h => h) (by rfl) (fun w' hLat => exec_load_mid 36 _ _ rfl Tryz.underlying36 rfl V 35 rfl (rc v.top) HTO.out.2.1 hLat.1) hS ?_
  try simp only [Act.put, List.setIfInBounds_toArray, List.set_cons_zero, List.set_cons_succ, List.getElem_toArray, List.getElem_cons_zero, List.getElem_cons_succ]
  refine take_s (i := 4) (v := ?_) rfl (by kernel_rfl) (by kernel_rfl) (by kernel_rfl) (fun _ _ _ h => h) (by rfl) ?_ hS ?_
  rotate_left
  · intro w' hLat; clear hLat; go_simp <;> with_reducible rfl
  try simp only [Act.put, List.setIfInBounds_toArray, List.set_cons_zero, List.set_cons_succ, List.getElem_toArray, List.getElem_cons_zero, List.getElem_cons_succ]
  refine take_s (i := 5) (v := ?_) rfl (by kernel_rfl) (by kernel_rfl) (by kernel_rfl) (fun _ _ _ h => h) (by rfl) ?_ hS ?_
  rotate_left
  · intro w' hLat; clear hLat; go_simp <;> with_reducible rfl
  try simp only [Act.put, List.setIfInBounds_toArray, List.set_cons_zero, List.set_cons_succ, List.getElem_toArray, List.getElem_cons_zero, List.getElem_cons_succ]
  refine take_s (i := 6) (v := ?_) rfl (by kernel_rfl) (by kernel_rfl) (by kernel_rfl) (fun _ _ _ h => h) (by rfl) ?_ hS ?_
  rotate_left
  · intro w' hLat; clear hLat; go_simp <;> with_reducible rfl
  try simp only [Act.put, List.setIfInBounds_toArray, List.set_cons_zero, List.set_cons_succ, List.getElem_toArray, List.getElem_cons_zero, List.getElem_cons_succ]
  refine take_s (i := 7) (v := .int .u64 v.nx) rfl (by kernel_rfl) (by kernel_rfl) (by kernel_rfl) (fun _ _ _ h => h) (by rfl) (fun w' hLat => Disk.exec_load1 34 _ _ rfl Tryz.underlying34 rfl _ rfl _ hLat.2) hS ?_
  try simp only [Act.put, List.setIfInBounds_toArray, List.set_cons_zero, List.set_cons_succ, List.getElem_toArray, List.getElem_cons_zero, List.getElem_cons_succ]
  refine Disk.one_keep (i := 8) (by kernel_rfl) ?_
  refine Disk.keep_step rfl (by rfl) ?_
  refine wp_store_mid 36 (.tmp 2) (.tmp 10) rfl S 0 (ra v.top) rfl rfl (there_row (HSR.out wd hbd) (by have h1 := HSZ.out.1; have h2 := HSZ.out.2.1; omega)) HSZ.out.2.2 (all_ra v.top) ?_
  obtain ⟨y, hy⟩ : ∃ y, wd.setCells S 0 (ra v.top).toList = y := ⟨_, rfl⟩
  rw [hy]
  have HFY : Box _ := ⟨HFO.out wd y hbd hy⟩
  have hSy := HFY.out.1
  refine ⟨hSy, ?_⟩
  try simp only [Act.put, List.getElem_toArray, List.getElem_cons_zero, List.getElem_cons_succ]
  refine take_s (i := 9) (v := ?_) rfl (by kernel_rfl) (by kernel_rfl) (by kernel_rfl) (fun _ _ _ h => h) (by rfl) ?_ hSy ?_
  rotate_left
  · intro w' hLat; clear hLat; go_simp <;> with_reducible rfl
  try simp only [Act.put, List.setIfInBounds_toArray, List.set_cons_zero, List.set_cons_succ, List.getElem_toArray, List.getElem_cons_zero, List.getElem_cons_succ]
  refine wpAnyH_done (by kernel_rfl) ?_ _
  clear hSy hy hbd hS
  go_wp2
  refine bodyPost_ret (results_R2 (t := 2) (u := 3) rfl _ _ S v.top HTO.out.1 rfl HFY.out.2.1) rfl ?_
  exact ⟨rfl, HFY.out.2.2⟩
theorem VC.turn {w0 w w' : World} {V D : Nat} {fp : Nat → Prop} {v v' : Vt} {d : Disk.Dk} {sa : Option Addr} {sc : Nat} (h : VC w0 w V D fp v d sa sc) (hb : But V w w') (hrow : w'.heap[V]? = some (.cells (vcs D v' sa sc).toArray 79 (0, 0))) (hn : v'.n = v.n) (ok : v'.Ok) : VC w0 w' V D fp v' d sa sc := by
  have hS := ints_lt h.ints (wid_pos _)
  have hne : ∀ k, fp k → k ≠ V := fun k hk e => h.nV (e ▸ hk)
  have h4 := h.lo
  refine ⟨⟨h.cx.is.same (fun k hk hl => hb.block k hl (hne k hk)), ?_, h.cx.lo, fun k hk => Nat.lt_of_lt_of_le (h.cx.hi k hk) hb.size⟩, hrow, by rw [hn]; exact ints_same h.ints (fun ad e => hb.block _ (hS ad e) (h.nS ad e).2.1) hb.size, h.lo, h.nV, h.nS, fun k hk => by
    obtain ⟨cs, t, e⟩ := h.cells k hk
    exact ⟨cs, t, (hb.block k (Array.getElem?_eq_some_iff.1 e).1 (hne k hk)).trans e⟩, ok, by rw [hn]; exact h.fit, h.dig, h.tab⟩
  have hl := h.cx.bel
  exact ⟨hb.os.trans hl.os, hb.tape.trans hl.tape, hb.output.trans hl.output, Nat.le_trans hl.size hb.size, fun k hk => (hb.block k (Nat.lt_of_lt_of_le hk hl.size) (by omega)).trans (hl.block k hk)⟩
theorem vcs_top (D : Nat) (v : Vt) (sa : Option Addr) (sc : Nat) (ok : v.Ok) (r : Rf) (hr : OkR r) : splice (vcs D v sa sc) 35 (rc r) = vcs D { v with top := r } sa sc := by
  have h1 : (rc v.top).length = 33 := rc_len ok.top
  have h2 : (rc r).length = 33 := rc_len hr
  have hk : (v.key.map (Value.int .u8)).length = 32 := by simp [ok.key]
  have e : ∀ t, vcs D { v with top := t } sa sc = (.pointer (some ⟨D, 0, none⟩) :: (v.key.map (Value.int .u8) ++ [.int .u64 (v.n : Int), .slice sa (wid v.n).length sc])) ++ (rc t ++ [.int .u64 v.nx, .int .u64 v.lim]) := fun t => by simp [vcs]
  have e0 := e v.top
  have hp : (Value.pointer (some ⟨D, 0, none⟩) :: (v.key.map (Value.int .u8) ++ [.int .u64 (v.n : Int), .slice sa (wid v.n).length sc])).length = 35 := by simp [ok.key]
  rw [e r, show vcs D v sa sc = _ from e0, splice, h2, ← hp, List.take_left, ← List.drop_drop, List.drop_left, List.drop_append, List.drop_of_length_le (by omega), h1]
  simp
theorem vcs_lim (D : Nat) (v : Vt) (sa : Option Addr) (sc : Nat) (ok : v.Ok) (x : Int) : (vcs D v sa sc).set 69 (.int .u64 x) = vcs D { v with lim := x } sa sc := by
  have hr : (rc v.top).length = 33 := by simp [rc, ok.top.ld]
  have hk := ok.key
  simp [vcs, hr, hk]
end Go.Proofs.YthbbijaikcmaeaaGreatDoor
namespace Go.Proofs.YthbbijaikcmaeaaGreatDoor
set_option maxRecDepth 100000
set_option linter.unusedVariables false
open Go.RowKit Go.Shelf Plain Go.Proofs.YthbbijaikcmaeaaGreatDoor.Shap.Plain
attribute [local go_sem] Oper.semAt_some
def mn63 (x : Int) : Int := min x 9223372036854775807
set_option maxHeartbeats 1000000 in
theorem adopt_v {w0 w : World} {V D : Nat} {fp : Nat → Prop} {v : Vt} {d : Disk.Dk} {sa : Option Addr} {sc : Nat} (C : VC w0 w V D fp v d sa sc) (r : Rf) (hr : OkR r) (lim : Int) (hl : 0 ≤ lim ∧ lim ≤ 18446744073709551615) :
    Calls Tryz.prog 13 #[.pointer (some ⟨V, 0, none⟩), .agg (ra r), .int .u64 lim] w fun e w' => e = .returned (.tuple #[]) ∧ VC w0 w' V D fp { v with top := r, lim := mn63 lim } d sa sc ∧ Fw (fun k => k = V) w w' fp fp := by
  obtain ⟨S, hS⟩ : ∃ S, w.heap.size = S := ⟨_, rfl⟩
  obtain ⟨w1, hw1⟩ : ∃ w1, w.alloc (.cells (ra r) 36) = w1 := ⟨_, rfl⟩
  have hb1 : Below w.heap.size w w1 := by rw [← hw1]; exact (Below.refl _ _).alloc (Nat.le_refl _) _
  have h1 : w1.heap[S]? = some (.cells (ra r) 36 (0, 0)) := by rw [← hw1]; exact al_at hS
  have C1 := C.below hb1
  obtain ⟨x2, hx2⟩ : ∃ x2, w1.setCells V 35 (ra r).toList = x2 := ⟨_, rfl⟩
  have hvl : (vcs D v sa sc).length = 70 := by simp [vcs, C.ok.key, rc_len C.ok.top]
  have hrow2 : x2.heap[V]? = some (.cells (vcs D { v with top := r } sa sc).toArray 79 (0, 0)) := by
    rw [← hx2, show (ra r).toList = rc r by simp [ra], setCells_row V _ (rc r) 35 (vcs D v sa sc) w1 C1.row (by rw [rc_len hr, hvl]; omega), vcs_top D v sa sc C.ok r hr]
  have hb2 : But V w1 x2 := by rw [← hx2]; exact Disk.but_setCells V _ 35 _ _ (But.refl _ _)
  have ok2 : ({ v with top := r } : Vt).Ok := ⟨C.ok.key, C.ok.kb, C.ok.lo, C.ok.hi, hr, C.ok.nx, C.ok.lim⟩
  have C2 : VC w0 x2 V D fp { v with top := r } d sa sc := C1.turn hb2 hrow2 rfl ok2
  have c2 : x2.cell? ⟨V, 69, none⟩ = some (.int .u64 v.lim) := C2.rd.lim
  have f2 : x2.frozen? ⟨V, 69, none⟩ = false := frozen_of_row _ _ _ _ _ C2.row
  have HR : Box (w1.rangeAt S 0 (rc r)) := ⟨fun j x hx => by rw [cell_of_row _ _ _ _ _ _ h1, Nat.zero_add]; simpa [ra] using hx⟩
  have HIR : Box ((Tryz.prog.info? 36).map (·.size) = some (rc r).length ∧ (Tryz.prog.info? 36).map (·.size) = some (ra r).size) := ⟨by rw [rc_len hr]; exact infoRef, by rw [size_ra hr]; exact infoR⟩
  have HTH : Box (w1.there V 35 (ra r).size) := ⟨there_row C1.row (by rw [size_ra hr, List.size_toArray, hvl]; omega)⟩
  have HFO : Box (∀ x : Int, x = mn63 lim → VC w0 (x2.setCell ⟨V, 69, none⟩ (.int .u64 x)) V D fp { v with top := r, lim := mn63 lim } d sa sc ∧ Fw (fun k => k = V) w (x2.setCell ⟨V, 69, none⟩ (.int .u64 x)) fp fp) := ⟨fun x hx => by
    have hb3 : But V x2 (x2.setCell ⟨V, 69, none⟩ (.int .u64 x)) := (But.refl _ _).setCell 69 _
    refine ⟨C2.turn hb3 ?_ rfl ⟨C.ok.key, C.ok.kb, C.ok.lo, C.ok.hi, hr, C.ok.nx, by show 0 ≤ mn63 lim ∧ mn63 lim ≤ _; unfold mn63; omega⟩, (Fw.below _ fp hb1).trans ((Fw.of_but hb2 fp).trans (Fw.of_but hb3 fp))⟩
    have := heap_setCell_same x2 V 69 _ _ (.int .u64 x) hrow2
    rw [this, ← hx, ← vcs_lim D { v with top := r } sa sc ok2 x]
    simp⟩
  have HN : Box (w.heap.size = S) := ⟨hS⟩
  clear hS h1 C1 hvl hrow2 hb2 ok2 C2 hb1 C hr
  go_enter Tryz.func13, Tryz.ntmps13
  go_upto_region 1 with fail
  simp only [HN.out]
  go_upto_region 3 with (first
    | (refine atLoad 36 ?_; refine wpList_ldMid rfl 36 _ _ rfl Tryz.underlying36 rfl S 0 rfl (rc r) HIR.out.1 HR.out ?_)
    | (refine atStore _ ?_; refine wpList_store_mid rfl 36 _ _ rfl V 35 (ra r) rfl rfl HTH.out HIR.out.2 (all_ra r) ?_; rw [hx2]))
  go_wp2
  go_end0
  exact ⟨rfl, HFO.out _ rfl⟩
end Go.Proofs.YthbbijaikcmaeaaGreatDoor
namespace Go.Proofs.YthbbijaikcmaeaaGreatDoor.Shap
set_option maxRecDepth 100000
set_option linter.unusedVariables false
open Go.RowKit Go.Proofs.YthbbijaikcmaeaaGreatDoor.Plain Go.Proofs.YthbbijaikcmaeaaGreatDoor.Shap.Plain
set_option maxHeartbeats 2000000 in
theorem new_ok2 (m : Nat) (w : World) (h1 : 1 ≤ m) (h2 : m ≤ 1024) :
    Calls Tryz.prog 23 #[.int .i64 m] w fun e w' => ∃ a cap, e = .returned (.tuple #[sv a (wid m).length cap, .int .i64 0]) ∧ Ints w' a (wid m).length (wid m) ∧ (wid m).length ≤ cap ∧ Below w.heap.size w w' ∧ ∀ ad, a = some ad → w.heap.size ≤ ad.block := by
  have g1 : ¬ (m : Int) < 1 := by omega
  have g2 : ¬ 1024 < (m : Int) := by omega
  have HC : Box (∀ (x : World) (k : Nat), k ≤ 1024 → Calls Tryz.prog 45 #[.int .i64 (k : Int)] x fun e w' => e = .returned (.int .i64 (up k : Nat)) ∧ x = w') := ⟨fun x k hk => above_any k x hk⟩
  have HB : Box (Below w.heap.size w (w.alloc (.cells #[.slice none 0 0] 74))) := ⟨box_below _ _⟩
  have HR : Box ((w.alloc (.cells #[.slice none 0 0] 74)).heap[w.heap.size]? = some (.cells #[.slice none 0 0] 74 (0, 0))) := ⟨al_at rfl⟩
  go_enter Tryz.func23, Tryz.ntmps23
  go_upto_region 1 with fail
  generalize w.alloc (.cells #[.slice none 0 0] 74) = w0 at HB HR ⊢
  go_wp2_with (go_at_call 45; refine Calls.mono (HC.out _ _ h2) ?_; rintro e w' ⟨rfl, rfl⟩)
  have H0 : Box (Grows w0 (w0.alloc (.cells #[.int .i64 m, .int .i64 (up m : Nat)] 3)) m (up m) (.slice (some ⟨w0.heap.size, 0, none⟩) 2 2)) := ⟨Grows.start w0 m h2⟩
  have hu : up m ≤ 1024 := by unfold up; omega
  go_loopw [4, 5] (fun u v wr => ∃ k : Nat, k ≤ 1024 ∧ u = .int .i64 k ∧ Box (Grows w0 wr m k v)) (fun u _ _ => (intOf u).toNat)
  case atStart => exact ⟨_, hu, rfl, H0⟩
  case round =>
    obtain ⟨k, hk, rfl, HG⟩ := hrel
    clear H0
    by_cases hlt : 1 < k
    · have g3 : (1 : Int) < (k : Int) := by omega
      have hu : up k ≤ 1024 ∧ up k < k := by unfold up; omega
      go_wp2_with (first
        | (go_at_call 45; refine Calls.mono (HC.out _ _ hk) ?_; rintro e w' ⟨rfl, rfl⟩)
        | (at_builtin; obtain ⟨f, A, o1, o2, o3, o4⟩ := HG.out; refine wpList_iapp rfl (.tmp 22) (.tmp 24) rfl w0.heap.size A.length 1 1 _ A [((up k : Nat) : Int)] ⟨wr.heap.size, 0, none⟩ w0 rfl rfl (iown_later o1 (box_below _ _)) (ints_of_row (X := [((up k : Nat) : Int)]) (al_at rfl)) (by have := grows_short h1 h2 o2; omega) (o4.alloc o4.size _) (Nat.le_trans o4.size (by simp)) ?_; intro v' w' H1; have H2 : Box (Grows w0 w' m (up k) v') := ⟨Grows.step (wr := wr) (v := .slice none 0 0) o2 o3 hlt H1.out⟩; clear o1 o2 o3 o4 H1))
      go_roundw
      case rel => exact ⟨up k, hu.1, rfl, H2⟩
      case measure => simp [intOf]; omega
    · have g3 : ¬ (1 : Int) < (k : Int) := by omega
      obtain ⟨a, n, cap, rfl, HN, HF⟩ := Grows.finish HG.out (by omega)
      go_wp2_with (first
        | (refine wpList_run rfl _ _ (exec_built 74 [(0, .tmp 26)] rfl [(0, .slice a n cap)] rfl _ (built_S a n cap)) ?_)
        | (refine wpList_stS rfl _ _ rfl w.heap.size a n cap _ rfl rfl (HF.out.2.2.block _ (lt_of_row HR.out)|>.trans HR.out) ?_))
      (try simp only [Exit.inBlock, Exit.then])
      refine bodyPost_ret (results_S2 rfl _ _ w.heap.size _ rfl (setRow_heap _ _ _ _ _ _ (HF.out.2.2.block _ (lt_of_row HR.out)|>.trans HR.out))) rfl ?_
      have hn := HN.out
      subst hn
      have hne := new_end (cs := #[.slice a (wid m).length cap]) HB.out HR.out HF.out
      exact ⟨a, cap, rfl, hne.1, hne.2.1, hne.2.2, fun ad e => by subst e; exact Nat.le_trans HB.out.size (HF.out.1.lt ad.block rfl).1⟩
end Go.Proofs.YthbbijaikcmaeaaGreatDoor.Shap
namespace Go.Proofs.YthbbijaikcmaeaaGreatDoor
set_option maxRecDepth 100000
set_option linter.unusedVariables false
open Go.RowKit Go.Shelf Plain Go.Proofs.YthbbijaikcmaeaaGreatDoor.Shap.Plain
attribute [local go_sem] Oper.semAt_some
theorem infoShp2 : (Tryz.prog.info? 74).map (·.zero) = some (some (.agg #[.slice none 0 0])) := by kernel_rfl
set_option maxHeartbeats 1000000 in
theorem places_ok (n : Nat) (w : World) (h1 : 1 ≤ n) (h2 : n ≤ 1024) : Calls Tryz.prog 22 #[.int .i64 n] w fun e w' => e = .returned (.tuple #[.int .i64 (2 * off n (topL n + 1) : Nat), .int .i64 0]) ∧ Below w.heap.size w w' := by
  have HN : Box _ := ⟨Shap.new_ok2 n w h1 h2⟩
  have HP : Box (∀ (a : Option Addr) (cap : Nat) (x : World), Shap.Ints x a (wid n).length (wid n) → Calls Tryz.prog 25 #[.agg #[.slice a (wid n).length cap]] x fun e w' => e = .returned (.int .i64 (2 * off n (topL n + 1) : Nat)) ∧ Below x.heap.size x w') := ⟨fun a cap x hx => places_any n a cap x h1 h2 hx⟩
  clear h1 h2
  go_enter Tryz.func22, Tryz.ntmps22
  go_wp2_with (first
    | (go_at_call 23; refine HN.out.mono ?_; rintro e x1 ⟨a, sc, rfl, hi, _, hb, _⟩; have HB : Box (Below w.heap.size w x1 ∧ Shap.Ints x1 a (wid n).length (wid n)) := ⟨hb, hi⟩; clear hb hi)
    | (refine atAlloc _ ?_; refine wpList_run rfl _ _ (exec_alloc 74 rfl _ infoShp2) ?_)
    | (refine atStore _ ?_; refine wpList_newRow x1 #[.slice none 0 0] #[.slice a (wid n).length sc] infoShp rfl (by simp [Value.oneCell']) rfl _ _ rfl rfl rfl rfl ?_; intro x2 h2 hb2; have HB2 : Box (Below w.heap.size w x2 ∧ Shap.Ints x2 a (wid n).length (wid n) ∧ x2.heap[x1.heap.size]? = some (.cells #[.slice a (wid n).length sc] 74 (0, 0))) := ⟨below_to HB.out.1 hb2, HB.out.2.below hb2, h2⟩; clear hb2 h2)
    | (refine atLoad 74 ?_; refine Shap.wpList_ldS rfl _ rfl x1.heap.size (.slice a (wid n).length sc) rfl HB2.out.2.2 ?_)
    | (go_at_call 25; refine (HP.out a sc x2 HB2.out.2.1).mono ?_; rintro e x3 ⟨rfl, hb3⟩; have HB3 : Box (Below w.heap.size w x3) := ⟨below_to HB2.out.1 hb3⟩; clear hb3))
  go_ret2
  exact ⟨rfl, HB3.out⟩
end Go.Proofs.YthbbijaikcmaeaaGreatDoor
