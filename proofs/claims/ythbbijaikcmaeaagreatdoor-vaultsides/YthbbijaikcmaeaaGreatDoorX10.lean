/-
  What the Go methods Flush and Crash of package disk do, and Write where it refuses or stops, for every disk. And what follows it.
-/
import Derived.Test.YthbbijaikcmaeaaGreatDoorX09
namespace Go.Proofs.YthbbijaikcmaeaaGreatDoor.Disk.Plain
set_option maxRecDepth 100000
end Go.Proofs.YthbbijaikcmaeaaGreatDoor.Disk.Plain
namespace Go.Proofs.YthbbijaikcmaeaaGreatDoor.Disk
set_option maxRecDepth 100000
set_option linter.unusedVariables false
set_option maxRecDepth 100000
open Go.RowKit Go.Proofs.YthbbijaikcmaeaaGreatDoor.Plain Go.Proofs.YthbbijaikcmaeaaGreatDoor.Disk.Plain
set_option maxRecDepth 20000 in
set_option maxHeartbeats 2000000 in
theorem write_down (w : World) (D : Nat) (fp : Nat → Prop) (d : Dk) (h : Is w D fp d) (i : Int) (a : Option Addr) (len cap : Nat) (hd : d.down = true) :
    Calls Tryz.prog 55 #[.pointer (some ⟨D, 0, none⟩), .int .i64 i, .slice a len cap] w fun e w' => e = .returned (.int .i64 13) ∧ w = w' := by
  obtain ⟨P, uv, ov, h1, h2⟩ := h
  have H := ready_any w D P uv ov d h1
  rw [show rdy d = 13 by simp [rdy, hd]] at H
  have HR : Box _ := ⟨H⟩
  clear H h1 h2 hd
  go_enter Tryz.func55, Tryz.ntmps55
  go_wp2_with (go_at_call 32; refine HR.out.mono ?_; rintro e w' ⟨rfl, rfl⟩)
  go_ret
  exact ⟨rfl, rfl⟩
set_option maxRecDepth 20000 in
set_option maxHeartbeats 2000000 in
theorem write_stop (w : World) (D : Nat) (fp : Nat → Prop) (d : Dk) (h : Is w D fp d) (i : Int) (a : Option Addr) (len cap : Nat) (hd : d.down = false) (hf : fit d i len = 0) (hs : d.st = true) (hl : d.left = 0) :
    Calls Tryz.prog 55 #[.pointer (some ⟨D, 0, none⟩), .int .i64 i, .slice a len cap] w fun e w' => e = .returned (.int .i64 13) ∧ Nx D fp w w' { d with down := true } := by
  obtain ⟨P, uv, ov, h1, h2⟩ := h
  have H := ready_any w D P uv ov d h1
  rw [show rdy d = 0 by simp [rdy, hd]] at H
  have HR : Box _ := ⟨H⟩
  have H2 := fits_any w D P uv ov d h1 i a len cap
  rw [hf] at H2
  have HH : Box _ := ⟨H2⟩
  obtain ⟨-, -, -, c3, c4, c5, fz⟩ := h1.cells
  have f3 := fz 3
  have HX : Box _ := ⟨h1.set3 h2 true⟩
  rw [hs] at c4
  rw [hl] at c5
  clear H H2 h1 h2 hd hf hs hl fz
  go_enter Tryz.func55, Tryz.ntmps55
  go_wp2_with (first
    | (go_at_call 32; refine HR.out.mono ?_; rintro e w' ⟨rfl, rfl⟩)
    | (go_at_call 36; refine HH.out.mono ?_; rintro e w' ⟨rfl, rfl⟩))
  go_ret
  exact ⟨rfl, HX.out⟩
def upd (pl : Nat → List Int) (p : Nat) (b : List Int) : Nat → List Int := fun k => if k = p then b else pl k
def lay (L : List (Nat × List Int)) (pl : Nat → List Int) : Nat → List Int := L.foldl (fun f x => upd f x.1 x.2) pl
theorem lay_snoc (L : List (Nat × List Int)) (x : Nat × List Int) (pl : Nat → List Int) : lay (L ++ [x]) pl = upd (lay L pl) x.1 x.2 := by simp [lay]
theorem splice_get {α : Type} (L vs : List α) (o k : Nat) (h : o + vs.length ≤ L.length) : (splice L o vs)[k]? = if o ≤ k ∧ k < o + vs.length then vs[k - o]? else L[k]? := by
  unfold splice
  have h1 : (L.take o).length = o := by simp; omega
  by_cases hk : k < o
  · rw [List.getElem?_append_left (by omega), List.getElem?_take, if_pos hk, if_neg (by omega)]
  · by_cases hk2 : k < o + vs.length
    · rw [List.getElem?_append_right (by omega), h1, List.getElem?_append_left (by omega), if_pos ⟨by omega, hk2⟩]
    · rw [List.getElem?_append_right (by omega), List.getElem?_append_right (by omega), h1, if_neg (by omega), List.getElem?_drop]
      congr 1
      omega
theorem pls_upd {cs : Array Value} {n p : Nat} {pl : Nat → List Int} {b : List Int} (h : Pls cs n pl) (hp : p < n) (hb : b.length = 192) : Pls (splice cs.toList (p * 192) (u8s b).toList).toArray n (upd pl p b) := by
  have hl : (u8s b).toList.length = 192 := by rw [Array.length_toList, size_u8s, hb]
  have hfit : p * 192 + 192 ≤ cs.size := by
    rw [h.1, Nat.mul_comm, ← Nat.mul_succ]
    exact Nat.mul_le_mul_left _ hp
  refine ⟨?_, fun i hi j hj => ?_⟩
  · simp only [List.size_toArray, splice, List.length_append, List.length_take, List.length_drop, hl, Array.length_toList]
    have := h.1
    omega
  · rw [List.getElem?_toArray, splice_get _ _ _ _ (by rw [hl, Array.length_toList]; exact hfit), hl]
    by_cases he : i = p
    · subst he
      rw [if_pos (by omega)]
      have e : 192 * i + j - i * 192 = j := by omega
      rw [e]
      simp only [upd, if_true]
      simp [u8s, List.getD, show j < b.length by omega]
    · have hne : ¬ (p * 192 ≤ 192 * i + j ∧ 192 * i + j < p * 192 + 192) := by
        intro ⟨h1, h2⟩
        apply he
        omega
      rw [if_neg hne, Array.getElem?_toList, h.2 i hi j hj]
      simp [upd, he]
structure Lay (wd : World) (D P Bx n : Nat) (p : Nat) (b : List Int) : Prop where
  c0 : wd.cell? ⟨D, 0, none⟩ = some (.slice (some ⟨P, 0, none⟩) n n)
  n0 : D ≠ P
  cx : wd.cell? ⟨Bx, 0, none⟩ = some (.int .i64 (p : Int))
  rx : wd.rangeAt Bx 1 (b.map (Value.int .u8))
  nx : Bx ≠ P
  iz : (Tryz.prog.info? 93).map (·.size) = some (b.map (Value.int .u8)).length
  iy : (Tryz.prog.info? 93).map (·.size) = some (u8s b).size
  th : wd.there P (p * 192) (u8s b).size
theorem Lay.drew {w wd : World} {D P Bx n : Nat} {p : Nat} {b : List Int} (h : Lay w D P Bx n p b) (hwd : wd = w.drew) : Lay wd D P Bx n p b := by
  subst hwd
  exact ⟨h.c0, h.n0, h.cx, h.rx, h.nx, h.iz, h.iy, h.th⟩
theorem At.layAt {w wx : World} {D P : Nat} {uv ov : Value} {d : Dk} (h : At w D P uv ov d) (hb : Below w.heap.size w wx) (p : Nat) (b : List Int) (hp : p < d.n) (hl : b.length = 192) (hx : wx.heap[w.heap.size]? = some (.cells (wc (p, b)).toArray 95 (0, 0))) : Lay wx D P w.heap.size d.n p b := by
  have h2 := h.below hb
  obtain ⟨cs, hP, hPs⟩ := h2.hp
  have hPl := h.lt P (.inr (.inl rfl))
  obtain ⟨x1, x2⟩ := range_wc hx
  have hfit : p * 192 + 192 ≤ cs.size := by
    rw [hPs.1, Nat.mul_comm, ← Nat.mul_succ]
    exact Nat.mul_le_mul_left _ hp
  exact ⟨h2.cells.1, h.neP, x1, x2, by omega, by rw [List.length_map, hl]; exact info79, by rw [size_u8s, hl]; exact info79, there_row hP (by rw [size_u8s, hl]; exact hfit)⟩
theorem At.laid {w wd : World} {D P : Nat} {uv ov : Value} {d : Dk} (h : At w D P uv ov d) (hb : Below w.heap.size w wd) (p : Nat) (b : List Int) (hp : p < d.n) (hl : b.length = 192 ∧ Byt b) :
    At (wd.setCells P (p * 192) (u8s b).toList) D P uv ov { d with pl := upd d.pl p b } ∧ Turned (foot D P uv ov) w (wd.setCells P (p * 192) (u8s b).toList) := by
  have h2 := h.below hb
  obtain ⟨cs, hP, hPs⟩ := h2.hp
  have hfit : p * 192 + 192 ≤ cs.size := by
    rw [hPs.1, Nat.mul_comm, ← Nat.mul_succ]
    exact Nat.mul_le_mul_left _ hp
  have hc := heap_setCells P _ (u8s b).toList (p * 192) wd cs hP (by rw [Array.length_toList, size_u8s, hl.1]; exact hfit)
  have ho : ∀ k, k ≠ P → (wd.setCells P (p * 192) (u8s b).toList).heap[k]? = wd.heap[k]? := fun k hk => heap_setCells_other P k hk _ _ _
  have hbt := but_setCells P (u8s b).toList (p * 192) wd wd (But.refl _ _)
  refine ⟨⟨by rw [ho D h.neP]; exact h2.hd, ⟨_, hc, pls_upd hPs hp hl.1⟩, fun i => ?_, h.hn, own_same h2.hu (fun k hk => ho k (ne_blk h.neU.2 hk)), h.huw, own_same h2.ho (fun k hk => ho k (ne_blk h.neO.2 hk)), h.neP, h.neU, h.neO, h.neUO⟩, ⟨hbt.os.trans hb.os, hbt.tape.trans hb.tape, hbt.output.trans hb.output, Nat.le_trans hb.size hbt.size, fun k hk hn => ?_⟩⟩
  · simp only [upd]
    split
    · exact hl
    · exact h.hpl i
  · rw [ho k (fun e => hn (.inr (.inl e)))]
    exact hb.block k hk
theorem At.noway {w : World} {D P : Nat} {uv ov : Value} {d : Dk} (h : At w D P uv ov d) : At (w.setCell ⟨D, 1, none⟩ (.slice none 0 0)) D P (.slice none 0 0) ov { d with uw := [] } ∧ Turned (foot D P uv ov) w (w.setCell ⟨D, 1, none⟩ (.slice none 0 0)) ∧ ∀ k, foot D P (.slice none 0 0) ov k → foot D P uv ov k := by
  obtain ⟨cs, hP, hPs⟩ := h.hp
  refine ⟨⟨heap_setCell_same w D 1 _ _ _ h.hd, ⟨cs, by rw [heap_setCell_other w ⟨D, 1, none⟩ P _ (Ne.symm h.neP)]; exact hP, hPs⟩, h.hpl, h.hn, World.ownsRow_nil _ _ _ _, fun x hx => by simp at hx, own_same h.ho (fun k hk => heap_setCell_other w ⟨D, 1, none⟩ k _ (ne_blk h.neO.1 hk)), h.neP, by simp [Value.ownBlock], h.neO, .inl rfl⟩, turned_set (Turned.refl _ _) (.inl rfl) _, ?_⟩
  rintro k (rfl | rfl | hk | hk)
  · exact .inl rfl
  · exact .inr (.inl rfl)
  · simp [Value.ownBlock] at hk
  · exact .inr (.inr (.inr hk))
def flOk (d : Dk) : Dk := { d with pl := lay d.uw d.pl, uw := [], ops := d.ops ++ [(3, 0)] }
def donePl (d : Dk) (k : Nat) : Dk := { d with pl := lay (d.uw.take k) d.pl }
theorem donePl_succ (d : Dk) (k : Nat) (h : k < d.uw.length) : { donePl d k with pl := upd (donePl d k).pl d.uw[k].1 d.uw[k].2 } = donePl d (k + 1) := by
  simp only [donePl]
  rw [← lay_snoc, List.take_append_getElem h]
set_option maxRecDepth 20000 in
set_option maxHeartbeats 4000000 in
theorem flush_ok (w : World) (D : Nat) (fp : Nat → Prop) (d : Dk) (h : Is w D fp d) (hd : d.down = false) (ho : d.ops.length < 1000000) (hu : d.uw.length < 1000000) :
    Calls Tryz.prog 12 #[.pointer (some ⟨D, 0, none⟩)] w fun e w' => e = .returned (.int .i64 0) ∧ Nx D fp w w' (flOk d) := by
  obtain ⟨P, uv, ov, h1, h2⟩ := h
  have H := ready_any w D P uv ov d h1
  rw [show rdy d = 0 by simp [rdy, hd]] at H
  have HR : Box _ := ⟨H⟩
  obtain ⟨a, cap, rfl⟩ := own_form2 h1.hu
  obtain ⟨c0, c1, -, -, -, -, fz⟩ := h1.cells
  have HF : Box (∀ k, foot D P (.slice a d.uw.length cap) ov k → fp k) := ⟨h2⟩
  have HO : Box (d.ops.length < 1000000000) := ⟨by omega⟩
  have HA : Box (At w D P (.slice a d.uw.length cap) ov (donePl d 0) ∧ Turned (foot D P (.slice a d.uw.length cap) ov) w w) := ⟨h1, Turned.refl _ _⟩
  have hu2 : d.uw.length < 9223372036854775807 := by omega
  clear H h1 h2 hd ho hu fz
  go_enter Tryz.func12, Tryz.ntmps12
  go_wp2_with (go_at_call 32; refine HR.out.mono ?_; rintro e w' ⟨rfl, rfl⟩)
  go_loopw [16] (fun i wr => ∃ k : Nat, k ≤ d.uw.length ∧ i = .int .i64 k ∧ Box (At wr D P (.slice a d.uw.length cap) ov (donePl d k) ∧ Turned (foot D P (.slice a d.uw.length cap) ov) w wr)) (fun i _ => d.uw.length - (intOf i).toNat)
  case atStart => exact ⟨0, Nat.zero_le _, rfl, HA⟩
  case round =>
    clear HA c0 c1
    obtain ⟨k, hk, rfl, HK⟩ := hrel
    by_cases hlt : k < d.uw.length
    · have hgood := HK.out.1.huw d.uw[k] (List.getElem_mem hlt)
      obtain ⟨g, rfl, hg, hr⟩ := At.ways (d := donePl d k) HK.out.1 (show 0 < d.uw.length by omega)
      have hrk : Box (wr.rangeAt g (k * 193) (wc d.uw[k])) := ⟨hr k hlt⟩
      have HE := donePl_succ d k hlt
      obtain ⟨x, hx⟩ : ∃ x, d.uw[k] = x := ⟨_, rfl⟩
      rw [hx] at hgood hrk HE
      obtain ⟨p, b⟩ := x
      replace HE : Box (({ donePl d k with pl := upd (donePl d k).pl p b } : Dk) = donePl d (k + 1)) := ⟨HE⟩
      have HI : Box ((Tryz.prog.info? 95).map (·.size) = some (wc (p, b)).length) := ⟨by rw [length_wc _ hgood.2.1]; exact info84⟩
      have HI2 : Box ((Tryz.prog.info? 95).map (·.size) = some (wc (p, b)).toArray.size) := ⟨by rw [List.size_toArray, length_wc _ hgood.2.1]; exact info84⟩
      have hz : (wc (0, z192)).toArray.size = (wc (p, b)).length := by rw [length_wc _ hgood.2.1]; exact length_wc _ length_z192
      have HN : Box _ := ⟨laid_new wr (wc (0, z192)).toArray 95 (wc (p, b)) hz⟩
      have HT : Box ((wr.alloc (.cells (wc (0, z192)).toArray 95)).there wr.heap.size 0 (wc (p, b)).toArray.size) := ⟨there_row (al_at rfl) (by rw [hz]; simp)⟩
      have HLy : Box (Lay ((wr.alloc (.cells (wc (0, z192)).toArray 95)).setCells wr.heap.size 0 (wc (p, b))) D P wr.heap.size d.n p b) := ⟨HK.out.1.layAt HN.out.1 p b hgood.1 hgood.2.1 HN.out.2.2⟩
      have HLd : Box _ := ⟨HK.out.1.laid HN.out.1.drew p b hgood.1 hgood.2⟩
      have HPn : Box (p < d.n) := ⟨hgood.1⟩
      have HTn : Box (Turned (foot D P (.slice (some ⟨g, 0, none⟩) d.uw.length cap) ov) w wr) := ⟨HK.out.2⟩
      clear HK hgood hr hg hx hz
      go_upto_region 7 with (first
        | (refine wpList_load_mid rfl 95 _ rfl g (k * 193) rfl (wc (p, b)) _ hrk.out Tryz.underlying95 rfl HI.out ?_)
        | (refine wpList_run rfl _ _ (exec_alloc 95 rfl _ zero84) ?_)
        | (refine wpList_store_mid rfl 95 _ _ rfl wr.heap.size 0 (wc (p, b)).toArray rfl rfl HT.out HI2.out (all_oneCell_toArray (one_wc _)) ?_))
      rename_i KK ax
      try simp only [Act.put, List.setIfInBounds_toArray, List.set_cons_zero, List.set_cons_succ]
      refine begin_but (P) (by kernel_rfl) (fun wd hwd => ?_)
      have GF : Box (Lay wd D P wr.heap.size d.n p b) := ⟨HLy.out.drew hwd⟩
      have hpn : p < d.n := HPn.out
      refine take_but (i := 0) (v := ?_) rfl (by kernel_rfl) (by kernel_rfl) (by kernel_rfl) (fun _ _ _ h => h) (by rfl) ?_ ?_
      rotate_left
      · intro w' hB; clear hB; go_simp <;> with_reducible rfl
      try simp only [Act.put, List.setIfInBounds_toArray, List.set_cons_zero, List.set_cons_succ, List.getElem_toArray, List.getElem_cons_zero]
      refine take_but (i := 1) (v := ?_) rfl (by kernel_rfl) (by kernel_rfl) (by kernel_rfl) (fun _ _ _ h => h) (by rfl) ?_ ?_
      rotate_left
      · intro w' hB; clear hB; go_simp <;> with_reducible rfl
      try simp only [Act.put, List.setIfInBounds_toArray, List.set_cons_zero, List.set_cons_succ, List.getElem_toArray, List.getElem_cons_zero, List.getElem_cons_succ]
      refine take_but (i := 2) (v := ?_) rfl (by kernel_rfl) (by kernel_rfl) (by kernel_rfl) (fun _ _ _ h => h) (by rfl) ?_ ?_
      rotate_left
      · intro w' hB; clear hB; go_simp <;> with_reducible rfl
      try simp only [Act.put, List.setIfInBounds_toArray, List.set_cons_zero, List.set_cons_succ, List.getElem_toArray, List.getElem_cons_zero, List.getElem_cons_succ]
      refine take_but (i := 3) (v := .slice (some ⟨P, 0, none⟩) d.n d.n) rfl (by kernel_rfl) (by kernel_rfl) (by kernel_rfl) (fun _ _ _ h => h) (by rfl) (fun w' hB => exec_load1 68 _ _ rfl Tryz.underlying68 rfl _ rfl _ (but_cell hB GF.out.c0 GF.out.n0)) ?_
      try simp only [Act.put, List.setIfInBounds_toArray, List.set_cons_zero, List.set_cons_succ, List.getElem_toArray, List.getElem_cons_zero, List.getElem_cons_succ]
      refine take_but (i := 4) (v := ?_) rfl (by kernel_rfl) (by kernel_rfl) (by kernel_rfl) (fun _ _ _ h => h) (by rfl) ?_ ?_
      rotate_left
      · intro w' hB; clear hB; go_simp <;> with_reducible rfl
      try simp only [Act.put, List.setIfInBounds_toArray, List.set_cons_zero, List.set_cons_succ, List.getElem_toArray, List.getElem_cons_zero, List.getElem_cons_succ]
      refine take_but (i := 5) (v := .int .i64 (p : Int)) rfl (by kernel_rfl) (by kernel_rfl) (by kernel_rfl) (fun _ _ _ h => h) (by rfl) (fun w' hB => exec_load1 3 _ _ rfl Tryz.underlying3 rfl _ rfl _ (but_cell hB GF.out.cx GF.out.nx)) ?_
      try simp only [Act.put, List.setIfInBounds_toArray, List.set_cons_zero, List.set_cons_succ, List.getElem_toArray, List.getElem_cons_zero, List.getElem_cons_succ]
      refine take_but (i := 6) (v := ?_) rfl (by kernel_rfl) (by kernel_rfl) (by kernel_rfl) (fun _ _ _ h => h) (by rfl) ?_ ?_
      rotate_left
      · intro w' hB; clear hB; go_simp <;> with_reducible rfl
      try simp only [Act.put, List.setIfInBounds_toArray, List.set_cons_zero, List.set_cons_succ, List.getElem_toArray, List.getElem_cons_zero, List.getElem_cons_succ]
      refine take_but (i := 7) (v := .agg (u8s b)) rfl (by kernel_rfl) (by kernel_rfl) (by kernel_rfl) (fun _ _ _ h => h) (by rfl) (fun w' hB => exec_load_mid 93 _ _ rfl Tryz.underlying93 rfl wr.heap.size 1 rfl (b.map (Value.int .u8)) GF.out.iz (but_range hB GF.out.rx GF.out.nx)) ?_
      try simp only [Act.put, List.setIfInBounds_toArray, List.set_cons_zero, List.set_cons_succ, List.getElem_toArray, List.getElem_cons_zero, List.getElem_cons_succ]
      refine take_but (i := 8) (v := ?_) rfl (by kernel_rfl) (by kernel_rfl) (by kernel_rfl) (fun _ _ _ h => h) (by rfl) ?_ ?_
      rotate_left
      · intro w' hB; clear hB; go_simp <;> with_reducible rfl
      try simp only [Act.put, List.setIfInBounds_toArray, List.set_cons_zero, List.set_cons_succ, List.getElem_toArray, List.getElem_cons_zero, List.getElem_cons_succ]
      refine last_but (i := 9) rfl (by kernel_rfl) (by rfl) (by kernel_rfl) 93 _ _ rfl (p * 192) (u8s b) rfl rfl GF.out.th GF.out.iy (all_u8s _) ?_
      show KK _ _
      refine ax _ _ ?_
      try simp only [Act.put, List.getElem_toArray, List.getElem_cons_zero, List.getElem_cons_succ]
      have HL2 : Box _ := ⟨HLd.out⟩
      rw [HE.out] at HL2
      rw [hwd]
      generalize (((wr.alloc (.cells (wc (0, z192)).toArray 95)).setCells wr.heap.size 0 (wc (p, b))).drew.setCells P (p * 192) (u8s b).toList) = wy at HL2 ⊢
      clear ax HLd HE HLy GF HT HN HI HI2 hrk hwd
      go_wp2
      go_roundw
      case rel => exact ⟨k + 1, by omega, by simp, ⟨HL2.out.1, HTn.out.trans HL2.out.2 (fun _ hk => .inl hk)⟩⟩
      case measure => simp [intOf]; omega
    · obtain rfl : k = d.uw.length := by omega
      have HK2 : Box (At wr D P (.slice a d.uw.length cap) ov (donePl d d.uw.length)) := ⟨HK.out.1⟩
      obtain ⟨-, c1, -, -, -, -, fz⟩ := HK2.out.cells
      have f1 := fz 1
      have HW : Box _ := ⟨HK2.out.noway⟩
      clear fz
      go_wp2_with (go_at_call 33; refine (note_at _ D P _ ov _ HW.out.1 3 0 HO.out).mono ?_; rintro e w4 ⟨rfl, ov', hn4⟩; have HN4 : Box _ := ⟨hn4⟩; clear hn4)
      go_ret
      refine ⟨rfl, ?_⟩
      have hfl : ({ donePl d d.uw.length with uw := [], ops := (donePl d d.uw.length).ops ++ [(3, 0)] } : Dk) = flOk d := by simp [flOk, donePl]
      rw [← hfl]
      obtain ⟨n1, n2, n3⟩ := HN4.out
      obtain ⟨v1, v2, v3⟩ := HW.out
      have z1 := HK.out.2.size
      have z2 := v2.size
      exact At.nx HF.out n1 ((HK.out.2.trans v2 (fun _ hk => .inl hk)).trans n2 (fun k hk => .inl (v3 k hk))) (fun k hk => (n3 k hk).imp (v3 k) (fun h => by omega))
end Go.Proofs.YthbbijaikcmaeaaGreatDoor.Disk
namespace Go.Proofs.YthbbijaikcmaeaaGreatDoor.Disk.Plain
set_option maxRecDepth 100000
end Go.Proofs.YthbbijaikcmaeaaGreatDoor.Disk.Plain
namespace Go.Proofs.YthbbijaikcmaeaaGreatDoor.Disk
set_option maxRecDepth 100000
set_option linter.unusedVariables false
open Go.RowKit Go.Proofs.YthbbijaikcmaeaaGreatDoor.Plain Go.Proofs.YthbbijaikcmaeaaGreatDoor.Disk.Plain
def Bools (w : World) (a : Option Addr) (len : Nat) (K : List Bool) : Prop := K.length = len ∧ (0 < len → ∃ b off, a = some ⟨b, off, none⟩ ∧ b < w.heap.size ∧ ∀ i, i < len → w.cell? ⟨b, off + i, none⟩ = some (.bool (K.getD i false)))
theorem Bools.turned {fp : Nat → Prop} {w w' : World} {a : Option Addr} {len : Nat} {K : List Bool} (h : Bools w a len K) (t : Turned fp w w') (hn : ∀ ad, a = some ad → 0 < len → ¬ fp ad.block) : Bools w' a len K := by
  refine ⟨h.1, fun h0 => ?_⟩
  obtain ⟨b, off, rfl, hb, hc⟩ := h.2 h0
  exact ⟨b, off, rfl, Nat.lt_of_lt_of_le hb t.size, fun i hi => t.cell (hc i hi) (hn ⟨b, off, none⟩ rfl h0)⟩
def kp (L : List (Nat × List Int)) (K : List Bool) : List (Nat × List Int) := (L.zipIdx.filter (fun x => K.getD x.2 false)).map Prod.fst
def crOk (d : Dk) (K : List Bool) : Dk := { d with pl := lay (kp d.uw K) d.pl, uw := [], down := false, st := false, left := 0 }
end Go.Proofs.YthbbijaikcmaeaaGreatDoor.Disk
namespace Go.Proofs.YthbbijaikcmaeaaGreatDoor.Disk.Plain
set_option maxRecDepth 100000
end Go.Proofs.YthbbijaikcmaeaaGreatDoor.Disk.Plain
namespace Go.Proofs.YthbbijaikcmaeaaGreatDoor.Disk
set_option maxRecDepth 100000
set_option linter.unusedVariables false
open Go.RowKit Go.Proofs.YthbbijaikcmaeaaGreatDoor.Plain Go.Proofs.YthbbijaikcmaeaaGreatDoor.Disk.Plain
theorem own_empty (w : World) (e : TypeId) (sz : Nat) : (w.alloc (.cells #[] e)).ownsRow 0 e sz (.slice (some ⟨w.heap.size, 0, none⟩) 0 0) 0 [] := World.ownsRow_made w #[] 0 (Nat.zero_le _) (by unfold maxLen; omega) (by simp)
theorem eqIn_nil {P : Program} (w : World) (n : Nat) (t e : TypeId) (a : Option Addr) (l c : Nat) (h : P.underlying t = some (.slice e)) : (Op.equalIn (n + 1) t (.slice a l c) (.slice none 0 0)).run P w = .ok a.isNone w := by
  cases a <;> simp [Op.equalIn, run_underlying h]
theorem eql_nil {P : Program} (w : World) (t e : TypeId) (a : Option Addr) (l c : Nat) (h : P.underlying t = some (.slice e)) : (binOp .eql t (.slice a l c) (.slice none 0 0)).run P w = .ok (.bool a.isNone) w := by
  have h1 : (Op.equal t (.slice a l c) (.slice none 0 0)).run P w = .ok a.isNone w := eqIn_nil w 9999 t e a l c h
  simp only [binOp]
  simp [h1]
theorem below_grown {w w2 : World} {o : Obj} {row : Option Nat} (hg : (w.alloc o).grownBy w2 row) (hr : ∀ k, row = some k → w.heap.size ≤ k) : Below w.heap.size w w2 :=
  ((Below.refl _ w).alloc (Nat.le_refl _) o).grown hg (by simp) hr
set_option maxRecDepth 20000 in
set_option maxHeartbeats 1000000 in
theorem clone_bytes (w : World) (b off n cap : Nat) (B : List Int) (h : w.rangeAt b off (B.map (Value.int .u8))) (hB : B.length = n) (hl : n < 1000000) :
    Calls Tryz.prog 35 #[.slice (some ⟨b, off, none⟩) n cap] w fun e w' => ∃ v', e = .returned v' ∧ w'.ownsRow 0 5 1 v' n (B.map (Value.int .u8)) ∧ Below w.heap.size w w' ∧ ∀ k, v'.ownBlock = some k → w.heap.size ≤ k := by
  have HB : Box ((0 + n) * 1 ≤ 140737488355328) := ⟨by omega⟩
  have HN : Box ((B.map (Value.int .u8)).length = n * 1) := ⟨by simp [hB]⟩
  have HO : Box (∀ u ∈ B.map (Value.int .u8), u.oneCell' = true) := ⟨ints_oneCell _ _⟩
  have HC : Box (∀ j u, (B.map (Value.int .u8))[j]? = some u → w.cell? ((⟨b, off, none⟩ : Addr).add j) = some u) := ⟨fun j u hj => by rw [Addr.add_mid]; exact h j u hj⟩
  have hq : ∀ x, (binOp .eql 38 (.slice (some ⟨b, off, none⟩) n cap) (.slice none 0 0)).run Tryz.prog x = .ok (.bool false) x := fun x => eql_nil x 38 _ _ _ _ Tryz.underlying38
  clear h hl hB
  go_enter Tryz.func35, Tryz.ntmps35
  go_wp2_with (at_builtin; refine wpList_app2 rfl _ _ 38 rfl 5 1 1 (.int .u8 0) Tryz.underlying38 info5 rfl (by decide) _ 0 [] rfl (own_empty w _ 1) ⟨b, off, none⟩ n cap (B.map (Value.int .u8)) rfl HN.out (fun j u hj => cell_al _ (HC.out j u hj)) HO.out HB.out (by decide) ?_; intro v' w2 hown hgr hblk; have HX : Box (_ ∧ _ ∧ _) := ⟨hown, hgr, hblk⟩; clear hown hgr hblk)
  go_ret
  obtain ⟨x1, x2, x3⟩ := HX.out
  rw [Nat.zero_add] at x1
  have hz : ∀ k, Value.ownBlock (.slice (some ⟨w.heap.size, 0, none⟩) 0 0) = some k → w.heap.size ≤ k := fun k hk => by simp [Value.ownBlock] at hk; omega
  exact ⟨_, rfl, x1, below_grown x2 hz, fun k hk => (x3 k hk).elim (hz k) (fun h => by simp at h; omega)⟩
end Go.Proofs.YthbbijaikcmaeaaGreatDoor.Disk
namespace Go.Proofs.YthbbijaikcmaeaaGreatDoor.Disk.Plain
set_option maxRecDepth 100000
end Go.Proofs.YthbbijaikcmaeaaGreatDoor.Disk.Plain
namespace Go.Proofs.YthbbijaikcmaeaaGreatDoor.Disk
set_option maxRecDepth 100000
set_option linter.unusedVariables false
open Go.RowKit Go.Proofs.YthbbijaikcmaeaaGreatDoor.Plain Go.Proofs.YthbbijaikcmaeaaGreatDoor.Disk.Plain
structure Cx (w0 w : World) (D : Nat) (fp : Nat → Prop) (d : Dk) : Prop where
  is : Is w D fp d
  bel : Below w0.heap.size w0 w
  lo : ∀ k, fp k → w0.heap.size ≤ k
  hi : ∀ k, fp k → k < w.heap.size
structure Fol (w : World) (fp : Nat → Prop) (w' : World) (fp' : Nat → Prop) : Prop where
  t : Turned fp w w'
  k : ∀ k, k < w.heap.size → ¬ fp k → ¬ fp' k
structure Loc (w : World) (fp : Nat → Prop) (g : Nat) (B : List Int) (t : TypeId) : Prop where
  row : w.heap[g]? = some (.cells (u8s B) t (0, 0))
  no : ¬ fp g
theorem Loc.lt {w : World} {fp : Nat → Prop} {g : Nat} {B : List Int} {t : TypeId} (h : Loc w fp g B t) : g < w.heap.size := (Array.getElem?_eq_some_iff.1 h.row).1
theorem Loc.fol {w w' : World} {fp fp' : Nat → Prop} {g : Nat} {B : List Int} {t : TypeId} (h : Loc w fp g B t) (f : Fol w fp w' fp') : Loc w' fp' g B t :=
  ⟨(f.t.block g h.lt h.no).trans h.row, f.k g h.lt h.no⟩
theorem Loc.below {w w' : World} {fp : Nat → Prop} {g : Nat} {B : List Int} {t : TypeId} (h : Loc w fp g B t) (hb : Below w.heap.size w w') : Loc w' fp g B t := ⟨(hb.block g h.lt).trans h.row, h.no⟩
theorem Loc.bytes {w : World} {fp : Nat → Prop} {g : Nat} {B : List Int} {t : TypeId} (h : Loc w fp g B t) (hB : Byt B) (n : Nat) (hn : B.length = n) : Bytes w (some ⟨g, 0, none⟩) n B := by
  subst hn
  exact bytes_of_row hB h.row
theorem Cx.step {w0 w w' : World} {D : Nat} {fp : Nat → Prop} {d : Dk} (h : Cx w0 w D fp d) (hb : Below w.heap.size w w') : Cx w0 w' D fp d :=
  ⟨h.is.below hb, below_to h.bel hb, h.lo, fun k hk => Nat.lt_of_lt_of_le (h.hi k hk) hb.size⟩
theorem Cx.nx {w0 w w' : World} {D : Nat} {fp : Nat → Prop} {d d' : Dk} (h : Cx w0 w D fp d) (n : Nx D fp w w' d') : ∃ fp', Cx w0 w' D fp' d' ∧ Fol w fp w' fp' := by
  obtain ⟨f, i, t, s⟩ := n
  refine ⟨_, ⟨i.cut, h.bel.trans (t.below h.bel.size h.lo), fun k hk => ?_, fun k hk => hk.2⟩, ⟨t, fun k hk hn hf => (s k hf.1).elim hn (fun h => by omega)⟩⟩
  rcases s k hk.1 with h1 | h1
  · exact h.lo k h1
  · exact Nat.le_trans h.bel.size h1
theorem Cx.set {w0 w : World} {D : Nat} {fp : Nat → Prop} {d : Dk} (h : Cx w0 w D fp d) (g i : Nat) (v : Value) (hn : ¬ fp g) (hg : w0.heap.size ≤ g) : Cx w0 (w.setCell ⟨g, i, none⟩ v) D fp d :=
  ⟨h.is.same (fun k hk _ => heap_setCell_other w ⟨g, i, none⟩ k _ (fun e => hn (by have e' : g = k := e.symm; rw [e']; exact hk))), below_set h.bel hg v, h.lo, fun k hk => by simpa using h.hi k hk⟩
theorem Loc.set {w : World} {fp : Nat → Prop} {g : Nat} {B : List Int} {t : TypeId} (h : Loc w fp g B t) (i : Nat) (z : Int) : Loc (w.setCell ⟨g, i, none⟩ (.int .u8 z)) fp g (B.set i z) t :=
  ⟨by rw [heap_setCell_same w g i _ t _ h.row, u8s_set], h.no⟩
theorem Loc.other {w : World} {fp : Nat → Prop} {g g' : Nat} {B : List Int} {t : TypeId} (h : Loc w fp g B t) (i : Nat) (v : Value) (hne : g ≠ g') : Loc (w.setCell ⟨g', i, none⟩ v) fp g B t :=
  ⟨by rw [heap_setCell_other w ⟨g', i, none⟩ g _ hne]; exact h.row, h.no⟩
theorem Loc.new {w : World} {fp : Nat → Prop} (hf : ∀ k, fp k → k < w.heap.size) (B : List Int) (t : TypeId) : Loc (w.alloc (.cells (u8s B) t)) fp w.heap.size B t := ⟨al_at rfl, fun h => by have := hf _ h; omega⟩
theorem cx_new {w w' : World} {n : Nat} (i : Is w' (w.heap.size + 1) (fun k => w.heap.size ≤ k) (dk0 n)) (b : Below w.heap.size w w') : ∃ fp, Cx w w' (w.heap.size + 1) fp (dk0 n) :=
  ⟨_, i.cut, b, fun k hk => hk.1, fun k hk => hk.2⟩
theorem new_cx (w : World) (n : Nat) (hn : 1 ≤ n ∧ n ≤ 4096) : Calls Tryz.prog 8 #[.int .i64 (n : Int)] w fun e w' => e = .returned (.tuple #[.pointer (some ⟨w.heap.size + 1, 0, none⟩), .int .i64 0]) ∧ ∃ fp, Cx w w' (w.heap.size + 1) fp (dk0 n) :=
  (new_any w n hn).mono fun e w' ⟨h1, h2, h3⟩ => ⟨h1, cx_new h2 h3⟩
theorem write_cx {w0 w : World} {D : Nat} {fp : Nat → Prop} {d : Dk} (C : Cx w0 w D fp d) (i : Nat) (a : Option Addr) (cap : Nat) (B : List Int) (hB : Bytes w a 192 B) (hap : ∀ ad, a = some ad → ¬ fp ad.block) (hd : d.down = false) (hi : i < d.n) (hst : d.st = true → d.left ≠ 0) (hl : 0 ≤ d.left ∧ d.left ≤ 9223372036854775807) (ho : d.ops.length < 1000000) (hu : d.uw.length < 1000000) :
    Calls Tryz.prog 55 #[.pointer (some ⟨D, 0, none⟩), .int .i64 (i : Int), .slice a 192 cap] w fun e w' => e = .returned (.int .i64 0) ∧ ∃ fp', Cx w0 w' D fp' (wrOk d i B) ∧ Fol w fp w' fp' :=
  (write_ok w D fp d C.is i a cap B hB hap hd hi hst hl ho hu).mono fun e w' ⟨h1, h2⟩ => ⟨h1, C.nx h2⟩
theorem flush_cx {w0 w : World} {D : Nat} {fp : Nat → Prop} {d : Dk} (C : Cx w0 w D fp d) (hd : d.down = false) (ho : d.ops.length < 1000000) (hu : d.uw.length < 1000000) :
    Calls Tryz.prog 12 #[.pointer (some ⟨D, 0, none⟩)] w fun e w' => e = .returned (.int .i64 0) ∧ ∃ fp', Cx w0 w' D fp' (flOk d) ∧ Fol w fp w' fp' :=
  (flush_ok w D fp d C.is hd ho hu).mono fun e w' ⟨h1, h2⟩ => ⟨h1, C.nx h2⟩
theorem read_cx {w0 w : World} {D : Nat} {fp : Nat → Prop} {d : Dk} (C : Cx w0 w D fp d) (i : Nat) (hd : d.down = false) (hi : i < d.n) (ho : d.ops.length < 1000000) (hu : d.uw.length < 1000000) :
    Calls Tryz.prog 65 #[.pointer (some ⟨D, 0, none⟩), .int .i64 (i : Int)] w fun e w' =>
      ∃ R fp', e = .returned (.tuple #[.slice (some ⟨R, 0, none⟩) 192 192, .int .i64 0]) ∧ Cx w0 w' D fp' (rdOk d i) ∧ Fol w fp w' fp' ∧ Loc w' fp' R (lat d i) 93 ∧ w.heap.size ≤ R ∧ (lat d i).length = 192 ∧ Byt (lat d i) := by
  have hlen : (lat d i).length = 192 ∧ Byt (lat d i) := by
    obtain ⟨P, uv, ov, h1, _⟩ := C.is
    exact length_lat h1 i
  refine (read_ok w D fp d C.is i hd hi (by omega) (by omega)).mono ?_
  rintro e w' ⟨R, fp', rfl, h1, h2, h3, h4, h5, h6⟩
  refine ⟨R, _, rfl, ⟨h1.cut, C.bel.trans (h2.below C.bel.size C.lo), fun k hk => ?_, fun k hk => hk.2⟩, ⟨h2, fun k hk hn hf => (h3 k hf.1).elim hn (fun h => by omega)⟩, ⟨h6, fun h => h4 h.1⟩, h5, hlen⟩
  rcases h3 k hk.1 with h7 | h7
  · exact C.lo k h7
  · exact Nat.le_trans C.bel.size h7
theorem size_cx {w0 w : World} {D : Nat} {fp : Nat → Prop} {d : Dk} (C : Cx w0 w D fp d) : Calls Tryz.prog 24 #[.pointer (some ⟨D, 0, none⟩)] w fun e w' => e = .returned (.int .i64 (d.n : Int)) ∧ w = w' := by
  obtain ⟨P, uv, ov, h1, _⟩ := C.is
  exact size_any w D P uv ov d h1
end Go.Proofs.YthbbijaikcmaeaaGreatDoor.Disk
namespace Go.Proofs.YthbbijaikcmaeaaGreatDoor.Disk.Plain
set_option maxRecDepth 100000
end Go.Proofs.YthbbijaikcmaeaaGreatDoor.Disk.Plain
namespace Go.Proofs.YthbbijaikcmaeaaGreatDoor.Disk
set_option maxRecDepth 100000
set_option linter.unusedVariables false
open Go.RowKit Go.Proofs.YthbbijaikcmaeaaGreatDoor.Plain Go.Proofs.YthbbijaikcmaeaaGreatDoor.Disk.Plain
theorem lastOf_snoc (L : List (Nat × List Int)) (x : Nat × List Int) (j : Nat) : lastOf (L ++ [x]) j = if x.1 = j then some x.2 else lastOf L j := by
  unfold lastOf
  rw [List.reverse_append]
  simp only [List.reverse_cons, List.reverse_nil, List.nil_append, List.cons_append, List.find?_cons]
  by_cases h : x.1 = j
  · simp [h]
  · have : (x.1 == j) = false := by simpa using h
    simp [this, h]
theorem snoc_ind {α : Type} {p : List α → Prop} (L : List α) (nil : p []) (snoc : ∀ L x, p L → p (L ++ [x])) : p L := by
  have : ∀ R : List α, p R.reverse := fun R => by
    induction R with
    | nil => exact nil
    | cons x R ih => rw [List.reverse_cons]; exact snoc _ _ ih
  have h := this L.reverse
  rwa [List.reverse_reverse] at h
theorem lay_get (L : List (Nat × List Int)) (pl : Nat → List Int) (j : Nat) : lay L pl j = (lastOf L j).getD (pl j) := by
  refine snoc_ind (p := fun L => lay L pl j = (lastOf L j).getD (pl j)) L rfl (fun L x ih => ?_)
  show lay (L ++ [x]) pl j = (lastOf (L ++ [x]) j).getD (pl j)
  rw [lay_snoc, lastOf_snoc, upd]
  by_cases h : j = x.1
  · rw [if_pos h, if_pos h.symm]; rfl
  · rw [if_neg h, if_neg (Ne.symm h)]; exact ih
theorem lat_wr (d : Dk) (i j : Nat) (B : List Int) : lat (wrOk d i B) j = if i = j then B else lat d j := by
  unfold lat
  rw [show (wrOk d i B).uw = d.uw ++ [(i, B)] from rfl, lastOf_snoc]
  split <;> rfl
theorem lat_fl (d : Dk) (j : Nat) : lat (flOk d) j = lat d j := by
  have : lat (flOk d) j = lay d.uw d.pl j := rfl
  rw [this, lay_get]
  rfl
def b7 : List Int := z192.set 0 7
def a1 : Dk := wrOk (dk0 2) 1 b7
def a2 : Dk := rdOk a1 1
def a3 : Dk := crOk a2 []
def a4 : Dk := rdOk a3 1
end Go.Proofs.YthbbijaikcmaeaaGreatDoor.Disk
namespace Go.Proofs.YthbbijaikcmaeaaGreatDoor.Disk.Plain
set_option maxRecDepth 100000
end Go.Proofs.YthbbijaikcmaeaaGreatDoor.Disk.Plain
namespace Go.Proofs.YthbbijaikcmaeaaGreatDoor.Disk
set_option maxRecDepth 100000
set_option linter.unusedVariables false
open Go.RowKit Go.Proofs.YthbbijaikcmaeaaGreatDoor.Plain Go.Proofs.YthbbijaikcmaeaaGreatDoor.Disk.Plain
def nils (m : Nat) : List Value := List.replicate m (Value.slice none 0 0)
theorem nils_succ (m : Nat) : nils (m + 1) = Value.slice none 0 0 :: nils m := rfl
structure Rws (w wr : World) (g n k : Nat) (pl : Nat → List Int) (L : List Value) : Prop where
  row : wr.heap[g]? = some (.cells (L ++ nils (n - k)).toArray 38 (0, 0))
  len : L.length = k
  each : ∀ i (h : i < L.length), wr.ownsRow 0 5 1 L[i] 192 ((pl i).map (Value.int .u8)) ∧ ∀ j, L[i].ownBlock = some j → g < j
  lo : w.heap.size ≤ g
  bel : Below w.heap.size w wr
theorem Rws.step {w wr wx : World} {g n k : Nat} {pl : Nat → List Int} {L : List Value} (h : Rws w wr g n k pl L) (hk : k < n) (v : Value) (hb : Below wr.heap.size wr wx) (hv : wx.ownsRow 0 5 1 v 192 ((pl k).map (Value.int .u8))) (hl : ∀ j, v.ownBlock = some j → wr.heap.size ≤ j) : Rws w (wx.setCell ⟨g, k, none⟩ v) g n (k + 1) pl (L ++ [v]) := by
  have hg : g < wr.heap.size := (Array.getElem?_eq_some_iff.1 h.row).1
  have hne : ∀ u : Value, (∀ j, u.ownBlock = some j → g < j) → ∀ j, u.ownBlock = some j → (wx.setCell ⟨g, k, none⟩ v).heap[j]? = wx.heap[j]? := fun u hu j hj => heap_setCell_other wx ⟨g, k, none⟩ j _ (fun e => by have := hu j hj; simp at e; omega)
  refine ⟨?_, by simp [h.len], fun i hi => ?_, h.lo, below_set (h.bel.trans (hb.mono h.bel.size)) h.lo v⟩
  · rw [heap_setCell_same wx g k _ _ v ((hb.block g hg).trans h.row)]
    congr 2
    rw [show n - k = n - (k + 1) + 1 by omega, nils_succ]
    simp [← h.len]
  · by_cases hik : i < L.length
    · have e : (L ++ [v])[i] = L[i] := List.getElem_append_left hik
      rw [e]
      obtain ⟨h1, h2⟩ := h.each i hik
      exact ⟨own_same (own_same h1 (fun j hj => hb.block j (h1.lt j hj).2)) (hne _ h2), h2⟩
    · have hik2 : i = L.length := by simp at hi; omega
      subst hik2
      have e : (L ++ [v])[L.length]'(by simp) = v := by simp
      rw [e, h.len]
      have h2 : ∀ j, v.ownBlock = some j → g < j := fun j hj => by have := hl j hj; omega
      exact ⟨own_same hv (hne _ h2), h2⟩
theorem infoRow : (Tryz.prog.info? 38).map (fun i => (i.zero, i.size, i.bytes)) = some (some (.slice none 0 0), 1, 24) := by kernel_rfl
theorem made_nil (n : Nat) : madeCells #[.slice none 0 0] n = (nils n).toArray := by
  unfold nils
  apply Array.ext
  · simp [size_made]
  · intro i h1 h2
    simp [madeCells]
    have : i % 1 = 0 := by omega
    simp [this]
set_option maxRecDepth 20000 in
set_option maxHeartbeats 4000000 in
theorem image_any (w : World) (D P : Nat) (uv ov : Value) (d : Dk) (h : At w D P uv ov d) :
    Calls Tryz.prog 16 #[.pointer (some ⟨D, 0, none⟩)] w fun e w' => ∃ g L, e = .returned (.slice (some ⟨g, 0, none⟩) d.n d.n) ∧ Rws w w' g d.n d.n d.pl L := by
  obtain ⟨c0, -, -, -, -, -, -⟩ := h.cells
  have hn := h.hn
  have HA : Box (At w D P uv ov d) := ⟨h⟩
  have HM : Box (24 * d.n ≤ 281474976710656 ∧ d.n ≤ 9223372036854775807) := ⟨by omega, by omega⟩
  have HE : Box (madeCells (Value.slice none 0 0).cells (d.n * 1) = (nils d.n).toArray) := ⟨by rw [Nat.mul_one]; exact made_nil d.n⟩
  have hn2 : d.n < 9223372036854775807 := by omega
  clear h hn
  go_enter Tryz.func16, Tryz.ntmps16
  go_wp2_with (refine wpList_run rfl _ _ (exec_make 37 38 _ _ rfl (.slice none 0 0) 1 24 Tryz.underlying37 infoRow d.n rfl rfl HM.out.1 HM.out.2) ?_; rw [HE.out])
  have R0 : Box (Rws w (w.alloc (.cells (nils d.n).toArray 38)) w.heap.size d.n 0 d.pl []) := ⟨⟨al_at rfl, rfl, fun i hi => by simp at hi, Nat.le_refl _, (Below.refl _ _).alloc (Nat.le_refl _) _⟩⟩
  generalize w.alloc (.cells (nils d.n).toArray 38) = w1 at R0 ⊢
  obtain ⟨g, HG⟩ : ∃ g, Box (w.heap.size = g) := ⟨_, ⟨rfl⟩⟩
  rw [HG.out] at R0 ⊢
  clear HE HM
  go_loopw [15] (fun j wr => ∃ q : Nat, q ≤ d.n ∧ j = .int .i64 q ∧ ∃ L, Box (Rws w wr g d.n q d.pl L)) (fun j _ => d.n - (intOf j).toNat)
  case atStart => exact ⟨0, by omega, rfl, [], R0⟩
  case round =>
    clear R0 c0
    obtain ⟨q, hq, rfl, L, HL⟩ := hrel
    have HA2 : Box (At wr D P uv ov d) := ⟨HA.out.below HL.out.bel⟩
    obtain ⟨c0, -, -, -, -, -, -⟩ := HA2.out.cells
    by_cases hlt : q < d.n
    · have HC : Box (Calls Tryz.prog 35 #[.slice (some ⟨P, q * 192, none⟩) 192 192] wr fun e w' => ∃ v', e = .returned v' ∧ w'.ownsRow 0 5 1 v' 192 ((d.pl q).map (Value.int .u8)) ∧ Below wr.heap.size wr w' ∧ ∀ k, v'.ownBlock = some k → wr.heap.size ≤ k) := ⟨by
        obtain ⟨cs, hP, hPs⟩ := HA2.out.hp
        exact clone_bytes wr P (q * 192) 192 192 (d.pl q) (pls_range hP hPs hlt (HA2.out.hpl q).1) (HA2.out.hpl q).1 (by omega)⟩
      have hcl : ∀ wx, Below wr.heap.size wr wx → ∃ u, wx.cell? ⟨g, q, none⟩ = some u ∧ wx.frozen? ⟨g, q, none⟩ = false := fun wx hb => by
        have hr := (hb.block g (Array.getElem?_eq_some_iff.1 HL.out.row).1).trans HL.out.row
        refine ⟨.slice none 0 0, ?_, frozen_of_row wx g q _ _ hr⟩
        rw [cell_of_row _ _ _ _ _ _ hr]
        have hlen := HL.out.len
        simp [← hlen, nils, show 0 < d.n - L.length by omega]
      have HCl : Box _ := ⟨hcl⟩
      clear hcl
      go_wp2_with (go_at_call 35; refine HC.out.mono ?_; rintro e wx ⟨v', rfl, hx1, hx2, hx3⟩; obtain ⟨va, vc, rfl⟩ := own_form2 hx1; have HX : Box _ := ⟨HL.out.step hlt _ hx2 hx1 hx3⟩; obtain ⟨u0, cu, fu⟩ := HCl.out wx hx2; clear hx1 hx2 hx3)
      exact ⟨⟨q + 1, by omega, by simp, _, HX⟩, by simp [intOf]; omega⟩
    · obtain rfl : q = d.n := by omega
      go_wp2
      go_ret
      exact ⟨g, L, rfl, HL.out⟩
end Go.Proofs.YthbbijaikcmaeaaGreatDoor.Disk
namespace Go.Proofs.YthbbijaikcmaeaaGreatDoor.Disk.Plain
set_option maxRecDepth 100000
end Go.Proofs.YthbbijaikcmaeaaGreatDoor.Disk.Plain
namespace Go.Proofs.YthbbijaikcmaeaaGreatDoor.Disk
set_option maxRecDepth 100000
set_option linter.unusedVariables false
open Go.RowKit Go.Proofs.YthbbijaikcmaeaaGreatDoor.Plain Go.Proofs.YthbbijaikcmaeaaGreatDoor.Disk.Plain
def fst (L : List (Nat × List Int)) (i : Nat) (k : Nat) : Prop := k < L.length ∧ (∀ h : k < L.length, L[k].1 = i) ∧ ∀ j (h : j < L.length), j < k → L[j].1 ≠ i
def oth (i : Nat) (L : List (Nat × List Int)) : List (Nat × List Int) := L.filter (fun x => !(decide (x.1 = i)))
theorem oth_succ (i : Nat) (L : List (Nat × List Int)) (j : Nat) (h : j < L.length) : oth i (L.take (j + 1)) = oth i (L.take j) ++ (if L[j].1 = i then [] else [L[j]]) := by
  rw [oth, ← List.take_append_getElem h, List.filter_append, oth]
  congr 1
  by_cases e : L[j].1 = i <;> simp [e]
theorem wcs_len (L : List (Nat × List Int)) (h : Lens L) : (wcs L).length = L.length * 193 := by
  rw [wcs, flat_length _ 193 (fun x hx => by obtain ⟨y, hy, rfl⟩ := List.mem_map.1 hx; exact length_wc y (h y hy)), List.length_map]
theorem lens_oth {i : Nat} {L : List (Nat × List Int)} (h : Lens L) : Lens (oth i L) := fun x hx => h x (List.mem_filter.1 hx).1
structure Dl (w wr : World) (g : Nat) (cur : Array Value) (i j : Nat) (L : List (Nat × List Int)) : Prop where
  row : ∃ cs : Array Value, wr.heap[g]? = some (.cells cs 95 (0, 0)) ∧ cs.size = cur.size ∧ cs.toList.take ((oth i (L.take j)).length * 193) = wcs (oth i (L.take j)) ∧ cs.toList.drop (j * 193) = cur.toList.drop (j * 193)
  but : But g w wr
theorem splice_len {α : Type} (L vs : List α) (o : Nat) (h : o + vs.length ≤ L.length) : (splice L o vs).length = L.length := by
  unfold splice
  simp
  omega
theorem Dl.skip {w wr wx : World} {g : Nat} {cur : Array Value} {i j : Nat} {L : List (Nat × List Int)} (h : Dl w wr g cur i j L) (hb : Below wr.heap.size wr wx) (hj : j < L.length) (hne : L[j].1 = i) :
    Dl w wx g cur i (j + 1) L ∧ oth i (L.take (j + 1)) = oth i (L.take j) := by
  obtain ⟨cs, h1, h2, h3, h4⟩ := h.row
  have hg : g < wr.heap.size := (Array.getElem?_eq_some_iff.1 h1).1
  have e1 : oth i (L.take (j + 1)) = oth i (L.take j) := by rw [oth_succ i L j hj, if_pos hne]; simp
  refine ⟨⟨⟨cs, (hb.block g hg).trans h1, h2, by rw [e1]; exact h3, ?_⟩, h.but.trans ⟨hb.os, hb.tape, hb.output, hb.size, fun k hk _ => hb.block k hk⟩⟩, e1⟩
  have h5 := congrArg (List.drop 193) h4
  rw [List.drop_drop, List.drop_drop] at h5
  rw [show (j + 1) * 193 = j * 193 + 193 by omega]
  exact h5
end Go.Proofs.YthbbijaikcmaeaaGreatDoor.Disk
