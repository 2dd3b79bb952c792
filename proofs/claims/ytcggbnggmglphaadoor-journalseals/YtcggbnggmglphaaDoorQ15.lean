/-
  What slices.IndexFunc and slices.DeleteFunc leave of the writes under way. And what follows it.
-/
import Derived.Test.YtcggbnggmglphaaDoorQ12
import Derived.Test.YtcggbnggmglphaaDoorQ14
namespace Go.Proofs.YtcggbnggmglphaaDoor.Disk.Plain
set_option maxRecDepth 100000
end Go.Proofs.YtcggbnggmglphaaDoor.Disk.Plain
namespace Go.Proofs.YtcggbnggmglphaaDoor.Disk
set_option maxRecDepth 100000
set_option linter.unusedVariables false
open Go.RowKit Go.Proofs.YtcggbnggmglphaaDoor.Plain Go.Proofs.YtcggbnggmglphaaDoor.Disk.Plain
/-- The first write to a place. -/
def fst (L : List (Nat × List Int)) (i : Nat) (k : Nat) : Prop := k < L.length ∧ (∀ h : k < L.length, L[k].1 = i) ∧ ∀ j (h : j < L.length), j < k → L[j].1 ≠ i
/-- The writes to other places. -/
def oth (i : Nat) (L : List (Nat × List Int)) : List (Nat × List Int) := L.filter (fun x => !(decide (x.1 = i)))
theorem oth_succ (i : Nat) (L : List (Nat × List Int)) (j : Nat) (h : j < L.length) : oth i (L.take (j + 1)) = oth i (L.take j) ++ (if L[j].1 = i then [] else [L[j]]) := by
  rw [oth, ← List.take_append_getElem h, List.filter_append, oth]
  congr 1
  by_cases e : L[j].1 = i <;> simp [e]
theorem wcs_len (L : List (Nat × List Int)) (h : Lens L) : (wcs L).length = L.length * 193 := by
  rw [wcs, flat_length _ 193 (fun x hx => by obtain ⟨y, hy, rfl⟩ := List.mem_map.1 hx; exact length_wc y (h y hy)), List.length_map]
theorem lens_oth {i : Nat} {L : List (Nat × List Int)} (h : Lens L) : Lens (oth i L) := fun x hx => h x (List.mem_filter.1 hx).1
/-- So far: the first ones are the other places', and all from j on are as they were. -/
structure Dl (w wr : World) (g : Nat) (cur : Array Value) (i j : Nat) (L : List (Nat × List Int)) : Prop where
  row : ∃ cs : Array Value, wr.heap[g]? = some (.cells cs 118 (0, 0)) ∧ cs.size = cur.size ∧ cs.toList.take ((oth i (L.take j)).length * 193) = wcs (oth i (L.take j)) ∧ cs.toList.drop (j * 193) = cur.toList.drop (j * 193)
  but : But g w wr
theorem splice_len {α : Type} (L vs : List α) (o : Nat) (h : o + vs.length ≤ L.length) : (splice L o vs).length = L.length := by
  unfold splice
  simp
  omega
theorem Dl.skip {w wr wx : World} {g : Nat} {cur : Array Value} {i j : Nat} {L : List (Nat × List Int)} (h : Dl w wr g cur i j L) (hb : Below wr.heap.size wr wx) (hj : j < L.length) (hne : L[j].1 = i) :
    Dl w wx g cur i (j + 1) L ∧ oth i (L.take (j + 1)) = oth i (L.take j) := by
  obtain ⟨cs, h1, h2, h3, h4⟩ := h.row
  have hg : g < wr.heap.size := (Array.getElem?_eq_some_iff.1 h1).1
  have e1 : oth i (L.take (j + 1)) = oth i (L.take j) := by rw [oth_succ i L j hj, if_pos hne]; simp
  refine ⟨⟨⟨cs, (hb.block g hg).trans h1, h2, by rw [e1]; exact h3, ?_⟩, h.but.trans ⟨hb.os, hb.tape, hb.output, hb.size, fun k hk _ => hb.block k hk⟩⟩, e1⟩
  have h5 := congrArg (List.drop 193) h4
  rw [List.drop_drop, List.drop_drop] at h5
  rw [show (j + 1) * 193 = j * 193 + 193 by omega]
  exact h5
/-- What stands at j is as it was. -/
theorem Dl.at_ {w wr : World} {g : Nat} {cur : Array Value} {i j : Nat} {L : List (Nat × List Int)} (h : Dl w wr g cur i j L) (hL : Lens L) (hj : j < L.length) (hcur : cur.toList.take (L.length * 193) = wcs L) : wr.rangeAt g (j * 193) (wc L[j]) := by
  obtain ⟨cs, h1, h2, h3, h4⟩ := h.row
  intro q v hv
  have hq : q < 193 := by
    have := (List.getElem?_eq_some_iff.1 hv).1
    rw [length_wc _ (hL _ (List.getElem_mem hj))] at this
    exact this
  have hm : (j + 1) * 193 ≤ L.length * 193 := Nat.mul_le_mul_right _ hj
  rw [cell_of_row _ _ _ _ _ _ h1, ← Array.getElem?_toList]
  have e1 : cs.toList[j * 193 + q]? = (cs.toList.drop (j * 193))[q]? := by rw [List.getElem?_drop]
  rw [e1, h4, List.getElem?_drop]
  have e2 : cur.toList[j * 193 + q]? = (cur.toList.take (L.length * 193))[j * 193 + q]? := by rw [List.getElem?_take, if_pos (by omega)]
  rw [e2, hcur, wcs, Nat.mul_comm j 193, flat_at _ 193 (fun x hx => by obtain ⟨y, hy, rfl⟩ := List.mem_map.1 hx; exact length_wc y (hL y hy)) j (by simpa using hj) q hq]
  simpa using hv
end Go.Proofs.YtcggbnggmglphaaDoor.Disk
namespace Go.Proofs.YtcggbnggmglphaaDoor.Disk.Plain
set_option maxRecDepth 100000
end Go.Proofs.YtcggbnggmglphaaDoor.Disk.Plain
namespace Go.Proofs.YtcggbnggmglphaaDoor.Disk
set_option maxRecDepth 100000
set_option linter.unusedVariables false
open Go.RowKit Go.Proofs.YtcggbnggmglphaaDoor.Plain Go.Proofs.YtcggbnggmglphaaDoor.Disk.Plain
/-- The noughts that clear lays. -/
def clr (m : Nat) : List Value := (Builtin.zeroCells (wc (0, z192)).toArray m).toList
theorem length_clr (m : Nat) : (clr m).length = m * 193 := by
  rw [clr, Array.length_toList, size_zeroCells, List.size_toArray, length_wc _ length_z192]
/-- The row behind it all. -/
theorem Dl.done {w wr : World} {g cap : Nat} {cur : Array Value} {i : Nat} {L : List (Nat × List Int)} (h : Dl w wr g cur i L.length L) (hL : Lens L) (hc : L.length ≤ cap) (hm : cap ≤ maxLen) (hs : cur.size = cap * 193) (hlt : (oth i L).length < L.length) :
    (wr.setCells g ((oth i L).length * 193) (clr (L.length - (oth i L).length))).ownsRow 0 118 193 (.slice (some ⟨g, 0, none⟩) (oth i L).length cap) (oth i L).length (wcs (oth i L)) ∧ Turned (fun k => k = g) w (wr.setCells g ((oth i L).length * 193) (clr (L.length - (oth i L).length))) ∧ wr.there g ((oth i L).length * 193) ((L.length - (oth i L).length) * 193) := by
  obtain ⟨cs, h1, h2, h3, h4⟩ := h.row
  rw [List.take_of_length_le (Nat.le_refl _)] at h3
  have hm1 : L.length * 193 ≤ cap * 193 := Nat.mul_le_mul_right _ hc
  have hsum : (oth i L).length * 193 + (L.length - (oth i L).length) * 193 = L.length * 193 := by rw [← Nat.add_mul, Nat.add_sub_cancel' (by omega)]
  have hcl : cs.toList.length = cap * 193 := by rw [Array.length_toList, h2, hs]
  have hf : (oth i L).length * 193 + (clr (L.length - (oth i L).length)).length ≤ cs.toList.length := by rw [length_clr, hcl]; omega
  have hrow := heap_setCells g _ (clr (L.length - (oth i L).length)) ((oth i L).length * 193) wr cs h1 (by rw [← Array.length_toList]; exact hf)
  refine ⟨⟨by rw [wcs_len _ (lens_oth hL)], .inr ⟨g, cap, _, rfl, Nat.zero_le _, hrow, by omega, hm, ?_, ?_⟩⟩, ?_, there_row h1 (by rw [h2, hs]; omega)⟩
  · rw [List.size_toArray, splice_len _ _ _ hf, hcl]
  · rw [List.toList_toArray]
    unfold splice
    rw [List.take_left' (by rw [List.length_take, hcl]; omega), h3]
  · have hb := but_setCells g (clr (L.length - (oth i L).length)) ((oth i L).length * 193) w wr h.but
    exact ⟨hb.os, hb.tape, hb.output, hb.size, fun k hk hn => hb.block k hk hn⟩
theorem range_below {w w' : World} {g o : Nat} {cs : List Value} (h : w.rangeAt g o cs) (hb : Below w.heap.size w w') : w'.rangeAt g o cs := fun j v hv => by
  have := h j v hv
  exact (hb.cell (p := ⟨g, o + j, none⟩) (World.block_lt_of_cell? w _ this)).trans this
end Go.Proofs.YtcggbnggmglphaaDoor.Disk
namespace Go.Proofs.YtcggbnggmglphaaDoor.Disk.Plain
set_option maxRecDepth 100000
end Go.Proofs.YtcggbnggmglphaaDoor.Disk.Plain
namespace Go.Proofs.YtcggbnggmglphaaDoor.Disk
set_option maxRecDepth 100000
set_option linter.unusedVariables false
open Go.RowKit Go.Proofs.YtcggbnggmglphaaDoor.Plain Go.Proofs.YtcggbnggmglphaaDoor.Disk.Plain
/-- What the statement that lays the bytes down reads. -/
structure Tp (wd : World) (D P S n i : Nat) (B : List Int) (bb off : Nat) : Prop where
  c0 : wd.cell? ⟨D, 0, none⟩ = some (.slice (some ⟨P, 0, none⟩) n n)
  n0 : D ≠ P
  ci : wd.cell? ⟨S, 0, none⟩ = some (.int .i64 (i : Int))
  ni : S ≠ P
  rb : wd.rangeAt bb off (B.map (Value.int .u8))
  nb : bb ≠ P
  iz : (Tryd.prog.info? 116).map (·.size) = some (B.map (Value.int .u8)).length
  iy : (Tryd.prog.info? 116).map (·.size) = some (u8s B).size
  th : wd.there P (i * 192) (u8s B).size
theorem Tp.drew {w wd : World} {D P S n i : Nat} {B : List Int} {bb off : Nat} (h : Tp w D P S n i B bb off) (hwd : wd = w.drew) : Tp wd D P S n i B bb off := by
  subst hwd
  exact ⟨h.c0, h.n0, h.ci, h.ni, h.rb, h.nb, h.iz, h.iy, h.th⟩
theorem At.struck {w w2 : World} {D P : Nat} {uv ov v' : Value} {d : Dk} (h : At w D P uv ov d) (i : Nat) (hown : w2.ownsRow 0 118 193 v' (oth i d.uw).length (wcs (oth i d.uw))) (ht : Turned (fun k => uv.ownBlock = some k) w w2) (hv : ∀ k, v'.ownBlock = some k → uv.ownBlock = some k) :
    At (w2.setCell ⟨D, 1, none⟩ v') D P v' ov { d with uw := oth i d.uw } ∧ Turned (foot D P uv ov) w (w2.setCell ⟨D, 1, none⟩ v') ∧ (∀ k, foot D P v' ov k → foot D P uv ov k) ∧ w2.cell? ⟨D, 1, none⟩ = some uv ∧ w2.frozen? ⟨D, 1, none⟩ = false := by
  obtain ⟨cs, h1, h2⟩ := h.hp
  have hlt := h.lt
  have sm : ∀ k, k < w.heap.size → uv.ownBlock ≠ some k → w2.heap[k]? = w.heap[k]? := fun k hk hn => ht.block k hk hn
  have hD2 := sm D (hlt D (.inl rfl)) h.neU.1
  have hD : (w2.setCell ⟨D, 1, none⟩ v').heap[D]? = _ := heap_setCell_same w2 D 1 _ _ v' (hD2.trans h.hd)
  have nD : v'.ownBlock ≠ some D := fun e => h.neU.1 (hv D e)
  have nP : v'.ownBlock ≠ some P := fun e => h.neU.2 (hv P e)
  have c1 := h.cells
  refine ⟨⟨hD, ⟨cs, ?_, h2⟩, h.hpl, h.hn, own_same hown (fun k hk => heap_setCell_other w2 ⟨D, 1, none⟩ k _ (ne_blk nD hk)), fun x hx => h.huw x (List.mem_filter.1 hx).1, own_same h.ho (fun k hk => ?_), h.neP, ⟨nD, nP⟩, h.neO, ?_⟩, ?_, ?_, (World.cell?_of_block hD2).trans c1.2.1, (World.frozen?_of_block hD2).trans (c1.2.2.2.2.2.2 1)⟩
  · rw [heap_setCell_other w2 ⟨D, 1, none⟩ P _ (Ne.symm h.neP), sm P (hlt P (.inr (.inl rfl))) h.neU.2]; exact h1
  · rw [heap_setCell_other w2 ⟨D, 1, none⟩ k _ (ne_blk h.neO.1 hk)]
    refine sm k (hlt k (.inr (.inr (.inr hk)))) (fun e => ?_)
    rcases h.neUO with hn | hn
    · rw [hn] at e; cases e
    · exact hn (by rw [hk, e])
  · cases hu : v'.ownBlock with
    | none => exact .inl rfl
    | some u =>
      refine .inr (fun e => ?_)
      have h5 := hv u hu
      rcases h.neUO with hn | hn
      · rw [hn] at h5; cases h5
      · exact hn (by rw [h5, e])
  · exact ⟨ht.os, ht.tape, ht.output, by simpa using ht.size, fun k hk hn => by
      rw [heap_setCell_other w2 ⟨D, 1, none⟩ k _ (fun e => hn (.inl e))]
      exact sm k hk (fun e => hn (.inr (.inr (.inl e))))⟩
  · rintro k (rfl | rfl | hk | hk)
    · exact .inl rfl
    · exact .inr (.inl rfl)
    · exact .inr (.inr (.inl (hv k hk)))
    · exact .inr (.inr (.inr hk))
end Go.Proofs.YtcggbnggmglphaaDoor.Disk
namespace Go.Proofs.YtcggbnggmglphaaDoor.Disk.Plain
set_option maxRecDepth 100000
end Go.Proofs.YtcggbnggmglphaaDoor.Disk.Plain
namespace Go.Proofs.YtcggbnggmglphaaDoor.Disk
set_option maxRecDepth 100000
set_option linter.unusedVariables false
open Go.RowKit Go.Proofs.YtcggbnggmglphaaDoor.Plain Go.Proofs.YtcggbnggmglphaaDoor.Disk.Plain
theorem Bx.grow {S : Nat} {w0 w w' : World} {V : List Value} {o : Obj} {row : Option Nat} (h : Bx S w0 w V) (hg : (w.alloc o).grownBy w' row) (hr : ∀ q, row = some q → S + 2 ≤ q) : Bx S w0 w' V := by
  obtain ⟨Z, h1, h2⟩ := h.hR
  have hl := h.lt
  have hb : ∀ k, k < w.heap.size → k < S + 2 → w'.heap[k]? = w.heap[k]? := fun k hk hk2 => by
    rw [hg.block k (by simp; omega) (fun e => by have := hr k e.symm; omega), Below.heap_alloc w o k hk]
  refine ⟨(hb S (by omega) (by omega)).trans h.hB, ⟨Z, (hb (S + 1) (by omega) (by omega)).trans h1, h2⟩, ⟨hg.os.trans h.tu.os, hg.tape.trans h.tu.tape, hg.output.trans h.tu.output, ?_, fun k hk hn => ?_⟩, h.sz⟩
  · have h3 := hg.size
    have h4 := h.tu.size
    simp at h3
    omega
  · have hs := h.sz
    rw [hb k (by have := h.tu.size; omega) (by omega)]
    exact h.tu.block k hk hn
theorem own_grow {w w' : World} {base n : Nat} {e : TypeId} {sz : Nat} {v : Value} {xs : List Value} {o : Obj} {row : Option Nat} (h : w.ownsRow base e sz v n xs) (hg : (w.alloc o).grownBy w' row) (hr : ∀ q, row = some q → v.ownBlock ≠ some q) : w'.ownsRow base e sz v n xs :=
  own_same h (fun k hk => by
    have hk2 := (h.lt k hk).2
    rw [hg.block k (by simp; omega) (fun e => hr k e.symm hk), Below.heap_alloc w o k hk2])
/-- What is struck out of a list, so far. -/
structure Tm (S : Nat) (w wr : World) (V : List Value) (v4 lv : Value) (M N : List (Nat × List Int)) : Prop where
  bx : Bx S w wr V
  r4 : Rw wr v4 M
  rl : Rw wr lv N
  nl : ∀ q, lv.ownBlock = some q → S + 2 ≤ q ∧ v4.ownBlock ≠ some q
theorem Tm.step {S : Nat} {w wr w3 : World} {V : List Value} {v4 lv v3 : Value} {M N : List (Nat × List Int)} {x : Nat × List Int} {o : Obj} (h : Tm S w wr V v4 lv M N) (hown : w3.ownsRow 0 126 2 v3 (N.length + 1) (rcs N ++ rc x)) (hg : (wr.alloc o).grownBy w3 lv.ownBlock) (hb : ∀ k, v3.ownBlock = some k → lv.ownBlock = some k ∨ (wr.alloc o).heap.size ≤ k) : Tm S w w3 V v4 v3 M (N ++ [x]) := by
  refine ⟨h.bx.grow hg (fun q hq => (h.nl q hq).1), own_grow h.r4 hg (fun q hq => (h.nl q hq).2), ?_, fun q hq => ?_⟩
  · unfold Rw
    rw [rcs_snoc, List.length_append]
    exact hown
  · rcases hb q hq with e | e
    · exact h.nl q e
    · simp at e
      have := h.bx.lt
      exact ⟨by omega, fun e4 => by have := (h.r4.lt q e4).2; omega⟩
/-- A row of strings of one's own. -/
def Rs (w : World) (v : Value) (L : List (List Int)) : Prop := w.ownsRow 0 9 1 v L.length (L.map (fun B => .string (strOfNums B)))
theorem infoS : (Tryd.prog.info? 9).map (fun i => (i.zero, i.size, i.bytes)) = some (some (.string ByteArray.empty), 1, 16) := by kernel_rfl
/-- The bytes of the first places. -/
def pls (L : List (Nat × List Int)) (k : Nat) : List (List Int) := (List.range k).map (rat L)
theorem pls_succ (L : List (Nat × List Int)) (k : Nat) : pls L (k + 1) = pls L k ++ [rat L k] := by simp [pls, List.range_succ]
theorem length_pls (L : List (Nat × List Int)) (k : Nat) : (pls L k).length = k := by simp [pls]
theorem one_str (B : List Int) : ∀ u ∈ [Value.string (strOfNums B)], u.oneCell' = true := by
  intro u hu
  simp only [List.mem_cons, List.not_mem_nil, or_false] at hu
  subst hu
  rfl
theorem im_step {S : Nat} {w wr w2 w3 : World} {lv v3 : Value} {N : List (List Int)} {X : List Int} {o p : Obj} {k : Nat} (h : Below S w wr ∧ wr.heap[S]? = some p ∧ Rs wr lv N ∧ ∀ q, lv.ownBlock = some q → S + 1 ≤ q) (hN : N.length = k) (hb : Below wr.heap.size wr w2) (hown : w3.ownsRow 0 9 1 v3 (k + 1) (N.map (fun B => .string (strOfNums B)) ++ [.string (strOfNums X)])) (hg : (w2.alloc o).grownBy w3 lv.ownBlock) (hk : ∀ k, v3.ownBlock = some k → lv.ownBlock = some k ∨ (w2.alloc o).heap.size ≤ k) :
    Below S w w3 ∧ w3.heap[S]? = some p ∧ Rs w3 v3 (N ++ [X]) ∧ ∀ q, v3.ownBlock = some q → S + 1 ≤ q := by
  have hS : S < wr.heap.size := (Array.getElem?_eq_some_iff.1 h.2.1).1
  have h2 := hb.size
  have e1 : Below S w w2 := h.1.trans (hb.mono (by omega))
  refine ⟨(e1.alloc (by omega) _).grown hg (by simp; omega) (fun q hq => by have := h.2.2.2 q hq; omega), ?_, ?_, fun q hq => ?_⟩
  · rw [hg.block S (by simp; omega) (fun e => by have := h.2.2.2 S e.symm; omega), Below.heap_alloc w2 o S (by omega), hb.block S hS]
    exact h.2.1
  · unfold Rs
    rw [List.length_append, List.map_append, hN]
    exact hown
  · rcases hk q hq with e | e
    · exact h.2.2.2 q e
    · simp at e; omega
theorem rs_on {w w' : World} {v : Value} {N : List (List Int)} {k : Nat} (h : Rs w v N) (hk : N.length = k) (hb : Below w.heap.size w w') : w'.ownsRow 0 9 1 v k (N.map (fun B => .string (strOfNums B))) := by
  subst hk
  exact own_below h hb
theorem Rs.nil (w : World) : Rs w (.slice none 0 0) [] := World.ownsRow_nil _ _ _ _
set_option maxRecDepth 20000 in
set_option maxHeartbeats 2000000 in
theorem rimage_any (w : World) (n : Nat) (vd vw vo : Value) (l : Int) (b : Bool) (Ld : List (Nat × List Int)) (hd : Rw w vd Ld) (hw : vw.oneCell' = true) (ho : vo.oneCell' = true) (hLd : Ld.length < 1000000) (hn : n ≤ 4096) :
    Calls Tryd.prog 36 #[.agg (rv n vd vw l b vo).toArray] w fun e w' => ∃ v', e = .returned v' ∧ Below w.heap.size w w' ∧ Rs w' v' (pls Ld n) ∧ ∀ k, v'.ownBlock = some k → w.heap.size ≤ k := by
  have HB0 : Box (Below w.heap.size w (w.alloc (.cells (rv n vd vw l b vo).toArray 34)) ∧ (w.alloc (.cells (rv n vd vw l b vo).toArray 34)).heap[w.heap.size]? = some (.cells (rv n vd vw l b vo).toArray 34 (0, 0))) := ⟨(Below.refl _ w).alloc (Nat.le_refl _) _, al_at rfl⟩
  have HD : Box (Rw w vd Ld ∧ Ld.length < 1000000) := ⟨hd, hLd⟩
  obtain ⟨S, HS⟩ : ∃ S, Box (w.heap.size = S) := ⟨_, ⟨rfl⟩⟩
  have hn9 : n < 9223372036854775807 := by omega
  have HN : Box (n ≤ 4096) := ⟨hn⟩
  clear hd hLd hn
  go_enter Tryd.func36, Tryd.ntmps36
  go_upto_region 1 with fail
  rw [HS.out] at HB0 ⊢
  generalize w.alloc (.cells (rv n vd vw l b vo).toArray 34) = w1 at HB0 ⊢
  go_wp2
  go_loopw [3, 4] (fun lv jv wr => ∃ k : Nat, k ≤ n ∧ jv = .int .i64 k ∧ Box (Below S w wr ∧ wr.heap[S]? = some (.cells (rv n vd vw l b vo).toArray 34 (0, 0)) ∧ Rs wr lv (pls Ld k) ∧ ∀ q, lv.ownBlock = some q → S + 1 ≤ q)) (fun _ jv _ => n - (intOf jv).toNat)
  case atStart => exact ⟨0, Nat.zero_le _, rfl, ⟨HB0.out.1, HB0.out.2, Rs.nil _, fun q hq => by simp [Value.ownBlock] at hq⟩⟩
  case round =>
    obtain ⟨k, hk, rfl, HK⟩ := hrel
    clear HB0
    obtain ⟨al, cl, rfl⟩ := own_form2 HK.out.2.2.1
    rw [length_pls] at HK ⊢
    have c0 : wr.cell? ⟨S, 0, none⟩ = some (.int .i64 (n : Int)) := (cell_of_row _ _ _ _ _ _ HK.out.2.1).trans rfl
    by_cases hlt : k < n
    · have HA : Box (Calls Tryd.prog 57 #[.agg (rv n vd vw l b vo).toArray, .int .i64 (k : Int)] wr fun e w' => e = .returned (.string (strOfNums (rat Ld k))) ∧ Below wr.heap.size wr w') := ⟨rat_any wr _ _ _ _ _ _ Ld k (HD.out.1.below (HS.out ▸ HK.out.1)) HD.out.2⟩
      have HLN : Box ((k + 1) * 16 ≤ 140737488355328) := ⟨by have := HN.out; omega⟩
      have HP := pls_succ Ld k
      have HPl : Box ((pls Ld k).length = k) := ⟨length_pls _ _⟩
      obtain ⟨X, HX⟩ : ∃ X, rat Ld k = X := ⟨_, rfl⟩
      rw [HX] at HA HP
      obtain ⟨N, HN⟩ : ∃ N, pls Ld k = N := ⟨_, rfl⟩
      rw [HN] at HP HPl HK
      have HP2 : Box (pls Ld (k + 1) = N ++ [X]) := ⟨HP⟩
      clear HP HX HN
      go_wp2_with (first
        | (refine wpList_ldD rfl _ rfl S (rv n vd vw l b vo) rfl HK.out.2.1 rfl ?_)
        | (go_at_call 57; refine HA.out.mono ?_; rintro e w2 ⟨rfl, b2⟩; have H2 : Box (Below wr.heap.size wr w2 ∧ w2.ownsRow 0 9 1 (.slice al k cl) k (N.map (fun B => .string (strOfNums B)))) := ⟨b2, rs_on HK.out.2.2.1 HPl.out b2⟩; clear b2)
        | (at_builtin; refine wpList_app2 rfl _ _ 101 rfl 9 1 16 (.string ByteArray.empty) Tryd.underlying101 infoS rfl (by decide) (.slice al k cl) k (N.map (fun B => .string (strOfNums B))) rfl (H2.out.2.alloc _) ⟨w2.heap.size, 0, none⟩ 1 1 [.string (strOfNums X)] rfl rfl (news_new w2 [.string (strOfNums X)] _) (one_str _) HLN.out (by decide) ?_; intro v3 w3 hown hgr hblk; have H3 : Box (Below S w w3 ∧ w3.heap[S]? = some (.cells (rv n vd vw l b vo).toArray 34 (0, 0)) ∧ Rs w3 v3 (N ++ [X]) ∧ ∀ q, v3.ownBlock = some q → S + 1 ≤ q) := ⟨im_step HK.out HPl.out H2.out.1 hown hgr hblk⟩; obtain ⟨a3, c3, rfl⟩ := own_form2 hown; clear hown hgr hblk))
      exact ⟨⟨k + 1, by omega, by simp, ⟨by rw [HP2.out]; exact H3.out⟩⟩, by simp [intOf]; omega⟩
    · obtain rfl : k = n := by omega
      go_wp2
      go_ret
      exact ⟨_, rfl, HS.out ▸ HK.out.1, HK.out.2.2.1, fun q hq => by have := HK.out.2.2.2 q hq; have := HS.out; omega⟩
end Go.Proofs.YtcggbnggmglphaaDoor.Disk
namespace Go.Proofs.YtcggbnggmglphaaDoor.Disk.Plain
set_option maxRecDepth 100000
end Go.Proofs.YtcggbnggmglphaaDoor.Disk.Plain
namespace Go.Proofs.YtcggbnggmglphaaDoor.Disk
set_option maxRecDepth 100000
set_option linter.unusedVariables false
open Go.RowKit Go.Proofs.YtcggbnggmglphaaDoor.Plain Go.Proofs.YtcggbnggmglphaaDoor.Disk.Plain
/-- The types of a disk's blocks. -/
def Own4 (t : TypeId) : Prop := t = 73 ∨ t = 116 ∨ t = 118 ∨ t = 133
/-- What is not a disk's has not turned. -/
def Fr (w w' : World) : Prop := w.heap.size ≤ w'.heap.size ∧ ∀ (k : Nat) (cs : Array Value) (t : TypeId) (fr : Nat × Nat), w.heap[k]? = some (.cells cs t fr) → ¬ Own4 t → w'.heap[k]? = w.heap[k]?
theorem Fr.refl (w : World) : Fr w w := ⟨Nat.le_refl _, fun _ _ _ _ _ _ => rfl⟩
theorem Fr.trans {a b c : World} (h : Fr a b) (g : Fr b c) : Fr a c := ⟨Nat.le_trans h.1 g.1, fun k cs t fr hk ht => by
  have h1 := h.2 k cs t fr hk ht
  exact (g.2 k cs t fr (h1.trans hk) ht).trans h1⟩
theorem Fr.below {a b : World} (h : Below a.heap.size a b) : Fr a b := ⟨h.size, fun k cs t fr hk _ => h.block k (Array.getElem?_eq_some_iff.1 hk).1⟩
theorem Fr.own {w w' : World} (h : Fr w w') {base n : Nat} {e : TypeId} {sz : Nat} {v : Value} {xs : List Value} (ho : w.ownsRow base e sz v n xs) (he : ¬ Own4 e) : w'.ownsRow base e sz v n xs :=
  own_same ho (fun k hk => by
    rcases ho.2 with ⟨rfl, _⟩ | ⟨g, cap, cur, rfl, _, hg, _⟩
    · simp [Value.ownBlock] at hk
    · simp only [Value.ownBlock, Option.some.injEq] at hk
      subst hk
      exact h.2 _ _ _ _ hg he)
theorem Rv.fr {w w' : World} {v : Value} {r : Rd} (h : Rv w v r) (f : Fr w w') : Rv w' v r := by
  obtain ⟨vd, vw, vo, rfl, h1, h2, h3⟩ := h
  exact ⟨vd, vw, vo, rfl, f.own h1 (by unfold Own4; decide), f.own h2 (by unfold Own4; decide), f.own h3 (by unfold Own4; decide)⟩
/-- A disk of a call's own. -/
def Cm (w0 w : World) (D : Nat) (d : Dk) : Prop := ∃ fp, Cx w0 w D fp d
theorem Cm.foot {w0 w : World} {D : Nat} {d : Dk} (h : Cm w0 w D d) : ∃ fp, Cx w0 w D fp d ∧ ∀ (k : Nat) (cs : Array Value) (t : TypeId) (fr : Nat × Nat), w.heap[k]? = some (.cells cs t fr) → ¬ Own4 t → ¬ fp k := by
  obtain ⟨fp, ⟨P, uv, ov, h1, h2⟩, hb, hlo, hhi⟩ := h
  refine ⟨Go.Proofs.YtcggbnggmglphaaDoor.Disk.foot D P uv ov, ⟨⟨P, uv, ov, h1, fun _ hk => hk⟩, hb, fun k hk => hlo k (h2 k hk), fun k hk => h1.lt k hk⟩, fun k cs t fr hk ht hf => ht ?_⟩
  rcases hf with rfl | rfl | hf | hf
  · rw [h1.hd] at hk
    simp only [Option.some.injEq, Obj.cells.injEq] at hk
    exact .inl hk.2.1.symm
  · obtain ⟨c, h3, _⟩ := h1.hp
    rw [h3] at hk
    simp only [Option.some.injEq, Obj.cells.injEq] at hk
    exact .inr (.inl hk.2.1.symm)
  · rcases h1.hu.2 with ⟨e, _⟩ | ⟨g, cap, cur, e, _, hg, _⟩
    · rw [e] at hf; simp [Value.ownBlock] at hf
    · rw [e] at hf
      simp only [Value.ownBlock, Option.some.injEq] at hf
      subst hf
      rw [hg] at hk
      simp only [Option.some.injEq, Obj.cells.injEq] at hk
      exact .inr (.inr (.inl hk.2.1.symm))
  · rcases h1.ho.2 with ⟨e, _⟩ | ⟨g, cap, cur, e, _, hg, _⟩
    · rw [e] at hf; simp [Value.ownBlock] at hf
    · rw [e] at hf
      simp only [Value.ownBlock, Option.some.injEq] at hf
      subst hf
      rw [hg] at hk
      simp only [Option.some.injEq, Obj.cells.injEq] at hk
      exact .inr (.inr (.inr hk.2.1.symm))
theorem Cm.step {w0 w w' : World} {D : Nat} {d : Dk} (h : Cm w0 w D d) (hb : Below w.heap.size w w') : Cm w0 w' D d := by
  obtain ⟨fp, c⟩ := h
  exact ⟨fp, c.step hb⟩
/-- They are alike; so many steps at the most were done. -/
structure J (k : Nat) (d : Dk) (r : Rd) : Prop where
  n : r.n = d.n
  pl : ∀ i, rat r.done i = d.pl i
  way : r.way = d.uw
  down : r.down = d.down
  st : d.st = true → r.left = d.left
  no : d.st = false → r.left = -1
  lo : 0 ≤ d.left ∧ d.left ≤ 9223372036854775807
  ops : r.ops = d.ops
  l1 : r.done.length + r.way.length ≤ k
  l2 : r.ops.length ≤ k
theorem J.on {k : Nat} {d : Dk} {r : Rd} (h : J k d r) : J (k + 1) d r := ⟨h.n, h.pl, h.way, h.down, h.st, h.no, h.lo, h.ops, by have := h.l1; omega, by have := h.l2; omega⟩
theorem j_new (n : Nat) : J 0 (dk0 n) (rd0 n) := ⟨rfl, fun _ => rfl, rfl, rfl, fun h => by simp [dk0] at h, fun _ => rfl, by simp [dk0], rfl, Nat.le_refl _, Nat.le_refl _⟩
theorem oneR {w : World} {v : Value} {L : List (Nat × List Int)} (h : Rw w v L) : v.oneCell' = true := one_own h
theorem oneO {w : World} {v : Value} {L : List (Int × Int)} (h : Ro w v L) : v.oneCell' = true := one_own h
end Go.Proofs.YtcggbnggmglphaaDoor.Disk
namespace Go.Proofs.YtcggbnggmglphaaDoor.Disk.Plain
set_option maxRecDepth 100000
end Go.Proofs.YtcggbnggmglphaaDoor.Disk.Plain
namespace Go.Proofs.YtcggbnggmglphaaDoor.Disk
set_option maxRecDepth 100000
set_option linter.unusedVariables false
open Go.RowKit Go.Proofs.YtcggbnggmglphaaDoor.Plain Go.Proofs.YtcggbnggmglphaaDoor.Disk.Plain
def nils (m : Nat) : List Value := List.replicate m (Value.slice none 0 0)
theorem nils_succ (m : Nat) : nils (m + 1) = Value.slice none 0 0 :: nils m := rfl
/-- Rows of bytes of a call's own: the places' bytes, so far. -/
structure Rws (w wr : World) (g n k : Nat) (pl : Nat → List Int) (L : List Value) : Prop where
  row : wr.heap[g]? = some (.cells (L ++ nils (n - k)).toArray 58 (0, 0))
  len : L.length = k
  each : ∀ i (h : i < L.length), wr.ownsRow 0 5 1 L[i] 192 ((pl i).map (Value.int .u8)) ∧ ∀ j, L[i].ownBlock = some j → g < j
  lo : w.heap.size ≤ g
  bel : Below w.heap.size w wr
theorem Rws.step {w wr wx : World} {g n k : Nat} {pl : Nat → List Int} {L : List Value} (h : Rws w wr g n k pl L) (hk : k < n) (v : Value) (hb : Below wr.heap.size wr wx) (hv : wx.ownsRow 0 5 1 v 192 ((pl k).map (Value.int .u8))) (hl : ∀ j, v.ownBlock = some j → wr.heap.size ≤ j) : Rws w (wx.setCell ⟨g, k, none⟩ v) g n (k + 1) pl (L ++ [v]) := by
  have hg : g < wr.heap.size := (Array.getElem?_eq_some_iff.1 h.row).1
  have hne : ∀ u : Value, (∀ j, u.ownBlock = some j → g < j) → ∀ j, u.ownBlock = some j → (wx.setCell ⟨g, k, none⟩ v).heap[j]? = wx.heap[j]? := fun u hu j hj => heap_setCell_other wx ⟨g, k, none⟩ j _ (fun e => by have := hu j hj; simp at e; omega)
  refine ⟨?_, by simp [h.len], fun i hi => ?_, h.lo, below_set (h.bel.trans (hb.mono h.bel.size)) h.lo v⟩
  · rw [heap_setCell_same wx g k _ _ v ((hb.block g hg).trans h.row)]
    congr 2
    rw [show n - k = n - (k + 1) + 1 by omega, nils_succ]
    simp [← h.len]
  · by_cases hik : i < L.length
    · have e : (L ++ [v])[i] = L[i] := List.getElem_append_left hik
      rw [e]
      obtain ⟨h1, h2⟩ := h.each i hik
      exact ⟨own_same (own_same h1 (fun j hj => hb.block j (h1.lt j hj).2)) (hne _ h2), h2⟩
    · have hik2 : i = L.length := by simp at hi; omega
      subst hik2
      have e : (L ++ [v])[L.length]'(by simp) = v := by simp
      rw [e, h.len]
      have h2 : ∀ j, v.ownBlock = some j → g < j := fun j hj => by have := hl j hj; omega
      exact ⟨own_same hv (hne _ h2), h2⟩
theorem infoRow : (Tryd.prog.info? 58).map (fun i => (i.zero, i.size, i.bytes)) = some (some (.slice none 0 0), 1, 24) := by kernel_rfl
theorem made_nil (n : Nat) : madeCells #[.slice none 0 0] n = (nils n).toArray := by
  unfold nils
  apply Array.ext
  · simp [size_made]
  · intro i h1 h2
    simp [madeCells]
    have : i % 1 = 0 := by omega
    simp [this]
set_option maxRecDepth 20000 in
set_option maxHeartbeats 4000000 in
theorem image_any (w : World) (D P : Nat) (uv ov : Value) (d : Dk) (h : At w D P uv ov d) :
    Calls Tryd.prog 35 #[.pointer (some ⟨D, 0, none⟩)] w fun e w' => ∃ g L, e = .returned (.slice (some ⟨g, 0, none⟩) d.n d.n) ∧ Rws w w' g d.n d.n d.pl L := by
  obtain ⟨c0, -, -, -, -, -, -⟩ := h.cells
  have hn := h.hn
  have HA : Box (At w D P uv ov d) := ⟨h⟩
  have HM : Box (24 * d.n ≤ 281474976710656 ∧ d.n ≤ 9223372036854775807) := ⟨by omega, by omega⟩
  have HE : Box (madeCells (Value.slice none 0 0).cells (d.n * 1) = (nils d.n).toArray) := ⟨by rw [Nat.mul_one]; exact made_nil d.n⟩
  have hn2 : d.n < 9223372036854775807 := by omega
  clear h hn
  go_enter Tryd.func35, Tryd.ntmps35
  go_wp2_with (refine wpList_run rfl _ _ (exec_make 99 58 _ _ rfl (.slice none 0 0) 1 24 Tryd.underlying99 infoRow d.n rfl rfl HM.out.1 HM.out.2) ?_; rw [HE.out])
  have R0 : Box (Rws w (w.alloc (.cells (nils d.n).toArray 58)) w.heap.size d.n 0 d.pl []) := ⟨⟨al_at rfl, rfl, fun i hi => by simp at hi, Nat.le_refl _, (Below.refl _ _).alloc (Nat.le_refl _) _⟩⟩
  generalize w.alloc (.cells (nils d.n).toArray 58) = w1 at R0 ⊢
  obtain ⟨g, HG⟩ : ∃ g, Box (w.heap.size = g) := ⟨_, ⟨rfl⟩⟩
  rw [HG.out] at R0 ⊢
  clear HE HM
  go_loopw [15] (fun j wr => ∃ q : Nat, q ≤ d.n ∧ j = .int .i64 q ∧ ∃ L, Box (Rws w wr g d.n q d.pl L)) (fun j _ => d.n - (intOf j).toNat)
  case atStart => exact ⟨0, by omega, rfl, [], R0⟩
  case round =>
    clear R0 c0
    obtain ⟨q, hq, rfl, L, HL⟩ := hrel
    have HA2 : Box (At wr D P uv ov d) := ⟨HA.out.below HL.out.bel⟩
    obtain ⟨c0, -, -, -, -, -, -⟩ := HA2.out.cells
    by_cases hlt : q < d.n
    · have HC : Box (Calls Tryd.prog 56 #[.slice (some ⟨P, q * 192, none⟩) 192 192] wr fun e w' => ∃ v', e = .returned v' ∧ w'.ownsRow 0 5 1 v' 192 ((d.pl q).map (Value.int .u8)) ∧ Below wr.heap.size wr w' ∧ ∀ k, v'.ownBlock = some k → wr.heap.size ≤ k) := ⟨by
        obtain ⟨cs, hP, hPs⟩ := HA2.out.hp
        exact clone_bytes wr P (q * 192) 192 192 (d.pl q) (pls_range hP hPs hlt (HA2.out.hpl q).1) (HA2.out.hpl q).1 (by omega)⟩
      have hcl : ∀ wx, Below wr.heap.size wr wx → ∃ u, wx.cell? ⟨g, q, none⟩ = some u ∧ wx.frozen? ⟨g, q, none⟩ = false := fun wx hb => by
        have hr := (hb.block g (Array.getElem?_eq_some_iff.1 HL.out.row).1).trans HL.out.row
        refine ⟨.slice none 0 0, ?_, frozen_of_row wx g q _ _ hr⟩
        rw [cell_of_row _ _ _ _ _ _ hr]
        have hlen := HL.out.len
        simp [← hlen, nils, show 0 < d.n - L.length by omega]
      have HCl : Box _ := ⟨hcl⟩
      clear hcl
      go_wp2_with (go_at_call 56; refine HC.out.mono ?_; rintro e wx ⟨v', rfl, hx1, hx2, hx3⟩; obtain ⟨va, vc, rfl⟩ := own_form2 hx1; have HX : Box _ := ⟨HL.out.step hlt _ hx2 hx1 hx3⟩; obtain ⟨u0, cu, fu⟩ := HCl.out wx hx2; clear hx1 hx2 hx3)
      exact ⟨⟨q + 1, by omega, by simp, _, HX⟩, by simp [intOf]; omega⟩
    · obtain rfl : q = d.n := by omega
      go_wp2
      go_ret
      exact ⟨g, L, rfl, HL.out⟩
end Go.Proofs.YtcggbnggmglphaaDoor.Disk
