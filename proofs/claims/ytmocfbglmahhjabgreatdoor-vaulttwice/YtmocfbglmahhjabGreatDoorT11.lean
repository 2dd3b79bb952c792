/-
  What the Go methods Flush and Crash of package disk do, and Write where it refuses or stops, for every disk. And what follows it.
-/
import Derived.Test.YtmocfbglmahhjabGreatDoorT10
import Derived.Test.YtmocfbglmahhjabGreatDoorT00
import Derived.Test.YtmocfbglmahhjabGreatDoorRows
import Derived.WalkKit
import Derived.WalkSpells
import Derived.WalkLawsBesides
import Derived.BigRegion
import Derived.Deep.RegionWith
import Derived.Deep.QuietTactic
import Derived.BigQuiet
import Derived.Deep.Cut
import Derived.Deep.CutRange
namespace Go.Proofs.YtmocfbglmahhjabGreatDoor.Disk.Plain
set_option maxRecDepth 100000
end Go.Proofs.YtmocfbglmahhjabGreatDoor.Disk.Plain
namespace Go.Proofs.YtmocfbglmahhjabGreatDoor.Disk
set_option maxRecDepth 100000
set_option linter.unusedVariables false
set_option maxRecDepth 100000
open Go.RowKit Go.Proofs.YtmocfbglmahhjabGreatDoor.Plain Go.Proofs.YtmocfbglmahhjabGreatDoor.Disk.Plain
set_option maxRecDepth 20000 in
set_option maxHeartbeats 2000000 in
theorem write_down (w : World) (D : Nat) (fp : Nat → Prop) (d : Dk) (h : Is w D fp d) (i : Int) (a : Option Addr) (len cap : Nat) (hd : d.down = true) :
    Calls Tryz.prog 38 #[.pointer (some ⟨D, 0, none⟩), .int .i64 i, .slice a len cap] w fun e w' => e = .returned (.int .i64 13) ∧ w = w' := by
  obtain ⟨P, uv, ov, h1, h2⟩ := h
  have H := ready_any w D P uv ov d h1
  rw [show rdy d = 13 by simp [rdy, hd]] at H
  have HR : Box _ := ⟨H⟩
  clear H h1 h2 hd
  go_enter Tryz.func38, Tryz.ntmps38
  go_wp2_with (go_at_call 61; refine HR.out.mono ?_; rintro e w' ⟨rfl, rfl⟩)
  go_ret
  exact ⟨rfl, rfl⟩
set_option maxRecDepth 20000 in
set_option maxHeartbeats 2000000 in
theorem write_stop (w : World) (D : Nat) (fp : Nat → Prop) (d : Dk) (h : Is w D fp d) (i : Int) (a : Option Addr) (len cap : Nat) (hd : d.down = false) (hf : fit d i len = 0) (hs : d.st = true) (hl : d.left = 0) :
    Calls Tryz.prog 38 #[.pointer (some ⟨D, 0, none⟩), .int .i64 i, .slice a len cap] w fun e w' => e = .returned (.int .i64 13) ∧ Nx D fp w w' { d with down := true } := by
  obtain ⟨P, uv, ov, h1, h2⟩ := h
  have H := ready_any w D P uv ov d h1
  rw [show rdy d = 0 by simp [rdy, hd]] at H
  have HR : Box _ := ⟨H⟩
  have H2 := fits_any w D P uv ov d h1 i a len cap
  rw [hf] at H2
  have HH : Box _ := ⟨H2⟩
  obtain ⟨-, -, -, c3, c4, c5, fz⟩ := h1.cells
  have f3 := fz 3
  have HX : Box _ := ⟨h1.set3 h2 true⟩
  rw [hs] at c4
  rw [hl] at c5
  clear H H2 h1 h2 hd hf hs hl fz
  go_enter Tryz.func38, Tryz.ntmps38
  go_wp2_with (first
    | (go_at_call 61; refine HR.out.mono ?_; rintro e w' ⟨rfl, rfl⟩)
    | (go_at_call 62; refine HH.out.mono ?_; rintro e w' ⟨rfl, rfl⟩))
  go_ret
  exact ⟨rfl, HX.out⟩
/-- A place's bytes laid anew. -/
def upd (pl : Nat → List Int) (p : Nat) (b : List Int) : Nat → List Int := fun k => if k = p then b else pl k
/-- Writes done, in order. -/
def lay (L : List (Nat × List Int)) (pl : Nat → List Int) : Nat → List Int := L.foldl (fun f x => upd f x.1 x.2) pl
theorem splice_get {α : Type} (L vs : List α) (o k : Nat) (h : o + vs.length ≤ L.length) : (splice L o vs)[k]? = if o ≤ k ∧ k < o + vs.length then vs[k - o]? else L[k]? := by
  unfold splice
  have h1 : (L.take o).length = o := by simp; omega
  by_cases hk : k < o
  · rw [List.getElem?_append_left (by omega), List.getElem?_take, if_pos hk, if_neg (by omega)]
  · by_cases hk2 : k < o + vs.length
    · rw [List.getElem?_append_right (by omega), h1, List.getElem?_append_left (by omega), if_pos ⟨by omega, hk2⟩]
    · rw [List.getElem?_append_right (by omega), List.getElem?_append_right (by omega), h1, if_neg (by omega), List.getElem?_drop]
      congr 1
      omega
theorem pls_upd {cs : Array Value} {n p : Nat} {pl : Nat → List Int} {b : List Int} (h : Pls cs n pl) (hp : p < n) (hb : b.length = 192) : Pls (splice cs.toList (p * 192) (u8s b).toList).toArray n (upd pl p b) := by
  have hl : (u8s b).toList.length = 192 := by rw [Array.length_toList, size_u8s, hb]
  have hfit : p * 192 + 192 ≤ cs.size := by
    rw [h.1, Nat.mul_comm, ← Nat.mul_succ]
    exact Nat.mul_le_mul_left _ hp
  refine ⟨?_, fun i hi j hj => ?_⟩
  · simp only [List.size_toArray, splice, List.length_append, List.length_take, List.length_drop, hl, Array.length_toList]
    have := h.1
    omega
  · rw [List.getElem?_toArray, splice_get _ _ _ _ (by rw [hl, Array.length_toList]; exact hfit), hl]
    by_cases he : i = p
    · subst he
      rw [if_pos (by omega)]
      have e : 192 * i + j - i * 192 = j := by omega
      rw [e]
      simp only [upd, if_true]
      simp [u8s, List.getD, show j < b.length by omega]
    · have hne : ¬ (p * 192 ≤ 192 * i + j ∧ 192 * i + j < p * 192 + 192) := by
        intro ⟨h1, h2⟩
        apply he
        omega
      rw [if_neg hne, Array.getElem?_toList, h.2 i hi j hj]
      simp [upd, he]
/-- What the statement that lays a write down reads. -/
structure Lay (wd : World) (D P Bx n : Nat) (p : Nat) (b : List Int) : Prop where
  c0 : wd.cell? ⟨D, 0, none⟩ = some (.slice (some ⟨P, 0, none⟩) n n)
  n0 : D ≠ P
  cx : wd.cell? ⟨Bx, 0, none⟩ = some (.int .i64 (p : Int))
  rx : wd.rangeAt Bx 1 (b.map (Value.int .u8))
  nx : Bx ≠ P
  iz : (Tryz.prog.info? 123).map (·.size) = some (b.map (Value.int .u8)).length
  iy : (Tryz.prog.info? 123).map (·.size) = some (u8s b).size
  th : wd.there P (p * 192) (u8s b).size
theorem Lay.drew {w wd : World} {D P Bx n : Nat} {p : Nat} {b : List Int} (h : Lay w D P Bx n p b) (hwd : wd = w.drew) : Lay wd D P Bx n p b := by
  subst hwd
  exact ⟨h.c0, h.n0, h.cx, h.rx, h.nx, h.iz, h.iy, h.th⟩
/-- A place laid down. -/
theorem At.laid {w wd : World} {D P : Nat} {uv ov : Value} {d : Dk} (h : At w D P uv ov d) (hb : Below w.heap.size w wd) (p : Nat) (b : List Int) (hp : p < d.n) (hl : b.length = 192 ∧ Byt b) :
    At (wd.setCells P (p * 192) (u8s b).toList) D P uv ov { d with pl := upd d.pl p b } ∧ Turned (foot D P uv ov) w (wd.setCells P (p * 192) (u8s b).toList) := by
  have h2 := h.below hb
  obtain ⟨cs, hP, hPs⟩ := h2.hp
  have hfit : p * 192 + 192 ≤ cs.size := by
    rw [hPs.1, Nat.mul_comm, ← Nat.mul_succ]
    exact Nat.mul_le_mul_left _ hp
  have hc := heap_setCells P _ (u8s b).toList (p * 192) wd cs hP (by rw [Array.length_toList, size_u8s, hl.1]; exact hfit)
  have ho : ∀ k, k ≠ P → (wd.setCells P (p * 192) (u8s b).toList).heap[k]? = wd.heap[k]? := fun k hk => heap_setCells_other P k hk _ _ _
  have hbt := but_setCells P (u8s b).toList (p * 192) wd wd (But.refl _ _)
  refine ⟨⟨by rw [ho D h.neP]; exact h2.hd, ⟨_, hc, pls_upd hPs hp hl.1⟩, fun i => ?_, h.hn, own_same h2.hu (fun k hk => ho k (ne_blk h.neU.2 hk)), h.huw, own_same h2.ho (fun k hk => ho k (ne_blk h.neO.2 hk)), h.neP, h.neU, h.neO, h.neUO⟩, ⟨hbt.os.trans hb.os, hbt.tape.trans hb.tape, hbt.output.trans hb.output, Nat.le_trans hb.size hbt.size, fun k hk hn => ?_⟩⟩
  · simp only [upd]
    split
    · exact hl
    · exact h.hpl i
  · rw [ho k (fun e => hn (.inr (.inl e)))]
    exact hb.block k hk
end Go.Proofs.YtmocfbglmahhjabGreatDoor.Disk
namespace Go.Proofs.YtmocfbglmahhjabGreatDoor.Disk.Plain
set_option maxRecDepth 100000
end Go.Proofs.YtmocfbglmahhjabGreatDoor.Disk.Plain
namespace Go.Proofs.YtmocfbglmahhjabGreatDoor.Disk
set_option maxRecDepth 100000
set_option linter.unusedVariables false
open Go.RowKit Go.Proofs.YtmocfbglmahhjabGreatDoor.Plain Go.Proofs.YtmocfbglmahhjabGreatDoor.Disk.Plain
/-- A row of truth values in memory. -/
def Bools (w : World) (a : Option Addr) (len : Nat) (K : List Bool) : Prop := K.length = len ∧ (0 < len → ∃ b off, a = some ⟨b, off, none⟩ ∧ b < w.heap.size ∧ ∀ i, i < len → w.cell? ⟨b, off + i, none⟩ = some (.bool (K.getD i false)))
theorem Bools.turned {fp : Nat → Prop} {w w' : World} {a : Option Addr} {len : Nat} {K : List Bool} (h : Bools w a len K) (t : Turned fp w w') (hn : ∀ ad, a = some ad → 0 < len → ¬ fp ad.block) : Bools w' a len K := by
  refine ⟨h.1, fun h0 => ?_⟩
  obtain ⟨b, off, rfl, hb, hc⟩ := h.2 h0
  exact ⟨b, off, rfl, Nat.lt_of_lt_of_le hb t.size, fun i hi => t.cell (hc i hi) (hn ⟨b, off, none⟩ rfl h0)⟩
/-- The writes that are kept. -/
def kp (L : List (Nat × List Int)) (K : List Bool) : List (Nat × List Int) := (L.zipIdx.filter (fun x => K.getD x.2 false)).map Prod.fst
def crOk (d : Dk) (K : List Bool) : Dk := { d with pl := lay (kp d.uw K) d.pl, uw := [], down := false, st := false, left := 0 }
end Go.Proofs.YtmocfbglmahhjabGreatDoor.Disk
namespace Go.Proofs.YtmocfbglmahhjabGreatDoor.Disk.Plain
set_option maxRecDepth 100000
end Go.Proofs.YtmocfbglmahhjabGreatDoor.Disk.Plain
namespace Go.Proofs.YtmocfbglmahhjabGreatDoor.Disk
set_option maxRecDepth 100000
set_option linter.unusedVariables false
open Go.RowKit Go.Proofs.YtmocfbglmahhjabGreatDoor.Plain Go.Proofs.YtmocfbglmahhjabGreatDoor.Disk.Plain
/-- A disk of a call's own: all its blocks are newer than w0's. -/
structure Cx (w0 w : World) (D : Nat) (fp : Nat → Prop) (d : Dk) : Prop where
  is : Is w D fp d
  bel : Below w0.heap.size w0 w
  lo : ∀ k, fp k → w0.heap.size ≤ k
  hi : ∀ k, fp k → k < w.heap.size
/-- What follows: nothing but the disk's blocks has turned, and it has taken none of another's. -/
structure Fol (w : World) (fp : Nat → Prop) (w' : World) (fp' : Nat → Prop) : Prop where
  t : Turned fp w w'
  k : ∀ k, k < w.heap.size → ¬ fp k → ¬ fp' k
/-- A row of bytes that is not the disk's. -/
structure Loc (w : World) (fp : Nat → Prop) (g : Nat) (B : List Int) (t : TypeId) : Prop where
  row : w.heap[g]? = some (.cells (u8s B) t (0, 0))
  no : ¬ fp g
theorem Loc.lt {w : World} {fp : Nat → Prop} {g : Nat} {B : List Int} {t : TypeId} (h : Loc w fp g B t) : g < w.heap.size := (Array.getElem?_eq_some_iff.1 h.row).1
theorem Loc.fol {w w' : World} {fp fp' : Nat → Prop} {g : Nat} {B : List Int} {t : TypeId} (h : Loc w fp g B t) (f : Fol w fp w' fp') : Loc w' fp' g B t :=
  ⟨(f.t.block g h.lt h.no).trans h.row, f.k g h.lt h.no⟩
theorem Loc.below {w w' : World} {fp : Nat → Prop} {g : Nat} {B : List Int} {t : TypeId} (h : Loc w fp g B t) (hb : Below w.heap.size w w') : Loc w' fp g B t := ⟨(hb.block g h.lt).trans h.row, h.no⟩
theorem Loc.bytes {w : World} {fp : Nat → Prop} {g : Nat} {B : List Int} {t : TypeId} (h : Loc w fp g B t) (hB : Byt B) (n : Nat) (hn : B.length = n) : Bytes w (some ⟨g, 0, none⟩) n B := by
  subst hn
  exact bytes_of_row hB h.row
theorem Cx.step {w0 w w' : World} {D : Nat} {fp : Nat → Prop} {d : Dk} (h : Cx w0 w D fp d) (hb : Below w.heap.size w w') : Cx w0 w' D fp d :=
  ⟨h.is.below hb, below_to h.bel hb, h.lo, fun k hk => Nat.lt_of_lt_of_le (h.hi k hk) hb.size⟩
theorem Cx.nx {w0 w w' : World} {D : Nat} {fp : Nat → Prop} {d d' : Dk} (h : Cx w0 w D fp d) (n : Nx D fp w w' d') : ∃ fp', Cx w0 w' D fp' d' ∧ Fol w fp w' fp' := by
  obtain ⟨f, i, t, s⟩ := n
  refine ⟨_, ⟨i.cut, h.bel.trans (t.below h.bel.size h.lo), fun k hk => ?_, fun k hk => hk.2⟩, ⟨t, fun k hk hn hf => (s k hf.1).elim hn (fun h => by omega)⟩⟩
  rcases s k hk.1 with h1 | h1
  · exact h.lo k h1
  · exact Nat.le_trans h.bel.size h1
theorem Cx.set {w0 w : World} {D : Nat} {fp : Nat → Prop} {d : Dk} (h : Cx w0 w D fp d) (g i : Nat) (v : Value) (hn : ¬ fp g) (hg : w0.heap.size ≤ g) : Cx w0 (w.setCell ⟨g, i, none⟩ v) D fp d :=
  ⟨h.is.same (fun k hk _ => heap_setCell_other w ⟨g, i, none⟩ k _ (fun e => hn (by have e' : g = k := e.symm; rw [e']; exact hk))), below_set h.bel hg v, h.lo, fun k hk => by simpa using h.hi k hk⟩
theorem Loc.set {w : World} {fp : Nat → Prop} {g : Nat} {B : List Int} {t : TypeId} (h : Loc w fp g B t) (i : Nat) (z : Int) : Loc (w.setCell ⟨g, i, none⟩ (.int .u8 z)) fp g (B.set i z) t :=
  ⟨by rw [heap_setCell_same w g i _ t _ h.row, u8s_set], h.no⟩
theorem Loc.other {w : World} {fp : Nat → Prop} {g g' : Nat} {B : List Int} {t : TypeId} (h : Loc w fp g B t) (i : Nat) (v : Value) (hne : g ≠ g') : Loc (w.setCell ⟨g', i, none⟩ v) fp g B t :=
  ⟨by rw [heap_setCell_other w ⟨g', i, none⟩ g _ hne]; exact h.row, h.no⟩
theorem Loc.new {w : World} {fp : Nat → Prop} (hf : ∀ k, fp k → k < w.heap.size) (B : List Int) (t : TypeId) : Loc (w.alloc (.cells (u8s B) t)) fp w.heap.size B t := ⟨al_at rfl, fun h => by have := hf _ h; omega⟩
theorem cx_new {w w' : World} {n : Nat} (i : Is w' (w.heap.size + 1) (fun k => w.heap.size ≤ k) (dk0 n)) (b : Below w.heap.size w w') : ∃ fp, Cx w w' (w.heap.size + 1) fp (dk0 n) :=
  ⟨_, i.cut, b, fun k hk => hk.1, fun k hk => hk.2⟩
theorem new_cx (w : World) (n : Nat) (hn : 1 ≤ n ∧ n ≤ 4096) : Calls Tryz.prog 5 #[.int .i64 (n : Int)] w fun e w' => e = .returned (.tuple #[.pointer (some ⟨w.heap.size + 1, 0, none⟩), .int .i64 0]) ∧ ∃ fp, Cx w w' (w.heap.size + 1) fp (dk0 n) :=
  (new_any w n hn).mono fun e w' ⟨h1, h2, h3⟩ => ⟨h1, cx_new h2 h3⟩
theorem write_cx {w0 w : World} {D : Nat} {fp : Nat → Prop} {d : Dk} (C : Cx w0 w D fp d) (i : Nat) (a : Option Addr) (cap : Nat) (B : List Int) (hB : Bytes w a 192 B) (hap : ∀ ad, a = some ad → ¬ fp ad.block) (hd : d.down = false) (hi : i < d.n) (hst : d.st = true → d.left ≠ 0) (hl : 0 ≤ d.left ∧ d.left ≤ 9223372036854775807) (ho : d.ops.length < 1000000) (hu : d.uw.length < 1000000) :
    Calls Tryz.prog 38 #[.pointer (some ⟨D, 0, none⟩), .int .i64 (i : Int), .slice a 192 cap] w fun e w' => e = .returned (.int .i64 0) ∧ ∃ fp', Cx w0 w' D fp' (wrOk d i B) ∧ Fol w fp w' fp' :=
  (write_ok w D fp d C.is i a cap B hB hap hd hi hst hl ho hu).mono fun e w' ⟨h1, h2⟩ => ⟨h1, C.nx h2⟩
theorem read_cx {w0 w : World} {D : Nat} {fp : Nat → Prop} {d : Dk} (C : Cx w0 w D fp d) (i : Nat) (hd : d.down = false) (hi : i < d.n) (ho : d.ops.length < 1000000) (hu : d.uw.length < 1000000) :
    Calls Tryz.prog 46 #[.pointer (some ⟨D, 0, none⟩), .int .i64 (i : Int)] w fun e w' =>
      ∃ R fp', e = .returned (.tuple #[.slice (some ⟨R, 0, none⟩) 192 192, .int .i64 0]) ∧ Cx w0 w' D fp' (rdOk d i) ∧ Fol w fp w' fp' ∧ Loc w' fp' R (lat d i) 123 ∧ w.heap.size ≤ R ∧ (lat d i).length = 192 ∧ Byt (lat d i) := by
  have hlen : (lat d i).length = 192 ∧ Byt (lat d i) := by
    obtain ⟨P, uv, ov, h1, _⟩ := C.is
    exact length_lat h1 i
  refine (read_ok w D fp d C.is i hd hi (by omega) (by omega)).mono ?_
  rintro e w' ⟨R, fp', rfl, h1, h2, h3, h4, h5, h6⟩
  refine ⟨R, _, rfl, ⟨h1.cut, C.bel.trans (h2.below C.bel.size C.lo), fun k hk => ?_, fun k hk => hk.2⟩, ⟨h2, fun k hk hn hf => (h3 k hf.1).elim hn (fun h => by omega)⟩, ⟨h6, fun h => h4 h.1⟩, h5, hlen⟩
  rcases h3 k hk.1 with h7 | h7
  · exact C.lo k h7
  · exact Nat.le_trans C.bel.size h7
theorem size_cx {w0 w : World} {D : Nat} {fp : Nat → Prop} {d : Dk} (C : Cx w0 w D fp d) : Calls Tryz.prog 15 #[.pointer (some ⟨D, 0, none⟩)] w fun e w' => e = .returned (.int .i64 (d.n : Int)) ∧ w = w' := by
  obtain ⟨P, uv, ov, h1, _⟩ := C.is
  exact size_any w D P uv ov d h1
theorem pending_cx {w0 w : World} {D : Nat} {fp : Nat → Prop} {d : Dk} (C : Cx w0 w D fp d) : Calls Tryz.prog 9 #[.pointer (some ⟨D, 0, none⟩)] w fun e w' => e = .returned (.int .i64 (d.uw.length : Int)) ∧ w = w' := by
  obtain ⟨P, uv, ov, h1, _⟩ := C.is
  exact pending_any w D P uv ov d h1
end Go.Proofs.YtmocfbglmahhjabGreatDoor.Disk
namespace Go.Proofs.YtmocfbglmahhjabGreatDoor.Disk.Plain
set_option maxRecDepth 100000
end Go.Proofs.YtmocfbglmahhjabGreatDoor.Disk.Plain
namespace Go.Proofs.YtmocfbglmahhjabGreatDoor.Disk
set_option maxRecDepth 100000
set_option linter.unusedVariables false
open Go.RowKit Go.Proofs.YtmocfbglmahhjabGreatDoor.Plain Go.Proofs.YtmocfbglmahhjabGreatDoor.Disk.Plain
theorem lastOf_snoc (L : List (Nat × List Int)) (x : Nat × List Int) (j : Nat) : lastOf (L ++ [x]) j = if x.1 = j then some x.2 else lastOf L j := by
  unfold lastOf
  rw [List.reverse_append]
  simp only [List.reverse_cons, List.reverse_nil, List.nil_append, List.cons_append, List.find?_cons]
  by_cases h : x.1 = j
  · simp [h]
  · have : (x.1 == j) = false := by simpa using h
    simp [this, h]
theorem lat_wr (d : Dk) (i j : Nat) (B : List Int) : lat (wrOk d i B) j = if i = j then B else lat d j := by
  unfold lat
  rw [show (wrOk d i B).uw = d.uw ++ [(i, B)] from rfl, lastOf_snoc]
  split <;> rfl
/-- The bytes that the example writes, and its disk behind each call. -/
def b7 : List Int := z192.set 0 7
def a1 : Dk := wrOk (dk0 2) 1 b7
def a2 : Dk := rdOk a1 1
def a3 : Dk := crOk a2 []
def a4 : Dk := rdOk a3 1
end Go.Proofs.YtmocfbglmahhjabGreatDoor.Disk
namespace Go.Proofs.YtmocfbglmahhjabGreatDoor.Seal.Plain
set_option maxRecDepth 100000
end Go.Proofs.YtmocfbglmahhjabGreatDoor.Seal.Plain
namespace Go.Proofs.YtmocfbglmahhjabGreatDoor.Seal.Plain
set_option maxRecDepth 100000
open Go.Proofs.YtmocfbglmahhjabGreatDoor.Plain
set_option linter.unusedVariables false
open Go.RowKit
def rotl (x : Int) (k : Nat) : Int := bits .or .u32 (x * 2 ^ k % 4294967296) (x / 2 ^ (32 - k))
theorem W32.rotl (x : Int) (k : Nat) : W32 (rotl x k) := W32.bits _ _ _
theorem and31 (n : Nat) (h' : n ≤ 31) : bits .and .u64 (n : Int) 31 = (n : Int) := by
  have key : ∀ n : Fin 32, bits .and .u64 (n.val : Int) 31 = (n.val : Int) := by decide +kernel
  exact key ⟨n, by omega⟩
/-- One word is added to another. -/
def ad (L : List Int) (a b : Nat) : List Int := L.set a ((L.getD a 0 + L.getD b 0) % 4294967296)
/-- One word is laid over another by xor, and turned. -/
def tn (L : List Int) (d a n : Nat) : List Int := L.set d (rotl (bits .xor .u32 (L.getD d 0) (L.getD a 0)) n)
theorem length_ad (L : List Int) (a b : Nat) : (ad L a b).length = L.length := by simp [ad]
theorem length_tn (L : List Int) (d a n : Nat) : (tn L d a n).length = L.length := by simp [tn]
theorem wrd_ad (L : List Int) (a b : Nat) (h : Wrd L) : Wrd (ad L a b) := wrd_set _ _ _ h (W32.wrap _)
theorem wrd_tn (L : List Int) (d a n : Nat) (h : Wrd L) : Wrd (tn L d a n) := wrd_set _ _ _ h (W32.rotl _ _)
/-- A quarter. -/
def qr (L : List Int) (a b c d : Nat) : List Int := tn (ad (tn (ad (tn (ad (tn (ad L a b) d a 16) c d) b c 12) a b) d a 8) c d) b c 7
theorem length_qr (L : List Int) (a b c d : Nat) : (qr L a b c d).length = L.length := by simp [qr, length_ad, length_tn]
theorem wrd_qr (L : List Int) (a b c d : Nat) (h : Wrd L) : Wrd (qr L a b c d) := wrd_tn _ _ _ _ (wrd_ad _ _ _ (wrd_tn _ _ _ _ (wrd_ad _ _ _ (wrd_tn _ _ _ _ (wrd_ad _ _ _ (wrd_tn _ _ _ _ (wrd_ad _ _ _ h)))))))
/-- Which words each of the eight quarters takes. -/
def qt : List Int := [0, 4, 8, 12, 1, 5, 9, 13, 2, 6, 10, 14, 3, 7, 11, 15, 0, 5, 10, 15, 1, 6, 11, 12, 2, 7, 8, 13, 3, 4, 9, 14]
def qa (j i : Nat) : Nat := (qt.getD (4 * j + i) 0).toNat
theorem qa_lt (j i : Nat) (hj : j < 8) (hi : i < 4) : qa j i < 16 ∧ qt.getD (4 * j + i) 0 = (qa j i : Int) := by
  have key : ∀ k : Fin 32, (qt.getD k.val 0).toNat < 16 ∧ qt.getD k.val 0 = ((qt.getD k.val 0).toNat : Int) := by decide +kernel
  exact key ⟨4 * j + i, by omega⟩
/-- The first j quarters of a turn. -/
def row (L : List Int) : Nat → List Int
  | 0 => L
  | j + 1 => qr (row L j) (qa j 0) (qa j 1) (qa j 2) (qa j 3)
/-- Turns. -/
def rn (L : List Int) : Nat → List Int
  | 0 => L
  | k + 1 => row (rn L k) 8
theorem length_row (L : List Int) (j : Nat) : (row L j).length = L.length := by
  induction j with
  | zero => rfl
  | succ j ih => rw [row, length_qr, ih]
theorem wrd_row (L : List Int) (j : Nat) (h : Wrd L) : Wrd (row L j) := by
  induction j with
  | zero => exact h
  | succ j ih => exact wrd_qr _ _ _ _ _ ih
theorem length_rn (L : List Int) (k : Nat) : (rn L k).length = L.length := by
  induction k with
  | zero => rfl
  | succ k ih => rw [rn, length_row, ih]
theorem wrd_rn (L : List Int) (k : Nat) (h : Wrd L) : Wrd (rn L k) := by
  induction k with
  | zero => exact h
  | succ k ih => exact wrd_row _ _ ih
/-- The words of bytes, four bytes each. -/
def wds (B : List Int) : Nat → List Int
  | 0 => []
  | k + 1 => wds B k ++ [num B (4 * k) 4]
theorem length_wds (B : List Int) (k : Nat) : (wds B k).length = k := by
  induction k with
  | zero => rfl
  | succ k ih => simp [wds, ih]
theorem W32.num (B : List Int) (p : Nat) (h : Byt B) : W32 (num B p 4) := num_bd B p h 4
theorem wrd_wds (B : List Int) (k : Nat) (h : Byt B) : Wrd (wds B k) := by
  induction k with
  | zero => exact wrd_nil
  | succ k ih => exact wrd_app _ _ ih (wrd_one _ (W32.num B _ h))
def four : List Int := [1634760805, 857760878, 2036477234, 1797285236]
/-- The words at first. -/
def beg (K : List Int) (c : Int) (N : List Int) : List Int := four ++ wds K 8 ++ [c] ++ wds N 3
theorem length_beg (K : List Int) (c : Int) (N : List Int) : (beg K c N).length = 16 := by simp [beg, length_wds, four]
theorem wrd_four : Wrd four := by
  intro i
  by_cases h : i < 4
  · have key : ∀ j : Fin 4, 0 ≤ four.getD j.val 0 ∧ four.getD j.val 0 < 4294967296 := by decide +kernel
    exact key ⟨i, h⟩
  · rw [getD_high0 _ _ (by show 4 ≤ i; omega)]; simp [W32]
theorem wrd_beg (K : List Int) (c : Int) (N : List Int) (hK : Byt K) (hc : W32 c) (hN : Byt N) : Wrd (beg K c N) :=
  wrd_app _ _ (wrd_app _ _ (wrd_app _ _ wrd_four (wrd_wds _ _ hK)) (wrd_one _ hc)) (wrd_wds _ _ hN)
/-- A word of the stream: what was mixed, and what was there at first. -/
def ow (X Y : List Int) (i : Nat) : Int := (X.getD i 0 + Y.getD i 0) % 4294967296
theorem W32.ow (X Y : List Int) (i : Nat) : W32 (ow X Y i) := W32.wrap _
/-- The bytes of the first so many words of the stream. -/
def cb (X Y : List Int) : Nat → List Int
  | 0 => []
  | i + 1 => cb X Y i ++ bytesOf (ow X Y i) 4
theorem length_cb (X Y : List Int) (i : Nat) : (cb X Y i).length = 4 * i := by
  induction i with
  | zero => rfl
  | succ i ih => simp [cb, ih, length_bytesOf]; omega
theorem byt_cb (X Y : List Int) (i : Nat) : Byt (cb X Y i) := by
  induction i with
  | zero => exact byt_nil
  | succ i ih => exact byt_app _ _ ih (bytesOf_bd _ _)
/-- A block of the stream. -/
def blk (K : List Int) (c : Int) (N : List Int) : List Int := cb (rn (beg K c N) 10) (beg K c N) 16
theorem length_blk (K : List Int) (c : Int) (N : List Int) : (blk K c N).length = 64 := length_cb _ _ _
theorem byt_blk (K : List Int) (c : Int) (N : List Int) : Byt (blk K c N) := byt_cb _ _ _
/-- The nonce of a place and a version. -/
def non (p v : Int) : List Int := bytesOf p 4 ++ bytesOf v 8
theorem length_non (p v : Int) : (non p v).length = 12 := by simp [non, length_bytesOf]
theorem byt_non (p v : Int) : Byt (non p v) := byt_app _ _ (bytesOf_bd _ _) (bytesOf_bd _ _)
/-- A byte of the stream. -/
def stm (K : List Int) (c : Int) (N : List Int) (i : Nat) : Int := (blk K ((c + (i / 64 : Nat)) % 4294967296) N).getD (i % 64) 0
def xr (x y : Int) : Int := bits .xor .u8 x y
theorem xr_bd (x b : Int) : 0 ≤ xr x b ∧ xr x b ≤ 255 := by
  unfold xr bits
  rw [IntKind.wrap_u8]
  omega
/-- The first so many bytes under the stream. -/
def cr (K : List Int) (c : Int) (N B : List Int) : Nat → List Int
  | 0 => []
  | i + 1 => cr K c N B i ++ [xr (B.getD i 0) (stm K c N i)]
theorem length_cr (K : List Int) (c : Int) (N B : List Int) (n : Nat) : (cr K c N B n).length = n := by
  induction n with
  | zero => rfl
  | succ n ih => simp [cr, ih]
theorem byt_cr (K : List Int) (c : Int) (N B : List Int) (n : Nat) : Byt (cr K c N B n) := by
  induction n with
  | zero => exact byt_nil
  | succ n ih => exact byt_app _ _ ih (byt_cons _ _ (xr_bd _ _) byt_nil)
theorem cr_at (K : List Int) (c : Int) (N B : List Int) (n i : Nat) (h : i < n) : (cr K c N B n).getD i 0 = xr (B.getD i 0) (stm K c N i) := by
  induction n with
  | zero => omega
  | succ n ih =>
    rw [cr, getD_app, length_cr]
    by_cases hi : i < n
    · rw [if_pos hi, ih hi]
    · obtain rfl : i = n := by omega
      simp
end Go.Proofs.YtmocfbglmahhjabGreatDoor.Seal.Plain
namespace Go.Proofs.YtmocfbglmahhjabGreatDoor.Seal.Plain
set_option maxRecDepth 100000
end Go.Proofs.YtmocfbglmahhjabGreatDoor.Seal.Plain
namespace Go.Proofs.YtmocfbglmahhjabGreatDoor.Seal
set_option maxRecDepth 100000
set_option linter.unusedVariables false
open Go.RowKit Go.Proofs.YtmocfbglmahhjabGreatDoor.Plain Go.Proofs.YtmocfbglmahhjabGreatDoor.Seal.Plain
theorem rot_any (x : Int) (n : Nat) (w : World) (h : W32 x) (hn : 1 ≤ n) (hn' : n ≤ 31) :
    Calls Tryz.prog 112 #[.int .u32 x, .int .i64 n] w fun e w' => e = .returned (.int .u32 (rotl x n)) ∧ w = w' := by
  obtain ⟨h0, h1⟩ := h
  have hb := and31 n hn'
  have HR : Hid (bits .or .u32 (x * 2 ^ n % 4294967296) (x / 2 ^ (32 - n)) = rotl x n) := by unfold rotl; rfl
  go_enter Tryz.func112, Tryz.ntmps112
  go_wp2
  go_ret
  exact ⟨by rw [← HR.out]; rfl, rfl⟩
/-- The words stand in block S. -/
def Ws (w : World) (S : Nat) (L : List Int) : Prop := L.length = 16 ∧ Wrd L ∧ w.heap[S]? = some (.cells (u32s L) 179 (0, 0))
theorem Ws.cell {w : World} {S : Nat} {L : List Int} (h : Ws w S L) (i : Nat) (hi : i < 16) : w.cell? ⟨S, i, none⟩ = some (.int .u32 (L.getD i 0)) := u32_cell w S i L _ _ h.2.2 (by rw [h.1]; exact hi)
theorem Ws.frozen {w : World} {S : Nat} {L : List Int} (h : Ws w S L) (i : Nat) : w.frozen? ⟨S, i, none⟩ = false := frozen_of_row w S i _ 179 h.2.2
theorem Ws.set {w : World} {S : Nat} {L : List Int} (h : Ws w S L) (i : Nat) (v : Int) (hv : W32 v) : Ws (w.setCell ⟨S, i, none⟩ (.int .u32 v)) S (L.set i v) :=
  ⟨by simp [h.1], wrd_set _ _ _ h.2.1 hv, by rw [heap_setCell_same w S i _ 179 _ h.2.2, u32s_set]⟩
theorem Ws.drew {w : World} {S : Nat} {L : List Int} (h : Ws w S L) : Ws w.drew S L := h
theorem Ws.below {w w' : World} {S : Nat} {L : List Int} (h : Ws w S L) (hb : Below w.heap.size w w') : Ws w' S L :=
  ⟨h.1, h.2.1, (hb.block _ (Array.getElem?_eq_some_iff.1 h.2.2).1).trans h.2.2⟩
set_option maxHeartbeats 1000000 in
theorem turn_any (S d a n : Nat) (L : List Int) (w : World) (h : Ws w S L) (hd : d < 16) (ha : a < 16) (hn : 1 ≤ n) (hn' : n ≤ 31) :
    Calls Tryz.prog 111 #[.int .i64 d, .int .i64 a, .int .i64 n, .pointer (some ⟨S, 0, none⟩)] w fun e w' => e = .returned (.tuple #[]) ∧ Ws w' S (tn L d a n) ∧ But S w w' := by
  have c1 := h.cell d hd
  have c2 := h.cell a ha
  have f1 := h.frozen d
  have HN : Box (∀ x y : Int, L.getD d 0 = x → L.getD a 0 = y → Ws (w.drew.setCell ⟨S, d, none⟩ (.int .u32 (rotl (bits .xor .u32 x y) n))) S (tn L d a n) ∧ But S w (w.drew.setCell ⟨S, d, none⟩ (.int .u32 (rotl (bits .xor .u32 x y) n)))) :=
    ⟨fun x y hx hy => by subst hx; subst hy; exact ⟨h.drew.set d _ (W32.rotl _ _), (But.refl S w).drew.setCell _ _⟩⟩
  obtain ⟨x, HX⟩ : ∃ x, Box (L.getD d 0 = x) := ⟨_, ⟨rfl⟩⟩
  obtain ⟨y, HY⟩ : ∃ x, Box (L.getD a 0 = x) := ⟨_, ⟨rfl⟩⟩
  rw [HX.out] at c1
  rw [HY.out] at c2
  have HF := HN.out x y HX.out HY.out
  have hxy : W32 (bits .xor .u32 x y) := W32.bits _ _ _
  have HG : Box _ := ⟨HF⟩
  clear HF HN h
  go_enter Tryz.func111, Tryz.ntmps111
  go_wp2
  go_region_with (go_at_call 112; refine (rot_any _ _ _ hxy hn hn').mono ?_; rintro e w' ⟨rfl, rfl⟩)
  all_goals (go_end0; exact ⟨rfl, HG.out⟩)
end Go.Proofs.YtmocfbglmahhjabGreatDoor.Seal
namespace Go.Proofs.YtmocfbglmahhjabGreatDoor.Seal.Plain
set_option maxRecDepth 100000
end Go.Proofs.YtmocfbglmahhjabGreatDoor.Seal.Plain
namespace Go.Proofs.YtmocfbglmahhjabGreatDoor.Seal
set_option maxRecDepth 100000
set_option linter.unusedVariables false
open Go.RowKit Go.Proofs.YtmocfbglmahhjabGreatDoor.Plain Go.Proofs.YtmocfbglmahhjabGreatDoor.Seal.Plain
/-- Words in block S, noughts in the next one, all else as it was. -/
def Qs (w wx : World) (S : Nat) (L : List Int) : Prop := Ws wx S L ∧ wx.heap[S + 1]? = some (.cells (fil [] 16) 179 (0, 0)) ∧ Below S w wx
theorem Qs.step {w wx : World} {S : Nat} {L : List Int} (h : Qs w wx S L) (i : Nat) (v : Int) (hv : W32 v) : Qs w (wx.drew.setCell ⟨S, i, none⟩ (.int .u32 v)) S (L.set i v) :=
  ⟨h.1.drew.set i v hv, by rw [heap_setCell_other wx.drew ⟨S, i, none⟩ (S + 1) _ (fun e => by simp at e)]; exact h.2.1, below_set (w' := wx.drew) ⟨h.2.2.os, h.2.2.tape, h.2.2.output, h.2.2.size, h.2.2.block⟩ (Nat.le_refl _) _⟩
end Go.Proofs.YtmocfbglmahhjabGreatDoor.Seal
