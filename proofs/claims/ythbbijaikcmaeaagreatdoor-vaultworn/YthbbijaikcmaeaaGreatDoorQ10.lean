/-
  What the Go methods Flush and Crash of package disk do, and Write where it refuses or stops, for every disk. And what follows it.
-/
import Derived.Test.YthbbijaikcmaeaaGreatDoorQ09
namespace Go.Proofs.YthbbijaikcmaeaaGreatDoor.Disk.Plain
set_option maxRecDepth 100000
end Go.Proofs.YthbbijaikcmaeaaGreatDoor.Disk.Plain
namespace Go.Proofs.YthbbijaikcmaeaaGreatDoor.Disk
set_option maxRecDepth 100000
set_option linter.unusedVariables false
set_option maxRecDepth 100000
open Go.RowKit Go.Proofs.YthbbijaikcmaeaaGreatDoor.Plain Go.Proofs.YthbbijaikcmaeaaGreatDoor.Disk.Plain
set_option maxRecDepth 20000 in
set_option maxHeartbeats 2000000 in
theorem write_down (w : World) (D : Nat) (fp : Nat → Prop) (d : Dk) (h : Is w D fp d) (i : Int) (a : Option Addr) (len cap : Nat) (hd : d.down = true) :
    Calls Tryz.prog 55 #[.pointer (some ⟨D, 0, none⟩), .int .i64 i, .slice a len cap] w fun e w' => e = .returned (.int .i64 13) ∧ w = w' := by
  obtain ⟨P, uv, ov, h1, h2⟩ := h
  have H := ready_any w D P uv ov d h1
  rw [show rdy d = 13 by simp [rdy, hd]] at H
  have HR : Box _ := ⟨H⟩
  clear H h1 h2 hd
  go_enter Tryz.func55, Tryz.ntmps55
  go_wp2_with (go_at_call 32; refine HR.out.mono ?_; rintro e w' ⟨rfl, rfl⟩)
  go_ret
  exact ⟨rfl, rfl⟩
set_option maxRecDepth 20000 in
set_option maxHeartbeats 2000000 in
theorem write_stop (w : World) (D : Nat) (fp : Nat → Prop) (d : Dk) (h : Is w D fp d) (i : Int) (a : Option Addr) (len cap : Nat) (hd : d.down = false) (hf : fit d i len = 0) (hs : d.st = true) (hl : d.left = 0) :
    Calls Tryz.prog 55 #[.pointer (some ⟨D, 0, none⟩), .int .i64 i, .slice a len cap] w fun e w' => e = .returned (.int .i64 13) ∧ Nx D fp w w' { d with down := true } := by
  obtain ⟨P, uv, ov, h1, h2⟩ := h
  have H := ready_any w D P uv ov d h1
  rw [show rdy d = 0 by simp [rdy, hd]] at H
  have HR : Box _ := ⟨H⟩
  have H2 := fits_any w D P uv ov d h1 i a len cap
  rw [hf] at H2
  have HH : Box _ := ⟨H2⟩
  obtain ⟨-, -, -, c3, c4, c5, fz⟩ := h1.cells
  have f3 := fz 3
  have HX : Box _ := ⟨h1.set3 h2 true⟩
  rw [hs] at c4
  rw [hl] at c5
  clear H H2 h1 h2 hd hf hs hl fz
  go_enter Tryz.func55, Tryz.ntmps55
  go_wp2_with (first
    | (go_at_call 32; refine HR.out.mono ?_; rintro e w' ⟨rfl, rfl⟩)
    | (go_at_call 36; refine HH.out.mono ?_; rintro e w' ⟨rfl, rfl⟩))
  go_ret
  exact ⟨rfl, HX.out⟩
/-- A place's bytes laid anew. -/
def upd (pl : Nat → List Int) (p : Nat) (b : List Int) : Nat → List Int := fun k => if k = p then b else pl k
/-- Writes done, in order. -/
def lay (L : List (Nat × List Int)) (pl : Nat → List Int) : Nat → List Int := L.foldl (fun f x => upd f x.1 x.2) pl
theorem splice_get {α : Type} (L vs : List α) (o k : Nat) (h : o + vs.length ≤ L.length) : (splice L o vs)[k]? = if o ≤ k ∧ k < o + vs.length then vs[k - o]? else L[k]? := by
  unfold splice
  have h1 : (L.take o).length = o := by simp; omega
  by_cases hk : k < o
  · rw [List.getElem?_append_left (by omega), List.getElem?_take, if_pos hk, if_neg (by omega)]
  · by_cases hk2 : k < o + vs.length
    · rw [List.getElem?_append_right (by omega), h1, List.getElem?_append_left (by omega), if_pos ⟨by omega, hk2⟩]
    · rw [List.getElem?_append_right (by omega), List.getElem?_append_right (by omega), h1, if_neg (by omega), List.getElem?_drop]
      congr 1
      omega
theorem pls_upd {cs : Array Value} {n p : Nat} {pl : Nat → List Int} {b : List Int} (h : Pls cs n pl) (hp : p < n) (hb : b.length = 192) : Pls (splice cs.toList (p * 192) (u8s b).toList).toArray n (upd pl p b) := by
  have hl : (u8s b).toList.length = 192 := by rw [Array.length_toList, size_u8s, hb]
  have hfit : p * 192 + 192 ≤ cs.size := by
    rw [h.1, Nat.mul_comm, ← Nat.mul_succ]
    exact Nat.mul_le_mul_left _ hp
  refine ⟨?_, fun i hi j hj => ?_⟩
  · simp only [List.size_toArray, splice, List.length_append, List.length_take, List.length_drop, hl, Array.length_toList]
    have := h.1
    omega
  · rw [List.getElem?_toArray, splice_get _ _ _ _ (by rw [hl, Array.length_toList]; exact hfit), hl]
    by_cases he : i = p
    · subst he
      rw [if_pos (by omega)]
      have e : 192 * i + j - i * 192 = j := by omega
      rw [e]
      simp only [upd, if_true]
      simp [u8s, List.getD, show j < b.length by omega]
    · have hne : ¬ (p * 192 ≤ 192 * i + j ∧ 192 * i + j < p * 192 + 192) := by
        intro ⟨h1, h2⟩
        apply he
        omega
      rw [if_neg hne, Array.getElem?_toList, h.2 i hi j hj]
      simp [upd, he]
/-- What the statement that lays a write down reads. -/
structure Lay (wd : World) (D P Bx n : Nat) (p : Nat) (b : List Int) : Prop where
  c0 : wd.cell? ⟨D, 0, none⟩ = some (.slice (some ⟨P, 0, none⟩) n n)
  n0 : D ≠ P
  cx : wd.cell? ⟨Bx, 0, none⟩ = some (.int .i64 (p : Int))
  rx : wd.rangeAt Bx 1 (b.map (Value.int .u8))
  nx : Bx ≠ P
  iz : (Tryz.prog.info? 93).map (·.size) = some (b.map (Value.int .u8)).length
  iy : (Tryz.prog.info? 93).map (·.size) = some (u8s b).size
  th : wd.there P (p * 192) (u8s b).size
theorem Lay.drew {w wd : World} {D P Bx n : Nat} {p : Nat} {b : List Int} (h : Lay w D P Bx n p b) (hwd : wd = w.drew) : Lay wd D P Bx n p b := by
  subst hwd
  exact ⟨h.c0, h.n0, h.cx, h.rx, h.nx, h.iz, h.iy, h.th⟩
/-- A place laid down. -/
theorem At.laid {w wd : World} {D P : Nat} {uv ov : Value} {d : Dk} (h : At w D P uv ov d) (hb : Below w.heap.size w wd) (p : Nat) (b : List Int) (hp : p < d.n) (hl : b.length = 192 ∧ Byt b) :
    At (wd.setCells P (p * 192) (u8s b).toList) D P uv ov { d with pl := upd d.pl p b } ∧ Turned (foot D P uv ov) w (wd.setCells P (p * 192) (u8s b).toList) := by
  have h2 := h.below hb
  obtain ⟨cs, hP, hPs⟩ := h2.hp
  have hfit : p * 192 + 192 ≤ cs.size := by
    rw [hPs.1, Nat.mul_comm, ← Nat.mul_succ]
    exact Nat.mul_le_mul_left _ hp
  have hc := heap_setCells P _ (u8s b).toList (p * 192) wd cs hP (by rw [Array.length_toList, size_u8s, hl.1]; exact hfit)
  have ho : ∀ k, k ≠ P → (wd.setCells P (p * 192) (u8s b).toList).heap[k]? = wd.heap[k]? := fun k hk => heap_setCells_other P k hk _ _ _
  have hbt := but_setCells P (u8s b).toList (p * 192) wd wd (But.refl _ _)
  refine ⟨⟨by rw [ho D h.neP]; exact h2.hd, ⟨_, hc, pls_upd hPs hp hl.1⟩, fun i => ?_, h.hn, own_same h2.hu (fun k hk => ho k (ne_blk h.neU.2 hk)), h.huw, own_same h2.ho (fun k hk => ho k (ne_blk h.neO.2 hk)), h.neP, h.neU, h.neO, h.neUO⟩, ⟨hbt.os.trans hb.os, hbt.tape.trans hb.tape, hbt.output.trans hb.output, Nat.le_trans hb.size hbt.size, fun k hk hn => ?_⟩⟩
  · simp only [upd]
    split
    · exact hl
    · exact h.hpl i
  · rw [ho k (fun e => hn (.inr (.inl e)))]
    exact hb.block k hk
end Go.Proofs.YthbbijaikcmaeaaGreatDoor.Disk
namespace Go.Proofs.YthbbijaikcmaeaaGreatDoor.Disk.Plain
set_option maxRecDepth 100000
end Go.Proofs.YthbbijaikcmaeaaGreatDoor.Disk.Plain
namespace Go.Proofs.YthbbijaikcmaeaaGreatDoor.Disk
set_option maxRecDepth 100000
set_option linter.unusedVariables false
open Go.RowKit Go.Proofs.YthbbijaikcmaeaaGreatDoor.Plain Go.Proofs.YthbbijaikcmaeaaGreatDoor.Disk.Plain
/-- A row of truth values in memory. -/
def Bools (w : World) (a : Option Addr) (len : Nat) (K : List Bool) : Prop := K.length = len ∧ (0 < len → ∃ b off, a = some ⟨b, off, none⟩ ∧ b < w.heap.size ∧ ∀ i, i < len → w.cell? ⟨b, off + i, none⟩ = some (.bool (K.getD i false)))
theorem Bools.turned {fp : Nat → Prop} {w w' : World} {a : Option Addr} {len : Nat} {K : List Bool} (h : Bools w a len K) (t : Turned fp w w') (hn : ∀ ad, a = some ad → 0 < len → ¬ fp ad.block) : Bools w' a len K := by
  refine ⟨h.1, fun h0 => ?_⟩
  obtain ⟨b, off, rfl, hb, hc⟩ := h.2 h0
  exact ⟨b, off, rfl, Nat.lt_of_lt_of_le hb t.size, fun i hi => t.cell (hc i hi) (hn ⟨b, off, none⟩ rfl h0)⟩
/-- The writes that are kept. -/
def kp (L : List (Nat × List Int)) (K : List Bool) : List (Nat × List Int) := (L.zipIdx.filter (fun x => K.getD x.2 false)).map Prod.fst
def crOk (d : Dk) (K : List Bool) : Dk := { d with pl := lay (kp d.uw K) d.pl, uw := [], down := false, st := false, left := 0 }
end Go.Proofs.YthbbijaikcmaeaaGreatDoor.Disk
namespace Go.Proofs.YthbbijaikcmaeaaGreatDoor.Disk.Plain
set_option maxRecDepth 100000
end Go.Proofs.YthbbijaikcmaeaaGreatDoor.Disk.Plain
namespace Go.Proofs.YthbbijaikcmaeaaGreatDoor.Disk
set_option maxRecDepth 100000
set_option linter.unusedVariables false
open Go.RowKit Go.Proofs.YthbbijaikcmaeaaGreatDoor.Plain Go.Proofs.YthbbijaikcmaeaaGreatDoor.Disk.Plain
/-- A disk of a call's own: all its blocks are newer than w0's. -/
structure Cx (w0 w : World) (D : Nat) (fp : Nat → Prop) (d : Dk) : Prop where
  is : Is w D fp d
  bel : Below w0.heap.size w0 w
  lo : ∀ k, fp k → w0.heap.size ≤ k
  hi : ∀ k, fp k → k < w.heap.size
/-- What follows: nothing but the disk's blocks has turned, and it has taken none of another's. -/
structure Fol (w : World) (fp : Nat → Prop) (w' : World) (fp' : Nat → Prop) : Prop where
  t : Turned fp w w'
  k : ∀ k, k < w.heap.size → ¬ fp k → ¬ fp' k
/-- A row of bytes that is not the disk's. -/
structure Loc (w : World) (fp : Nat → Prop) (g : Nat) (B : List Int) (t : TypeId) : Prop where
  row : w.heap[g]? = some (.cells (u8s B) t (0, 0))
  no : ¬ fp g
theorem Loc.lt {w : World} {fp : Nat → Prop} {g : Nat} {B : List Int} {t : TypeId} (h : Loc w fp g B t) : g < w.heap.size := (Array.getElem?_eq_some_iff.1 h.row).1
theorem Loc.fol {w w' : World} {fp fp' : Nat → Prop} {g : Nat} {B : List Int} {t : TypeId} (h : Loc w fp g B t) (f : Fol w fp w' fp') : Loc w' fp' g B t :=
  ⟨(f.t.block g h.lt h.no).trans h.row, f.k g h.lt h.no⟩
theorem Loc.below {w w' : World} {fp : Nat → Prop} {g : Nat} {B : List Int} {t : TypeId} (h : Loc w fp g B t) (hb : Below w.heap.size w w') : Loc w' fp g B t := ⟨(hb.block g h.lt).trans h.row, h.no⟩
theorem Loc.bytes {w : World} {fp : Nat → Prop} {g : Nat} {B : List Int} {t : TypeId} (h : Loc w fp g B t) (hB : Byt B) (n : Nat) (hn : B.length = n) : Bytes w (some ⟨g, 0, none⟩) n B := by
  subst hn
  exact bytes_of_row hB h.row
theorem Cx.step {w0 w w' : World} {D : Nat} {fp : Nat → Prop} {d : Dk} (h : Cx w0 w D fp d) (hb : Below w.heap.size w w') : Cx w0 w' D fp d :=
  ⟨h.is.below hb, below_to h.bel hb, h.lo, fun k hk => Nat.lt_of_lt_of_le (h.hi k hk) hb.size⟩
theorem Cx.nx {w0 w w' : World} {D : Nat} {fp : Nat → Prop} {d d' : Dk} (h : Cx w0 w D fp d) (n : Nx D fp w w' d') : ∃ fp', Cx w0 w' D fp' d' ∧ Fol w fp w' fp' := by
  obtain ⟨f, i, t, s⟩ := n
  refine ⟨_, ⟨i.cut, h.bel.trans (t.below h.bel.size h.lo), fun k hk => ?_, fun k hk => hk.2⟩, ⟨t, fun k hk hn hf => (s k hf.1).elim hn (fun h => by omega)⟩⟩
  rcases s k hk.1 with h1 | h1
  · exact h.lo k h1
  · exact Nat.le_trans h.bel.size h1
theorem Cx.set {w0 w : World} {D : Nat} {fp : Nat → Prop} {d : Dk} (h : Cx w0 w D fp d) (g i : Nat) (v : Value) (hn : ¬ fp g) (hg : w0.heap.size ≤ g) : Cx w0 (w.setCell ⟨g, i, none⟩ v) D fp d :=
  ⟨h.is.same (fun k hk _ => heap_setCell_other w ⟨g, i, none⟩ k _ (fun e => hn (by have e' : g = k := e.symm; rw [e']; exact hk))), below_set h.bel hg v, h.lo, fun k hk => by simpa using h.hi k hk⟩
theorem Loc.set {w : World} {fp : Nat → Prop} {g : Nat} {B : List Int} {t : TypeId} (h : Loc w fp g B t) (i : Nat) (z : Int) : Loc (w.setCell ⟨g, i, none⟩ (.int .u8 z)) fp g (B.set i z) t :=
  ⟨by rw [heap_setCell_same w g i _ t _ h.row, u8s_set], h.no⟩
theorem Loc.other {w : World} {fp : Nat → Prop} {g g' : Nat} {B : List Int} {t : TypeId} (h : Loc w fp g B t) (i : Nat) (v : Value) (hne : g ≠ g') : Loc (w.setCell ⟨g', i, none⟩ v) fp g B t :=
  ⟨by rw [heap_setCell_other w ⟨g', i, none⟩ g _ hne]; exact h.row, h.no⟩
theorem Loc.new {w : World} {fp : Nat → Prop} (hf : ∀ k, fp k → k < w.heap.size) (B : List Int) (t : TypeId) : Loc (w.alloc (.cells (u8s B) t)) fp w.heap.size B t := ⟨al_at rfl, fun h => by have := hf _ h; omega⟩
theorem cx_new {w w' : World} {n : Nat} (i : Is w' (w.heap.size + 1) (fun k => w.heap.size ≤ k) (dk0 n)) (b : Below w.heap.size w w') : ∃ fp, Cx w w' (w.heap.size + 1) fp (dk0 n) :=
  ⟨_, i.cut, b, fun k hk => hk.1, fun k hk => hk.2⟩
theorem new_cx (w : World) (n : Nat) (hn : 1 ≤ n ∧ n ≤ 4096) : Calls Tryz.prog 8 #[.int .i64 (n : Int)] w fun e w' => e = .returned (.tuple #[.pointer (some ⟨w.heap.size + 1, 0, none⟩), .int .i64 0]) ∧ ∃ fp, Cx w w' (w.heap.size + 1) fp (dk0 n) :=
  (new_any w n hn).mono fun e w' ⟨h1, h2, h3⟩ => ⟨h1, cx_new h2 h3⟩
theorem write_cx {w0 w : World} {D : Nat} {fp : Nat → Prop} {d : Dk} (C : Cx w0 w D fp d) (i : Nat) (a : Option Addr) (cap : Nat) (B : List Int) (hB : Bytes w a 192 B) (hap : ∀ ad, a = some ad → ¬ fp ad.block) (hd : d.down = false) (hi : i < d.n) (hst : d.st = true → d.left ≠ 0) (hl : 0 ≤ d.left ∧ d.left ≤ 9223372036854775807) (ho : d.ops.length < 1000000) (hu : d.uw.length < 1000000) :
    Calls Tryz.prog 55 #[.pointer (some ⟨D, 0, none⟩), .int .i64 (i : Int), .slice a 192 cap] w fun e w' => e = .returned (.int .i64 0) ∧ ∃ fp', Cx w0 w' D fp' (wrOk d i B) ∧ Fol w fp w' fp' :=
  (write_ok w D fp d C.is i a cap B hB hap hd hi hst hl ho hu).mono fun e w' ⟨h1, h2⟩ => ⟨h1, C.nx h2⟩
theorem read_cx {w0 w : World} {D : Nat} {fp : Nat → Prop} {d : Dk} (C : Cx w0 w D fp d) (i : Nat) (hd : d.down = false) (hi : i < d.n) (ho : d.ops.length < 1000000) (hu : d.uw.length < 1000000) :
    Calls Tryz.prog 65 #[.pointer (some ⟨D, 0, none⟩), .int .i64 (i : Int)] w fun e w' =>
      ∃ R fp', e = .returned (.tuple #[.slice (some ⟨R, 0, none⟩) 192 192, .int .i64 0]) ∧ Cx w0 w' D fp' (rdOk d i) ∧ Fol w fp w' fp' ∧ Loc w' fp' R (lat d i) 93 ∧ w.heap.size ≤ R ∧ (lat d i).length = 192 ∧ Byt (lat d i) := by
  have hlen : (lat d i).length = 192 ∧ Byt (lat d i) := by
    obtain ⟨P, uv, ov, h1, _⟩ := C.is
    exact length_lat h1 i
  refine (read_ok w D fp d C.is i hd hi (by omega) (by omega)).mono ?_
  rintro e w' ⟨R, fp', rfl, h1, h2, h3, h4, h5, h6⟩
  refine ⟨R, _, rfl, ⟨h1.cut, C.bel.trans (h2.below C.bel.size C.lo), fun k hk => ?_, fun k hk => hk.2⟩, ⟨h2, fun k hk hn hf => (h3 k hf.1).elim hn (fun h => by omega)⟩, ⟨h6, fun h => h4 h.1⟩, h5, hlen⟩
  rcases h3 k hk.1 with h7 | h7
  · exact C.lo k h7
  · exact Nat.le_trans C.bel.size h7
theorem size_cx {w0 w : World} {D : Nat} {fp : Nat → Prop} {d : Dk} (C : Cx w0 w D fp d) : Calls Tryz.prog 24 #[.pointer (some ⟨D, 0, none⟩)] w fun e w' => e = .returned (.int .i64 (d.n : Int)) ∧ w = w' := by
  obtain ⟨P, uv, ov, h1, _⟩ := C.is
  exact size_any w D P uv ov d h1
theorem pending_cx {w0 w : World} {D : Nat} {fp : Nat → Prop} {d : Dk} (C : Cx w0 w D fp d) : Calls Tryz.prog 21 #[.pointer (some ⟨D, 0, none⟩)] w fun e w' => e = .returned (.int .i64 (d.uw.length : Int)) ∧ w = w' := by
  obtain ⟨P, uv, ov, h1, _⟩ := C.is
  exact pending_any w D P uv ov d h1
end Go.Proofs.YthbbijaikcmaeaaGreatDoor.Disk
namespace Go.Proofs.YthbbijaikcmaeaaGreatDoor.Disk.Plain
set_option maxRecDepth 100000
end Go.Proofs.YthbbijaikcmaeaaGreatDoor.Disk.Plain
namespace Go.Proofs.YthbbijaikcmaeaaGreatDoor.Disk
set_option maxRecDepth 100000
set_option linter.unusedVariables false
open Go.RowKit Go.Proofs.YthbbijaikcmaeaaGreatDoor.Plain Go.Proofs.YthbbijaikcmaeaaGreatDoor.Disk.Plain
theorem lastOf_snoc (L : List (Nat × List Int)) (x : Nat × List Int) (j : Nat) : lastOf (L ++ [x]) j = if x.1 = j then some x.2 else lastOf L j := by
  unfold lastOf
  rw [List.reverse_append]
  simp only [List.reverse_cons, List.reverse_nil, List.nil_append, List.cons_append, List.find?_cons]
  by_cases h : x.1 = j
  · simp [h]
  · have : (x.1 == j) = false := by simpa using h
    simp [this, h]
theorem lat_wr (d : Dk) (i j : Nat) (B : List Int) : lat (wrOk d i B) j = if i = j then B else lat d j := by
  unfold lat
  rw [show (wrOk d i B).uw = d.uw ++ [(i, B)] from rfl, lastOf_snoc]
  split <;> rfl
/-- The bytes that the example writes, and its disk behind each call. -/
def b7 : List Int := z192.set 0 7
def a1 : Dk := wrOk (dk0 2) 1 b7
def a2 : Dk := rdOk a1 1
def a3 : Dk := crOk a2 []
def a4 : Dk := rdOk a3 1
end Go.Proofs.YthbbijaikcmaeaaGreatDoor.Disk
