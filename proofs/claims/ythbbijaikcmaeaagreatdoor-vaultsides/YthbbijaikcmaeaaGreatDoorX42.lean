/-
  Images as arguments: by value, in a slice, in slices of slices; bools in a slice. And what follows it.
-/
import Derived.Deep.Grids
import Derived.Deep.Slices
import Derived.Test.YthbbijaikcmaeaaGreatDoorX39
import Derived.Test.YthbbijaikcmaeaaGreatDoorX41
namespace Go.Proofs.YthbbijaikcmaeaaGreatDoor.Rec.Plain
set_option maxRecDepth 100000
end Go.Proofs.YthbbijaikcmaeaaGreatDoor.Rec.Plain
namespace Go.Proofs.YthbbijaikcmaeaaGreatDoor.Rec
set_option maxRecDepth 100000
open Go.ChangeShapes Go.WideShapes Go.RowKit Go.Proofs.YthbbijaikcmaeaaGreatDoor.Plain Go.Proofs.YthbbijaikcmaeaaGreatDoor.Rec.Plain
set_option linter.unusedVariables false
set_option maxRecDepth 100000
theorem list_of {α : Type} (P : Nat → α → Prop) : ∀ n : Nat, (∀ i, i < n → ∃ x, P i x) → ∃ L : List α, L.length = n ∧ ∀ i (hi : i < L.length), P i L[i]
  | 0, _ => ⟨[], rfl, fun i hi => by simp at hi⟩
  | n + 1, h => by
    obtain ⟨L, h1, h2⟩ := list_of P n (fun i hi => h i (by omega))
    obtain ⟨x, hx⟩ := h n (by omega)
    refine ⟨L ++ [x], by simp [h1], fun i hi => ?_⟩
    by_cases e : i < L.length
    · rw [List.getElem_append_left e]
      exact h2 i e
    · have : i = L.length := by simp at hi; omega
      subst this
      rw [List.getElem_append_right (Nat.le_refl _)]
      simp only [Nat.sub_self, List.getElem_cons_zero]
      rw [h1]
      exact hx
theorem cellsU : Tryz.prog.cellsOf 34 = 1 := by kernel_rfl
theorem cellsX : Tryz.prog.cellsOf 38 = 1 := by kernel_rfl
theorem cellsIm : Tryz.prog.cellsOf 41 = 2 := by kernel_rfl
def Byi (w : World) (m : Im) : Prop := Bytes w m.ba m.bl m.bs ∧ N64 m.blk ∧ m.bl ≤ m.bc ∧ m.bc ≤ maxLen
theorem open_imageL {H : Type} {enc : TypeId × Value → H} {W : World} {base : Nat} {held : Bool} {fuel : Nat} {cs : List Value} {x : DataW H × List MemPlace} (h : DataW.trod enc Tryz.prog W base (fun _ => true) held fuel 41 cs = some x) : ∃ m : Im, cs = imc m ∧ Byi W m := by
  obtain ⟨xs, k, hk, hxy, hl, hxl, hf⟩ := DataW.trod_struct Tryz.underlying41 h
  rw [cellsIm] at hl
  have hxl2 : xs.length = 2 := hxl
  match xs, hxl2, cs, hl with
  | [y0, y1], _, [v0, v1], _ =>
    have g0 := hf 0 _ rfl
    have g1 := hf 1 _ rfl
    simp [cellsU, cellsX] at g0 g1
    obtain ⟨z, e0, _, wz⟩ := DataW.trod_int Tryz.underlying34 g0
    simp only [List.cons.injEq, and_true] at e0
    subst e0
    have hb := bounds_u64 wz
    obtain ⟨xa, xl, xc, X, rfl, hX, h1, h2⟩ : ∃ xa xl xc X, v1 = .slice xa xl xc ∧ Bytes W xa xl X ∧ xl ≤ xc ∧ xc ≤ maxLen := by
      rcases open_ints Tryz.underlying38 Tryz.underlying5 (by kernel_rfl) g1 with ⟨hcs, _⟩ | ⟨x, l, c, zs, hcs, _, hl2, hm2, hz2, _, hcell2, hwz2⟩
      · simp only [List.cons.injEq, and_true] at hcs
        subst hcs
        exact ⟨none, 0, 0, [], rfl, ⟨rfl, fun i => by simp, fun h => by omega⟩, by decide, by decide⟩
      · simp only [List.cons.injEq, and_true] at hcs
        subst hcs
        have hr : IsRow .u8 W (some x) l c zs := .inr ⟨_, rfl, hl2, hm2, by simpa using hz2, hcell2, hwz2⟩
        exact ⟨_, _, _, _, rfl, hr.bytes, hl2, hm2⟩
    exact ⟨⟨z, xa, xl, xc, X⟩, rfl, hX, ⟨by show 0 ≤ z; omega, by show z ≤ 18446744073709551615; omega⟩, h1, h2⟩
theorem add_add' (b o i j : Nat) : ((⟨b, o, none⟩ : Addr).add i).add j = ⟨b, o + i + j, none⟩ := by
  rw [Addr.add_lit, Addr.add_lit]
theorem open_images {H : Type} {enc : TypeId × Value → H} {W : World} {base : Nat} {held : Bool} {fuel : Nat} {a : Option Addr} {len cap : Nat} {x : DataW H × List MemPlace} (h : DataW.trod enc Tryz.prog W base (fun _ => true) held fuel 24 [.slice a len cap] = some x) : ∃ M : List Im, M.length = len ∧ Imgs W a M ∧ len ≤ maxLen := by
  rcases Go.Deep.open_slice Tryz.underlying24 h with ⟨hcs, _⟩ | ⟨ad, l, c, m, n, D, Pl, hcs, hb, hl, hm, hmm, hx, hi⟩
  · simp only [List.cons.injEq, Value.slice.injEq, and_true] at hcs
    obtain ⟨rfl, rfl, rfl⟩ := hcs
    exact ⟨[], rfl, ⟨fun h => by simp at h, fun m hm => by simp at hm⟩, by decide⟩
  · simp only [List.cons.injEq, Value.slice.injEq, and_true] at hcs
    obtain ⟨rfl, rfl, rfl⟩ := hcs
    simp only [if_true] at hmm
    subst hmm
    rw [cellsIm] at hi
    by_cases h0 : len = 0
    · subst h0
      exact ⟨[], rfl, ⟨fun h => by simp at h, fun m hm => by simp at hm⟩, by decide⟩
    obtain ⟨b, o, rfl⟩ : ∃ b o, ad = ⟨b, o, none⟩ := by
      obtain ⟨cs', h1, _⟩ := hi 0 (by omega)
      obtain ⟨_, hlen, hcell⟩ := World.cells?_some h1
      have h2 := hcell 0 (by omega)
      obtain ⟨b, o, l⟩ := ad
      cases l with
      | none => exact ⟨b, o, rfl⟩
      | some l =>
        have h3 : (cs'[0]?).isSome = true := by simp [hlen]
        rw [← h2] at h3
        simp [Addr.add, World.cell?] at h3
        split at h3 <;> simp at h3
    obtain ⟨M, hM, hP⟩ := list_of (fun i m => W.rangeAt b (o + i * 2) (imc m) ∧ Byi W m ∧ b < W.heap.size) len (fun i hil => by
      obtain ⟨cs', h1, h2⟩ := hi i (by omega)
      obtain ⟨m, rfl, ok⟩ := open_imageL h2
      obtain ⟨_, hlen, hcell⟩ := World.cells?_some h1
      have hr : W.rangeAt b (o + i * 2) (imc m) := fun j v hv => by
        have hj : j < 2 := (List.getElem?_eq_some_iff.1 hv).1
        have h3 := hcell j hj
        rw [add_add', hv] at h3
        exact h3
      exact ⟨m, hr, ok, block_lt (hr 0 _ rfl)⟩)
    refine ⟨M, hM, ⟨fun hp => ⟨b, o, rfl, (hP 0 hp).2.2, fun i hi' => (hP i hi').1⟩, fun m hm => ?_⟩, Nat.le_trans hl hm⟩
    obtain ⟨i, hi', rfl⟩ := List.getElem_of_mem hm
    exact (hP i hi').2.1
def Bools (w : World) (a : Option Addr) (len : Nat) (K : List Bool) : Prop := K.length = len ∧ (0 < len → ∃ b off, a = some ⟨b, off, none⟩ ∧ b < w.heap.size ∧ ∀ i, i < len → w.cell? ⟨b, off + i, none⟩ = some (.bool (K.getD i false)))
theorem Bools.below {w w' : World} {a : Option Addr} {len : Nat} {K : List Bool} (h : Bools w a len K) (hb : Below w.heap.size w w') : Bools w' a len K := by
  refine ⟨h.1, fun h0 => ?_⟩
  obtain ⟨b, off, rfl, hbb, hc⟩ := h.2 h0
  exact ⟨b, off, rfl, Nat.lt_of_lt_of_le hbb hb.size, fun i hi => (hb.cell hbb).trans (hc i hi)⟩
structure Sx where
  a : Option Addr
  l : Nat
  c : Nat
  M : List Im
def slc (x : Sx) : List Value := [.slice x.a x.l x.c]
structure Igss (w : World) (a : Option Addr) (X : List Sx) : Prop where
  tb : Tb w a 1 slc X
  im : ∀ x ∈ X, x.M.length = x.l ∧ Imgs w x.a x.M ∧ x.l ≤ maxLen
theorem Igss.below {w w' : World} {a : Option Addr} {X : List Sx} (h : Igss w a X) (hb : Below w.heap.size w w') : Igss w' a X :=
  ⟨h.tb.below hb, fun x hx => ⟨(h.im x hx).1, (h.im x hx).2.1.below hb, (h.im x hx).2.2⟩⟩
theorem cellsSl : Tryz.prog.cellsOf 24 = 1 := by kernel_rfl
theorem open_imagess {H : Type} {enc : TypeId × Value → H} {W : World} {base : Nat} {held : Bool} {fuel : Nat} {a : Option Addr} {len cap : Nat} {x : DataW H × List MemPlace} (h : DataW.trod enc Tryz.prog W base (fun _ => true) held fuel 62 [.slice a len cap] = some x) : ∃ X : List Sx, X.length = len ∧ Igss W a X ∧ len ≤ maxLen := by
  rcases Go.Deep.open_slice Tryz.underlying62 h with ⟨hcs, _⟩ | ⟨ad, l, c, m, n, D, Pl, hcs, hb, hl, hm, hmm, hx, hi⟩
  · simp only [List.cons.injEq, Value.slice.injEq, and_true] at hcs
    obtain ⟨rfl, rfl, rfl⟩ := hcs
    exact ⟨[], rfl, ⟨fun h => by simp at h, fun m hm => by simp at hm⟩, by decide⟩
  · simp only [List.cons.injEq, Value.slice.injEq, and_true] at hcs
    obtain ⟨rfl, rfl, rfl⟩ := hcs
    simp only [if_true] at hmm
    subst hmm
    rw [cellsSl] at hi
    by_cases h0 : len = 0
    · subst h0
      exact ⟨[], rfl, ⟨fun h => by simp at h, fun m hm => by simp at hm⟩, by decide⟩
    obtain ⟨b, o, rfl⟩ : ∃ b o, ad = ⟨b, o, none⟩ := by
      obtain ⟨cs', h1, _⟩ := hi 0 (by omega)
      obtain ⟨_, hlen, hcell⟩ := World.cells?_some h1
      have h2 := hcell 0 (by omega)
      obtain ⟨b, o, l⟩ := ad
      cases l with
      | none => exact ⟨b, o, rfl⟩
      | some l =>
        have h3 : (cs'[0]?).isSome = true := by simp [hlen]
        rw [← h2] at h3
        simp [Addr.add, World.cell?] at h3
        split at h3 <;> simp at h3
    obtain ⟨X, hX, hP⟩ := list_of (fun i (x : Sx) => W.rangeAt b (o + i * 1) (slc x) ∧ (x.M.length = x.l ∧ Imgs W x.a x.M ∧ x.l ≤ maxLen) ∧ b < W.heap.size) len (fun i hil => by
      obtain ⟨cs', h1, h2⟩ := hi i (by omega)
      obtain ⟨_, hlen, hcell⟩ := World.cells?_some h1
      match cs', hlen with
      | [v], _ =>
        obtain ⟨sa, sl, sc, rfl⟩ : ∃ sa sl sc, v = .slice sa sl sc := by
          rcases Go.Deep.open_slice Tryz.underlying24 h2 with ⟨hcs, _⟩ | ⟨ad', l', c', _, _, _, _, hcs, _⟩
          · simp only [List.cons.injEq, and_true] at hcs
            exact ⟨_, _, _, hcs⟩
          · simp only [List.cons.injEq, and_true] at hcs
            exact ⟨_, _, _, hcs⟩
        obtain ⟨M, hM, hI, hml⟩ := open_images h2
        have hr : W.rangeAt b (o + i * 1) (slc ⟨sa, sl, sc, M⟩) := fun j v hv => by
          have hj : j < 1 := (List.getElem?_eq_some_iff.1 hv).1
          have h3 := hcell j hj
          rw [add_add'] at h3
          exact h3.trans hv
        exact ⟨⟨sa, sl, sc, M⟩, hr, ⟨hM, hI, hml⟩, block_lt (hr 0 _ rfl)⟩)
    refine ⟨X, hX, ⟨fun hp => ⟨b, o, rfl, (hP 0 hp).2.2, fun i hi' => (hP i hi').1⟩, fun m hm => ?_⟩, Nat.le_trans hl hm⟩
    obtain ⟨i, hi', rfl⟩ := List.getElem_of_mem hm
    exact (hP i hi').2.1
end Go.Proofs.YthbbijaikcmaeaaGreatDoor.Rec
namespace Go.Proofs.YthbbijaikcmaeaaGreatDoor
set_option maxRecDepth 100000
set_option linter.unusedVariables false
open Go.RowKit Go.Shelf Plain Go.Proofs.YthbbijaikcmaeaaGreatDoor.Shap.Plain
def bk40 (f : Nat → Bool) : Array Value := ((List.range 40).map (fun j => Value.bool (f j))).toArray
def ik16 (g : Nat → Int) : Array Value := ((List.range 16).map (fun j => Value.int .i64 (g j))).toArray
def cntOf (side : Nat → Int) (j : Nat) : Bool := decide (j < 32 ∧ side (j / 2) = ((j % 2 : Nat) : Int))
theorem bk40_congr {f g : Nat → Bool} (h : ∀ j, j < 40 → f j = g j) : bk40 f = bk40 g := by
  unfold bk40
  congr 1
  exact List.map_congr_left (fun j hj => by rw [h j (List.mem_range.1 hj)])
theorem ik16_congr {f g : Nat → Int} (h : ∀ j, j < 16 → f j = g j) : ik16 f = ik16 g := by
  unfold ik16
  congr 1
  exact List.map_congr_left (fun j hj => by rw [h j (List.mem_range.1 hj)])
def f40 : Nat → Bool := fun _ => false
def z16 : Nat → Int := fun _ => 0
theorem zero40 : (Tryz.prog.info? 63).map (·.zero) = some (some (.agg (bk40 f40))) := by kernel_rfl
theorem zero16 : (Tryz.prog.info? 64).map (·.zero) = some (some (.agg (ik16 z16))) := by kernel_rfl
theorem bk40_get (f : Nat → Bool) (j : Nat) (h : j < 40) : (bk40 f)[j]? = some (.bool (f j)) := by simp [bk40, h]
theorem ik16_get (f : Nat → Int) (j : Nat) (h : j < 16) : (ik16 f)[j]? = some (.int .i64 (f j)) := by simp [ik16, h]
theorem range_set {α : Type} (n j : Nat) (f : Nat → α) (v : α) (hj : j < n) : ((List.range n).map f).set j v = (List.range n).map (fun x => if x = j then v else f x) := by
  apply List.ext_getElem
  · simp
  · intro i h1 h2
    simp only [List.length_map, List.length_range] at h2
    rw [List.getElem_set]
    simp only [List.getElem_map, List.getElem_range]
    by_cases e : j = i
    · rw [if_pos e, if_pos e.symm]
    · rw [if_neg e, if_neg (fun h => e h.symm)]
theorem bk40_set {w : World} {C : Nat} {f : Nat → Bool} {t : TypeId} (h : w.heap[C]? = some (.cells (bk40 f) t (0, 0))) (j : Nat) (hj : j < 40) (b : Bool) : (w.setCell ⟨C, j, none⟩ (.bool b)).heap[C]? = some (.cells (bk40 (fun x => if x = j then b else f x)) t (0, 0)) := by
  rw [heap_setCell_same w C j _ t _ h]
  unfold bk40
  rw [List.setIfInBounds_toArray, range_set 40 j _ _ hj]
  congr 4
  funext x
  by_cases e : x = j
  · simp only [if_pos e]
  · simp only [if_neg e]
theorem ik16_set {w : World} {C : Nat} {f : Nat → Int} {t : TypeId} (h : w.heap[C]? = some (.cells (ik16 f) t (0, 0))) (j : Nat) (hj : j < 16) (b : Int) : (w.setCell ⟨C, j, none⟩ (.int .i64 b)).heap[C]? = some (.cells (ik16 (fun x => if x = j then b else f x)) t (0, 0)) := by
  rw [heap_setCell_same w C j _ t _ h]
  unfold ik16
  rw [List.setIfInBounds_toArray, range_set 16 j _ _ hj]
  congr 4
  funext x
  by_cases e : x = j
  · simp only [if_pos e]
  · simp only [if_neg e]
theorem bk40_cell {w : World} {C : Nat} {f : Nat → Bool} {t : TypeId} (h : w.heap[C]? = some (.cells (bk40 f) t (0, 0))) (j : Nat) (hj : j < 40) : w.cell? ⟨C, j, none⟩ = some (.bool (f j)) ∧ w.frozen? ⟨C, j, none⟩ = false :=
  ⟨by rw [cell_of_row _ _ _ _ _ _ h]; exact bk40_get f j hj, frozen_of_row _ _ _ _ _ h⟩
theorem ik16_cell {w : World} {C : Nat} {f : Nat → Int} {t : TypeId} (h : w.heap[C]? = some (.cells (ik16 f) t (0, 0))) (j : Nat) (hj : j < 16) : w.cell? ⟨C, j, none⟩ = some (.int .i64 (f j)) ∧ w.frozen? ⟨C, j, none⟩ = false :=
  ⟨by rw [cell_of_row _ _ _ _ _ _ h]; exact ik16_get f j hj, frozen_of_row _ _ _ _ _ h⟩
theorem vc_turned {w0 w w' : World} {V D : Nat} {fp : Nat → Prop} {v : Vt} {d : Disk.Dk} {sa : Option Addr} {sc : Nat} {M : Nat → Prop} (h : VC w0 w V D fp v d sa sc) (t : Disk.Turned M w w') (hM : Mn M w0 w V fp) (hsa : ∀ ad, sa = some ad → ¬ M ad.block) : VC w0 w' V D fp v d sa sc := by
  have hS := ints_lt h.ints (wid_pos _)
  refine ⟨⟨h.cx.is.same (fun k hk hl => t.block k hl (fun hm => hM.nf k hm hk)), h.cx.bel.trans (t.below h.cx.bel.size hM.lo), h.cx.lo, fun k hk => Nat.lt_of_lt_of_le (h.cx.hi k hk) t.size⟩, (t.block V h.lt (fun hm => hM.nv V hm rfl)).trans h.row, ints_same h.ints (fun ad e => t.block _ (hS ad e) (hsa ad e)) t.size, h.lo, h.nV, h.nS, fun k hk => ?_, h.ok, h.fit, h.dig, h.tab⟩
  obtain ⟨cs, ty, e⟩ := h.cells k hk
  exact ⟨cs, ty, (t.block k (Array.getElem?_eq_some_iff.1 e).1 (fun hm => hM.nf k hm hk)).trans e⟩
theorem Mn.turned {M M' : Nat → Prop} {w0 w w' : World} {V : Nat} {fp : Nat → Prop} (h : Mn M w0 w V fp) (t : Disk.Turned M' w w') : Mn M w0 w' V fp := ⟨fun k hk => Nat.lt_of_lt_of_le (h.lt k hk) t.size, h.nf, h.nv, h.lo⟩
theorem turned_set {M : Nat → Prop} {w w' : World} (t : Disk.Turned M w w') (C i : Nat) (v : Value) (hC : M C) : Disk.Turned M w (w'.setCell ⟨C, i, none⟩ v) :=
  ⟨t.os, t.tape, t.output, by simpa using t.size, fun k hk hn => (heap_setCell_other w' ⟨C, i, none⟩ k v (fun e => hn (by have e' : k = C := e; rw [e']; exact hC))).trans (t.block k hk hn)⟩
theorem turned_below {M : Nat → Prop} {a b c : World} (t : Disk.Turned M a b) (h : Below b.heap.size b c) : Disk.Turned M a c :=
  ⟨h.os.trans t.os, h.tape.trans t.tape, h.output.trans t.output, Nat.le_trans t.size h.size, fun k hk hn => (h.block k (Nat.lt_of_lt_of_le hk t.size)).trans (t.block k hk hn)⟩
structure Ss (x1 wr : World) (V D : Nat) (fp : Nat → Prop) (K : List Int) (sa : Option Addr) (sc C E i : Nat) (d : Disk.Dk) (nx : Int) (top : Rf) (side : Nat → Int) : Prop where
  vc : VC x1 wr V D fp ⟨K, 6, top, nx, 1099511627776⟩ d sa sc
  sd : Sd K d nx top side
  nxb : nx ≤ 1 + 9 * (i : Int)
  ops : d.ops.length ≤ 30000 * i
  left : 0 ≤ d.left ∧ d.left ≤ 9223372036854775807
  mn : Mn (fun c => c = C ∨ c = E) x1 wr V fp
  ct : wr.heap[C]? = some (.cells (bk40 (cntOf side)) 63 (0, 0))
  st : wr.heap[E]? = some (.cells (ik16 side) 64 (0, 0))
  dn : d.n = 40
theorem cnt_start : cntOf (fun _ => -1) = f40 := by
  funext j
  unfold cntOf f40
  rw [decide_eq_false_iff_not]
  rintro ⟨_, h⟩
  have h2 : (-1 : Int) = ((j % 2 : Nat) : Int) := h
  omega
theorem exec_strC {o : Oper} {ρ : Operand → Value} {w' : World} (x y : Operand) (ty : TypeId) (ho : o.op = .binOp .neq 9 x y ty) (A B : List Int) (b : Bool) (hb : (!decide (A = B)) = b) (hA : Byt A) (hB : Byt B) (hx : ρ x = .string (strOfNums A)) (hy : ρ y = .string (strOfNums B)) :
    (execOp ρ o).run Tryz.prog w' = .ok (.value (.bool b)) w' := by
  rw [Rec.exec_strN x y ty ho A B hA hB hx hy, hb]
theorem info62 : (Tryz.prog.info? 24).map (·.size) = some 1 := by kernel_rfl
end Go.Proofs.YthbbijaikcmaeaaGreatDoor
