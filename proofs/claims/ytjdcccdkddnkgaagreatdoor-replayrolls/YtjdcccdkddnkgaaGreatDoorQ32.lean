/-
  Images as arguments: by value, in a slice, in slices of slices; bools in a slice. And what follows it.
-/
import Derived.Deep.Grids
import Derived.Deep.Slices
import Derived.Test.YtjdcccdkddnkgaaGreatDoorQ22
import Derived.Test.YtjdcccdkddnkgaaGreatDoorCards
import Derived.Test.YtjdcccdkddnkgaaGreatDoorTie
import Derived.ProofKit
import Derived.OpenShut
import Derived.ShutString
import Derived.ChangeOld
import Derived.Below
import Derived.Deep.DeepHandedRow
import Derived.Lib.LaidTab
import Derived.Test.YtjdcccdkddnkgaaGreatDoorQ31
import Derived.Test.YtjdcccdkddnkgaaGreatDoorQ01
import Derived.Test.YtjdcccdkddnkgaaGreatDoorQ14
import Derived.Test.YtjdcccdkddnkgaaGreatDoorQ28
namespace Go.Proofs.YtjdcccdkddnkgaaGreatDoor
set_option maxRecDepth 100000
open Go.ChangeShapes Go.WideShapes Go.RowKit Go.Proofs.YtjdcccdkddnkgaaGreatDoor.Plain
set_option linter.unusedVariables false
set_option maxRecDepth 100000
theorem list_of {α : Type} (P : Nat → α → Prop) : ∀ n : Nat, (∀ i, i < n → ∃ x, P i x) → ∃ L : List α, L.length = n ∧ ∀ i (hi : i < L.length), P i L[i]
  | 0, _ => ⟨[], rfl, fun i hi => by simp at hi⟩
  | n + 1, h => by
    obtain ⟨L, h1, h2⟩ := list_of P n (fun i hi => h i (by omega))
    obtain ⟨x, hx⟩ := h n (by omega)
    refine ⟨L ++ [x], by simp [h1], fun i hi => ?_⟩
    by_cases e : i < L.length
    · rw [List.getElem_append_left e]
      exact h2 i e
    · have : i = L.length := by simp at hi; omega
      subst this
      rw [List.getElem_append_right (Nat.le_refl _)]
      simp only [Nat.sub_self, List.getElem_cons_zero]
      rw [h1]
      exact hx
theorem cellsU : Tryz.prog.cellsOf 25 = 1 := by kernel_rfl
theorem cellsX : Tryz.prog.cellsOf 57 = 1 := by kernel_rfl
theorem cellsIm : Tryz.prog.cellsOf 76 = 2 := by kernel_rfl
def Byi (w : World) (m : Im) : Prop := Bytes w m.ba m.bl m.bs ∧ N64 m.blk ∧ m.bl ≤ m.bc ∧ m.bc ≤ maxLen
theorem open_imageL {H : Type} {enc : TypeId × Value → H} {W : World} {base : Nat} {held : Bool} {fuel : Nat} {cs : List Value} {x : DataW H × List MemPlace} (h : DataW.trod enc Tryz.prog W base (fun _ => true) held fuel 76 cs = some x) : ∃ m : Im, cs = imc m ∧ Byi W m := by
  obtain ⟨xs, k, hk, hxy, hl, hxl, hf⟩ := DataW.trod_struct Tryz.underlying76 h
  rw [cellsIm] at hl
  have hxl2 : xs.length = 2 := hxl
  match xs, hxl2, cs, hl with
  | [y0, y1], _, [v0, v1], _ =>
    have g0 := hf 0 _ rfl
    have g1 := hf 1 _ rfl
    simp [cellsU, cellsX] at g0 g1
    obtain ⟨z, e0, _, wz⟩ := DataW.trod_int Tryz.underlying25 g0
    simp only [List.cons.injEq, and_true] at e0
    subst e0
    have hb := bounds_u64 wz
    obtain ⟨xa, xl, xc, X, rfl, hX, h1, h2⟩ : ∃ xa xl xc X, v1 = .slice xa xl xc ∧ Bytes W xa xl X ∧ xl ≤ xc ∧ xc ≤ maxLen := by
      rcases open_ints Tryz.underlying57 Tryz.underlying5 (by kernel_rfl) g1 with ⟨hcs, _⟩ | ⟨x, l, c, zs, hcs, _, hl2, hm2, hz2, _, hcell2, hwz2⟩
      · simp only [List.cons.injEq, and_true] at hcs
        subst hcs
        exact ⟨none, 0, 0, [], rfl, ⟨rfl, fun i => by simp, fun h => by omega⟩, by decide, by decide⟩
      · simp only [List.cons.injEq, and_true] at hcs
        subst hcs
        have hr : IsRow .u8 W (some x) l c zs := .inr ⟨_, rfl, hl2, hm2, by simpa using hz2, hcell2, hwz2⟩
        exact ⟨_, _, _, _, rfl, hr.bytes, hl2, hm2⟩
    exact ⟨⟨z, xa, xl, xc, X⟩, rfl, hX, ⟨by show 0 ≤ z; omega, by show z ≤ 18446744073709551615; omega⟩, h1, h2⟩
theorem open_image {H : Type} {enc : TypeId × Value → H} {W : World} {base : Nat} {v : Value} {d : DataW H} {p : List MemPlace} (hval : Value.okWide Tryz.prog W .any base 76 v) (h : DataW.Trod enc Tryz.prog W 0 (fun _ => true) true 76 v d p) :
    ∃ m : Im, v = .agg (imc m).toArray ∧ Byi W m := by
  simp only [Value.okWide, Tryz.underlying76] at hval
  obtain ⟨cs, rfl, h2, _⟩ := hval
  obtain ⟨fuel, hf⟩ := h
  have hcs : (Value.agg cs).cells = cs := rfl
  rw [hcs] at hf
  obtain ⟨m, hm, ok⟩ := open_imageL hf
  exact ⟨m, by rw [← hm], ok⟩
/-- A row of truth values in memory. -/
def Bools (w : World) (a : Option Addr) (len : Nat) (K : List Bool) : Prop := K.length = len ∧ (0 < len → ∃ b off, a = some ⟨b, off, none⟩ ∧ b < w.heap.size ∧ ∀ i, i < len → w.cell? ⟨b, off + i, none⟩ = some (.bool (K.getD i false)))
theorem Bools.below {w w' : World} {a : Option Addr} {len : Nat} {K : List Bool} (h : Bools w a len K) (hb : Below w.heap.size w w') : Bools w' a len K := by
  refine ⟨h.1, fun h0 => ?_⟩
  obtain ⟨b, off, rfl, hbb, hc⟩ := h.2 h0
  exact ⟨b, off, rfl, Nat.lt_of_lt_of_le hbb hb.size, fun i hi => (hb.cell hbb).trans (hc i hi)⟩
/-- A slice of images, and what lies there. -/
structure Sx where
  a : Option Addr
  l : Nat
  c : Nat
  M : List Im
def slc (x : Sx) : List Value := [.slice x.a x.l x.c]
structure Igss (w : World) (a : Option Addr) (X : List Sx) : Prop where
  tb : Tb w a 1 slc X
  im : ∀ x ∈ X, x.M.length = x.l ∧ Imgs w x.a x.M ∧ x.l ≤ maxLen
theorem Igss.below {w w' : World} {a : Option Addr} {X : List Sx} (h : Igss w a X) (hb : Below w.heap.size w w') : Igss w' a X :=
  ⟨h.tb.below hb, fun x hx => ⟨(h.im x hx).1, (h.im x hx).2.1.below hb, (h.im x hx).2.2⟩⟩
end Go.Proofs.YtjdcccdkddnkgaaGreatDoor
namespace Go.Proofs.YtjdcccdkddnkgaaGreatDoor
set_option maxRecDepth 100000
set_option linter.unusedVariables false
open Go.RowKit Plain Go.WideShapes
theorem gFirst : Tryz.prog.globalNamed "reliquary/digest.first" = some 0 := by kernel_rfl
theorem gRounds : Tryz.prog.globalNamed "reliquary/digest.rounds" = some 1 := by kernel_rfl
theorem gQuart : Tryz.prog.globalNamed "reliquary/cipher.quarters" = some 2 := by kernel_rfl
theorem tFirst : (Tryz.prog.globals[0]?).map (·.type) = some 183 := by kernel_rfl
theorem tRounds : (Tryz.prog.globals[1]?).map (·.type) = some 203 := by kernel_rfl
theorem tQuart : (Tryz.prog.globals[2]?).map (·.type) = some 240 := by kernel_rfl
def quads : List (List Int) := [[0, 4, 8, 12], [1, 5, 9, 13], [2, 6, 10, 14], [3, 7, 11, 15], [0, 5, 10, 15], [1, 6, 11, 12], [2, 7, 8, 13], [3, 4, 9, 14]]
/-- What all rows list. -/
def laid3 : List (String × DataW Unit) := [("reliquary/digest.first", Lib.tabData .u32 Dig.Plain.hh), ("reliquary/digest.rounds", Lib.tabData .u32 Dig.Plain.kk), ("reliquary/cipher.quarters", .agg (quads.map (Lib.tabData .i64)))]
theorem cell_block {w : World} {b o : Nat} {v : Value} (h : w.cell? ⟨b, o, none⟩ = some v) : b < w.heap.size := by
  apply Nat.lt_of_not_le
  intro hle
  simp [World.cell?, Array.getElem?_eq_none hle] at h
theorem quads_at (i : Nat) (h : i < 32) : (quads.getD (i / 4) []).getD (i % 4) 0 = Seal.Plain.qt.getD i 0 ∧ (quads.getD (i / 4) []).length = 4 := by
  have key : ∀ k : Fin 32, (quads.getD (k.val / 4) []).getD (k.val % 4) 0 = Seal.Plain.qt.getD k.val 0 ∧ (quads.getD (k.val / 4) []).length = 4 := by decide +kernel
  exact key ⟨i, h⟩
/-- The three tables, out of the rows' list. -/
theorem tabs_of_laid {W : World} (h : laidMetH Tryz.prog laid3 W) : Dig.Tabs W ∧ Seal.Tab W := by
  have h' : laidMet Tryz.prog laid3 W := h
  obtain ⟨ps, ⟨g0, t0, cs0, f0, p0, q0, hg0, ht0, hv0, hd0, ⟨g1, t1, cs1, f1, p1, q1, hg1, ht1, hv1, hd1, ⟨g2, t2, cs2, f2, p2, q2, hg2, ht2, hv2, hd2, _, _⟩, _⟩, _⟩, _, _⟩ := h'
  obtain rfl := Option.some.inj (gFirst.symm.trans hg0)
  obtain rfl := Option.some.inj (gRounds.symm.trans hg1)
  obtain rfl := Option.some.inj (gQuart.symm.trans hg2)
  obtain rfl := Option.some.inj (tFirst.symm.trans ht0)
  obtain rfl := Option.some.inj (tRounds.symm.trans ht1)
  obtain rfl := Option.some.inj (tQuart.symm.trans ht2)
  have e0 : Lib.TabIs Tryz.prog W "reliquary/digest.first" .u32 Dig.Plain.hh := by
    unfold Lib.TabIs
    rw [hv0, ← Lib.cells_of_tab Tryz.underlying183 Tryz.underlying82 (by kernel_rfl) (by kernel_rfl) hd0]
  have e1 : Lib.TabIs Tryz.prog W "reliquary/digest.rounds" .u32 Dig.Plain.kk := by
    unfold Lib.TabIs
    rw [hv1, ← Lib.cells_of_tab Tryz.underlying203 Tryz.underlying82 (by kernel_rfl) (by kernel_rfl) hd1]
  obtain ⟨xs, m, _, hx, hl, hn, hel⟩ := DataW.trod_array Tryz.underlying240 hd2
  have hc4 : Tryz.prog.cellsOf 239 = 4 := by kernel_rfl
  have hx1 : xs.map (·.1) = quads.map (Lib.tabData .i64) := by
    have := congrArg Prod.fst hx
    simp only [DataW.agg.injEq] at this
    exact this.symm
  have hrow : ∀ j, j < 8 → (cs2.toList.drop (j * 4)).take 4 = (quads.getD j []).map fun z => Value.int .i64 z := by
    intro j hj
    have h1 := hel j hj
    rw [hc4] at h1
    obtain ⟨y, hy⟩ : ∃ y, xs[j]? = some y := ⟨xs[j]'(by omega), by simp [hn, hj]⟩
    rw [hy] at h1
    obtain ⟨y1, y2⟩ := y
    have e1 : y1 = Lib.tabData .i64 (quads.getD j []) := by
      have h2 : (xs.map (·.1))[j]? = some y1 := by simp [hy]
      rw [hx1] at h2
      have hq : j < quads.length := hj
      simp only [List.getElem?_map, List.getElem?_eq_getElem hq, Option.map_some, Option.some.injEq] at h2
      rw [← h2]
      simp [List.getD, hq]
    subst e1
    exact Lib.cells_of_tab Tryz.underlying239 Tryz.underlying3 (by kernel_rfl) (by kernel_rfl) h1
  have hcell : ∀ i, i < 32 → W.cell? ⟨2, i, none⟩ = some (.int .i64 (Seal.Plain.qt.getD i 0)) := by
    intro i hi
    have h1 := hrow (i / 4) (by omega)
    have h2 := congrArg (·[i % 4]?) h1
    simp only [List.getElem?_take, List.getElem?_drop, List.getElem?_map] at h2
    rw [if_pos (by omega), show i / 4 * 4 + i % 4 = i by omega] at h2
    obtain ⟨q1, q2⟩ := quads_at i hi
    have q3 : (quads.getD (i / 4) [])[i % 4]? = some (Seal.Plain.qt.getD i 0) := by
      rw [← q1]
      have : i % 4 < (quads.getD (i / 4) []).length := by omega
      generalize quads.getD (i / 4) [] = Q at this ⊢
      simp [List.getD, this]
    rw [q3] at h2
    have h3 := World.var?_cell gQuart hv2 i
    rw [h3]
    simpa using h2
  refine ⟨⟨?_, fun i hi => e0.cell gFirst i hi, fun i hi => e1.cell gRounds i hi⟩, cell_block (hcell 0 (by omega)), hcell⟩
  have := cell_block (e1.cell gRounds 0 (by decide))
  omega
def putTab (cs : Array Value) : Obj → Obj
  | .cells _ t frozen => .cells cs t frozen
  | o => o
/-- A world for the witness: the settled one, the tables holding what their initialisers lay. -/
noncomputable def laidWorld (os : Os) : World :=
  { World.holding Tryz.prog os ⟨#[], #[], []⟩ with heap := (((World.holding Tryz.prog os ⟨#[], #[], []⟩).heap.modify 0 (putTab (u32s Dig.Plain.hh))).modify 1 (putTab (u32s Dig.Plain.kk))).modify 2 (putTab (Seal.Plain.qt.map (Value.int .i64)).toArray) }
def numOf : Option Value → Int
  | some (.int _ z) => z
  | _ => 0
theorem cells5 : Tryz.prog.cellsOf 5 = 1 := by kernel_rfl
theorem cellsS : Tryz.prog.cellsOf 23 = 32 := by kernel_rfl
theorem open_sumL {H : Type} {enc : TypeId × Value → H} {W : World} {base : Nat} {sp : Nat → Bool} {held : Bool} {fuel : Nat} {cs : List Value} {x : DataW H × List MemPlace} (h : DataW.trod enc Tryz.prog W base sp held fuel 23 cs = some x) : ∃ D : List Int, cs = D.map (Value.int .u8) ∧ D.length = 32 ∧ Byt D := by
  obtain ⟨xs, m, _, _, hl, hn, hel⟩ := DataW.trod_array Tryz.underlying23 h
  rw [cellsS] at hl
  have key : ∀ i, i < 32 → ∃ z, cs[i]? = some (.int .u8 z) ∧ 0 ≤ z ∧ z ≤ 255 := by
    intro i hi
    have := hel i hi
    rw [cells5, Nat.mul_one] at this
    have hx : ∃ y, xs[i]? = some y := ⟨xs[i]'(by omega), by simp [hn, hi]⟩
    obtain ⟨y, hy⟩ := hx
    rw [hy] at this
    obtain ⟨z, hz, _, hw⟩ := DataW.trod_int Tryz.underlying5 this
    have hb := bounds_u8 hw
    refine ⟨z, ?_, by omega, by omega⟩
    have h1 := congrArg (·[0]?) hz
    simpa [List.getElem?_take, List.getElem?_drop] using h1
  refine ⟨(List.range 32).map fun i => numOf cs[i]?, ?_, by simp, ?_⟩
  · apply List.ext_getElem
    · simp [hl]
    · intro i h1 h2
      obtain ⟨z, hz, _⟩ := key i (by omega)
      have : cs[i] = .int .u8 z := by
        rw [List.getElem?_eq_getElem h1] at hz
        exact Option.some.inj hz
      simp [this, hz, numOf]
  · intro i
    by_cases hi : i < 32
    · obtain ⟨z, hz, h0, h1⟩ := key i hi
      simp [hi, hz, h0, h1, numOf]
    · simp [hi]
theorem open_sum {H : Type} {enc : TypeId × Value → H} {W : World} {base : Nat} {v : Value} {d : DataW H} {p : List MemPlace} (hval : Value.okWide Tryz.prog W .any base 23 v) (h : DataW.Trod enc Tryz.prog W 0 (fun _ => true) true 23 v d p) :
    ∃ D : List Int, v = .agg (u8s D) ∧ D.length = 32 ∧ Byt D := by
  simp only [Value.okWide, Tryz.underlying23] at hval
  obtain ⟨cs, rfl, h2, _⟩ := hval
  obtain ⟨fuel, hf⟩ := h
  have hcs : (Value.agg cs).cells = cs := rfl
  rw [hcs] at hf
  obtain ⟨D, hD, l, b⟩ := open_sumL hf
  exact ⟨D, by rw [u8s, ← hD], l, b⟩
end Go.Proofs.YtjdcccdkddnkgaaGreatDoor
namespace Go.Proofs.YtjdcccdkddnkgaaGreatDoor.Disk.Plain
set_option maxRecDepth 100000
end Go.Proofs.YtjdcccdkddnkgaaGreatDoor.Disk.Plain
namespace Go.Proofs.YtjdcccdkddnkgaaGreatDoor.Disk
set_option maxRecDepth 100000
set_option linter.unusedVariables false
open Go.RowKit Go.Proofs.YtjdcccdkddnkgaaGreatDoor.Plain Go.Proofs.YtjdcccdkddnkgaaGreatDoor.Disk.Plain
/-- The first places as an image has them. -/
def rpl (pl0 : Nat → List Int) (k : Nat) (pl : Nat → List Int) : Nat → List Int := fun i => if i < k then pl0 i else pl i
theorem rpl_zero (pl0 pl : Nat → List Int) : rpl pl0 0 pl = pl := by
  funext i
  simp [rpl]
theorem rpl_succ (pl0 pl : Nat → List Int) (k : Nat) : upd (rpl pl0 k pl) k (pl0 k) = rpl pl0 (k + 1) pl := by
  funext i
  simp only [upd, rpl]
  by_cases h : i = k
  · subst h
    simp
  · by_cases h2 : i < k
    · simp [h, h2, show i < k + 1 by omega]
    · simp [h, h2, show ¬ i < k + 1 by omega]
structure Tq (wd : World) (D P n i : Nat) (B : List Int) (bb off : Nat) : Prop where
  c0 : wd.cell? ⟨D, 0, none⟩ = some (.slice (some ⟨P, 0, none⟩) n n)
  n0 : D ≠ P
  rb : wd.rangeAt bb off (B.map (Value.int .u8))
  nb : bb ≠ P
  iz : (Tryz.prog.info? 118).map (·.size) = some (B.map (Value.int .u8)).length
  iy : (Tryz.prog.info? 118).map (·.size) = some (u8s B).size
  th : wd.there P (i * 192) (u8s B).size
theorem Tq.drew {w wd : World} {D P n i : Nat} {B : List Int} {bb off : Nat} (h : Tq w D P n i B bb off) (hwd : wd = w.drew) : Tq wd D P n i B bb off := by
  subst hwd
  exact ⟨h.c0, h.n0, h.rb, h.nb, h.iz, h.iy, h.th⟩
theorem At.types {w : World} {D P : Nat} {uv ov : Value} {d : Dk} (h1 : At w D P uv ov d) : ∀ (k : Nat) (cs : Array Value) (t : TypeId) (fr : Nat × Nat), w.heap[k]? = some (.cells cs t fr) → ¬ Own4 t → ¬ foot D P uv ov k := by
  intro k cs t fr hk ht hf
  apply ht
  rcases hf with rfl | rfl | hf | hf
  · rw [h1.hd] at hk
    simp only [Option.some.injEq, Obj.cells.injEq] at hk
    exact .inl hk.2.1.symm
  · obtain ⟨c, h3, _⟩ := h1.hp
    rw [h3] at hk
    simp only [Option.some.injEq, Obj.cells.injEq] at hk
    exact .inr (.inl hk.2.1.symm)
  · rcases h1.hu.2 with ⟨e, _⟩ | ⟨g, cap, cur, e, _, hg, _⟩
    · rw [e] at hf; simp [Value.ownBlock] at hf
    · rw [e] at hf
      simp only [Value.ownBlock, Option.some.injEq] at hf
      subst hf
      rw [hg] at hk
      simp only [Option.some.injEq, Obj.cells.injEq] at hk
      exact .inr (.inr (.inl hk.2.1.symm))
  · rcases h1.ho.2 with ⟨e, _⟩ | ⟨g, cap, cur, e, _, hg, _⟩
    · rw [e] at hf; simp [Value.ownBlock] at hf
    · rw [e] at hf
      simp only [Value.ownBlock, Option.some.injEq] at hf
      subst hf
      rw [hg] at hk
      simp only [Option.some.injEq, Obj.cells.injEq] at hk
      exact .inr (.inr (.inr hk.2.1.symm))
/-- Rows of an image in memory. -/
structure Im (w : World) (g n : Nat) (Ls : List Value) (pl0 : Nat → List Int) : Prop where
  row : w.heap[g]? = some (.cells Ls.toArray 57 (0, 0))
  len : Ls.length = n
  each : ∀ i (h : i < Ls.length), w.ownsRow 0 5 1 Ls[i] 192 ((pl0 i).map (Value.int .u8))
  byt : ∀ i, (pl0 i).length = 192 ∧ Byt (pl0 i)
theorem Im.fr {w w' : World} {g n : Nat} {Ls : List Value} {pl0 : Nat → List Int} (h : Im w g n Ls pl0) (f : Fr w w') : Im w' g n Ls pl0 :=
  ⟨(f.2 _ _ _ _ h.row (by unfold Own4; decide)).trans h.row, h.len, fun i hi => f.own (h.each i hi) (by unfold Own4; decide), h.byt⟩
theorem fr_turned {w w' : World} {D P : Nat} {uv ov : Value} {d : Dk} (h1 : At w D P uv ov d) (t : Turned (foot D P uv ov) w w') : Fr w w' :=
  ⟨t.size, fun k cs ty fr hk ht => t.block k (Array.getElem?_eq_some_iff.1 hk).1 (h1.types k cs ty fr hk ht)⟩
theorem Im.at_ {w : World} {g n : Nat} {Ls : List Value} {pl0 : Nat → List Int} (h : Im w g n Ls pl0) (k : Nat) (hk : k < n) : ∃ bb off ck, w.cell? ⟨g, k, none⟩ = some (.slice (some ⟨bb, off, none⟩) 192 ck) ∧ w.rangeAt bb off ((pl0 k).map (Value.int .u8)) ∧ ∃ cs fr, w.heap[bb]? = some (.cells cs 5 fr) := by
  have hLs : k < Ls.length := by rw [h.len]; exact hk
  have ho := h.each k hLs
  rcases ho.2 with ⟨_, e⟩ | ⟨gg, cap, cur, e, _, hg, _⟩
  · omega
  · refine ⟨gg, 0, cap, ?_, fun j v hv => ?_, cur, _, hg⟩
    · rw [cell_of_row _ _ _ _ _ _ h.row, ← e]
      simp [hLs]
    · have := World.ownsRow.cells ho (g := gg) (by rw [e]; rfl) j v hv
      rw [Addr.add_lit] at this
      exact this
set_option maxHeartbeats 2000000 in
theorem restore_few (w : World) (D P : Nat) (uv ov : Value) (d : Dk) (h : At w D P uv ov d) (a : Option Addr) (len cap : Nat) (hl : len ≠ d.n) (hl9 : len ≤ 1000000) :
    Calls Tryz.prog 32 #[.pointer (some ⟨D, 0, none⟩), .slice a len cap] w fun e w' => e = .returned (.int .i64 1) ∧ w = w' := by
  obtain ⟨c0, -, -, -, -, -, -⟩ := h.cells
  have hne : ((len : Int) == (d.n : Int)) = false := by
    have : ¬ ((len : Int) = (d.n : Int)) := by omega
    simp [this]
  clear h hl
  go_enter Tryz.func32, Tryz.ntmps32
  go_wp2
  go_ret
  exact ⟨rfl, rfl⟩
set_option maxRecDepth 20000 in
set_option maxHeartbeats 4000000 in
theorem restore_ok (w : World) (D P : Nat) (uv ov : Value) (d : Dk) (h1 : At w D P uv ov d) (g c : Nat) (Ls : List Value) (pl0 : Nat → List Int) (hI : Im w g d.n Ls pl0) :
    Calls Tryz.prog 32 #[.pointer (some ⟨D, 0, none⟩), .slice (some ⟨g, 0, none⟩) d.n c] w fun e w' => e = .returned (.int .i64 0) ∧ At w' D P (.slice none 0 0) ov { d with pl := rpl pl0 d.n d.pl, uw := [] } ∧ Turned (foot D P uv ov) w w' := by
  obtain ⟨c0, c1, -, -, -, -, fz⟩ := h1.cells
  have hn := h1.hn
  have hn9 : d.n < 9223372036854775807 := by omega
  have HI : Box (∀ x, Turned (foot D P uv ov) w x → Im x g d.n Ls pl0) := ⟨fun x t => hI.fr (fr_turned h1 t)⟩
  have HTy : Box (∀ (k : Nat) (cs : Array Value) (fr : Nat × Nat), w.heap[k]? = some (.cells cs 5 fr) → ¬ foot D P uv ov k) := ⟨fun k cs fr hk => h1.types k cs 5 fr hk (by unfold Own4; decide)⟩
  have HA : Box (At w D P uv ov { d with pl := rpl pl0 0 d.pl } ∧ Turned (foot D P uv ov) w w) := ⟨by rw [rpl_zero]; exact h1, Turned.refl _ _⟩
  clear h1 hI hn fz
  go_enter Tryz.func32, Tryz.ntmps32
  go_wp2
  go_loopw [23] (fun j wr => ∃ k : Nat, k ≤ d.n ∧ j = .int .i64 k ∧ Box (wr = w)) (fun j _ => d.n - (intOf j).toNat)
  case atStart => exact ⟨0, Nat.zero_le _, rfl, ⟨rfl⟩⟩
  case round =>
    obtain ⟨k, hk, rfl, HW⟩ := hrel
    have e0 := HW.out.symm
    subst e0
    by_cases hlt : k < d.n
    · obtain ⟨bb, off, ck, q1, _, _⟩ := (HI.out _ (Turned.refl _ _)).at_ k hlt
      go_wp2
      exact ⟨⟨k + 1, by omega, by simp, ⟨trivial⟩⟩, by simp [intOf]; omega⟩
    · obtain rfl : k = d.n := by omega
      go_wp2
      clear c0 c1
      go_loopw [33] (fun j wx => ∃ k : Nat, k ≤ d.n ∧ j = .int .i64 k ∧ Box (At wx D P uv ov { d with pl := rpl pl0 k d.pl } ∧ Turned (foot D P uv ov) w wx)) (fun j _ => d.n - (intOf j).toNat)
      case atStart => exact ⟨0, Nat.zero_le _, rfl, HA⟩
      case round =>
        obtain ⟨k, hk2, rfl, HK⟩ := hrel
        clear HA hk
        by_cases hlt : k < d.n
        · have hIx := HI.out _ HK.out.2
          obtain ⟨bb, off, ck, q1, hrb, cs5, fr5, hb5⟩ := hIx.at_ k hlt
          have hnf : ¬ foot D P uv ov bb := At.types HK.out.1 bb cs5 5 fr5 hb5 (by unfold Own4; decide)
          obtain ⟨cs, hP, hPs⟩ := HK.out.1.hp
          have hfit : k * 192 + 192 ≤ cs.size := by
            rw [hPs.1, Nat.mul_comm, ← Nat.mul_succ]
            exact Nat.mul_le_mul_left _ hlt
          have HTp : Box (Tq wr D P d.n k (pl0 k) bb off) := ⟨⟨HK.out.1.cells.1, HK.out.1.neP, hrb, fun e => hnf (.inr (.inl e)), by rw [List.length_map, (hIx.byt k).1]; exact info79, by rw [size_u8s, (hIx.byt k).1]; exact info79, there_row hP (by rw [size_u8s, (hIx.byt k).1]; exact hfit)⟩⟩
          have HLd : Box _ := ⟨HK.out.1.laid ((Below.refl _ wr).drew) k (pl0 k) hlt (hIx.byt k)⟩
          have HTn : Box (Turned (foot D P uv ov) w wr) := ⟨HK.out.2⟩
          have HE : Box (({ ({ d with pl := rpl pl0 k d.pl } : Dk) with pl := upd (rpl pl0 k d.pl) k (pl0 k) } : Dk) = { d with pl := rpl pl0 (k + 1) d.pl }) := ⟨by rw [rpl_succ]⟩
          clear HK hIx hrb hb5 hnf hP hPs hfit
          go_upto_region 12 with fail
          rename_i KK ax
          try simp only [Act.put, List.setIfInBounds_toArray, List.set_cons_zero, List.set_cons_succ, List.getElem_toArray, List.getElem_cons_zero, List.getElem_cons_succ]
          refine begin_but (P) (by kernel_rfl) (fun wd hwd => ?_)
          have GF : Box (Tq wd D P d.n k (pl0 k) bb off) := ⟨HTp.out.drew hwd⟩
          have hin : k < d.n := hlt
          refine take_but (i := 0) (v := ?_) rfl (by kernel_rfl) (by kernel_rfl) (by kernel_rfl) (fun _ _ _ h => h) (by rfl) ?_ ?_
          rotate_left
          · intro w' hB; clear hB; go_simp <;> with_reducible rfl
          try simp only [Act.put, List.setIfInBounds_toArray, List.set_cons_zero, List.set_cons_succ, List.getElem_toArray, List.getElem_cons_zero]
          refine take_but (i := 1) (v := ?_) rfl (by kernel_rfl) (by kernel_rfl) (by kernel_rfl) (fun _ _ _ h => h) (by rfl) ?_ ?_
          rotate_left
          · intro w' hB; clear hB; go_simp <;> with_reducible rfl
          try simp only [Act.put, List.setIfInBounds_toArray, List.set_cons_zero, List.set_cons_succ, List.getElem_toArray, List.getElem_cons_zero, List.getElem_cons_succ]
          refine take_but (i := 2) (v := ?_) rfl (by kernel_rfl) (by kernel_rfl) (by kernel_rfl) (fun _ _ _ h => h) (by rfl) ?_ ?_
          rotate_left
          · intro w' hB; clear hB; go_simp <;> with_reducible rfl
          try simp only [Act.put, List.setIfInBounds_toArray, List.set_cons_zero, List.set_cons_succ, List.getElem_toArray, List.getElem_cons_zero, List.getElem_cons_succ]
          refine take_but (i := 3) (v := .slice (some ⟨P, 0, none⟩) d.n d.n) rfl (by kernel_rfl) (by kernel_rfl) (by kernel_rfl) (fun _ _ _ h => h) (by rfl) (fun w' hB => exec_load1 87 _ _ rfl Tryz.underlying87 rfl _ rfl _ (but_cell hB GF.out.c0 GF.out.n0)) ?_
          try simp only [Act.put, List.setIfInBounds_toArray, List.set_cons_zero, List.set_cons_succ, List.getElem_toArray, List.getElem_cons_zero, List.getElem_cons_succ]
          refine take_but (i := 4) (v := ?_) rfl (by kernel_rfl) (by kernel_rfl) (by kernel_rfl) (fun _ _ _ h => h) (by rfl) ?_ ?_
          rotate_left
          · intro w' hB; clear hB; go_simp <;> with_reducible rfl
          try simp only [Act.put, List.setIfInBounds_toArray, List.set_cons_zero, List.set_cons_succ, List.getElem_toArray, List.getElem_cons_zero, List.getElem_cons_succ]
          refine take_but (i := 5) (v := ?_) rfl (by kernel_rfl) (by kernel_rfl) (by kernel_rfl) (fun _ _ _ h => h) (by rfl) ?_ ?_
          rotate_left
          · intro w' hB; clear hB; go_simp <;> with_reducible rfl
          try simp only [Act.put, List.setIfInBounds_toArray, List.set_cons_zero, List.set_cons_succ, List.getElem_toArray, List.getElem_cons_zero, List.getElem_cons_succ]
          refine take_but (i := 6) (v := .pointer (some ⟨bb, off, none⟩)) rfl (by kernel_rfl) (by kernel_rfl) (by kernel_rfl) (fun _ _ _ h => h) (by rfl) (fun w' hB => exec_s2a w' _ rfl _ 192 ck rfl (Nat.le_refl _)) ?_
          try simp only [Act.put, List.setIfInBounds_toArray, List.set_cons_zero, List.set_cons_succ, List.getElem_toArray, List.getElem_cons_zero, List.getElem_cons_succ]
          refine take_but (i := 7) (v := .agg (u8s (pl0 k))) rfl (by kernel_rfl) (by kernel_rfl) (by kernel_rfl) (fun _ _ _ h => h) (by rfl) (fun w' hB => exec_load_mid 118 _ _ rfl Tryz.underlying118 rfl bb off rfl ((pl0 k).map (Value.int .u8)) GF.out.iz (but_range hB GF.out.rb GF.out.nb)) ?_
          try simp only [Act.put, List.setIfInBounds_toArray, List.set_cons_zero, List.set_cons_succ, List.getElem_toArray, List.getElem_cons_zero, List.getElem_cons_succ]
          refine take_but (i := 8) (v := ?_) rfl (by kernel_rfl) (by kernel_rfl) (by kernel_rfl) (fun _ _ _ h => h) (by rfl) ?_ ?_
          rotate_left
          · intro w' hB; clear hB; go_simp <;> with_reducible rfl
          try simp only [Act.put, List.setIfInBounds_toArray, List.set_cons_zero, List.set_cons_succ, List.getElem_toArray, List.getElem_cons_zero, List.getElem_cons_succ]
          refine last_but (i := 9) rfl (by kernel_rfl) (by rfl) (by kernel_rfl) 118 _ _ rfl (k * 192) (u8s (pl0 k)) rfl rfl GF.out.th GF.out.iy (all_u8s _) ?_
          show KK _ _
          refine ax _ _ ?_
          try simp only [Act.put, List.getElem_toArray, List.getElem_cons_zero, List.getElem_cons_succ]
          have HL2 : Box _ := ⟨HLd.out⟩
          rw [HE.out] at HL2
          rw [hwd]
          generalize wr.drew.setCells P (k * 192) (u8s (pl0 k)).toList = wy at HL2 ⊢
          clear ax HLd HE HTp GF hwd q1
          go_wp2
          go_roundw
          case rel => exact ⟨k + 1, by omega, by simp, ⟨HL2.out.1, HTn.out.trans HL2.out.2 (fun _ hk => .inl hk)⟩⟩
          case measure => simp [intOf]; omega
        · obtain rfl : k = d.n := by omega
          obtain ⟨-, c1, -, -, -, -, fz⟩ := HK.out.1.cells
          have f1 := fz 1
          have HW2 : Box _ := ⟨HK.out.1.noway⟩
          clear fz
          go_wp2
          go_ret
          exact ⟨rfl, HW2.out.1, HK.out.2.trans HW2.out.2.1 (fun _ hk => .inl hk)⟩
end Go.Proofs.YtjdcccdkddnkgaaGreatDoor.Disk
namespace Go.Proofs.YtjdcccdkddnkgaaGreatDoor
set_option maxRecDepth 100000
set_option linter.unusedVariables false
open Go.RowKit Plain
/-- A disk that is neither down nor told to stop. -/
def Up (d : Disk.Dk) : Prop := d.down = false ∧ d.st = false
theorem dwr_up {d : Disk.Dk} (h : Up d) (p : Nat) (S : List Int) : dwr d p S = (Disk.wrOk d p S, 0) := by simp [dwr, h.1, h.2]
theorem up_wr {d : Disk.Dk} (h : Up d) (p : Nat) (S : List Int) : Up (Disk.wrOk d p S) := h
/-- The places that are written. -/
def pls (j : Jt) (k n : Nat) : List Nat := (List.range n).map fun x => plc j (k + x)
theorem pls_succ (j : Jt) (k n : Nat) : pls j k (n + 1) = plc j k :: pls j (k + 1) n := by
  unfold pls
  rw [List.range_succ_eq_map, List.map_cons, List.map_map]
  congr 1
  apply List.map_congr_left
  intro x _
  simp only [Function.comp]
  congr 1
  omega
/-- What holds behind records that were written. -/
structure ApU (j : Jt) (d : Disk.Dk) (nx : Int) (s : Jst) (n : Nat) (y : Ast) : Prop where
  up : Up y.1
  nn : y.1.n = d.n
  pl : y.1.pl = d.pl
  ops : y.1.ops = d.ops ++ (pls j (s.start + s.count) n).map fun (p : Nat) => ((2 : Int), (p : Int))
  uw : ∃ W : List (Nat × List Int), y.1.uw = d.uw ++ W ∧ W.map Prod.fst = pls j (s.start + s.count) n
  left : y.1.left = d.left
  nx : y.2.1 = nx + (n : Int)
  er : y.2.2.1 = 0
  st : y.2.2.2.start = s.start
  ct : y.2.2.2.count = s.count + n
  tg : y.2.2.2.tag.length = 32 ∧ Byt y.2.2.2.tag
theorem apL_up (j : Jt) : ∀ (L : List ((Int × List Int) × Bool)) (d : Disk.Dk) (nx : Int) (s : Jst), Up d → s.tag.length = 32 ∧ Byt s.tag → ApU j d nx s L.length (apL j (d, nx, 0, s) L)
  | [], d, nx, s, h, ht => ⟨h, rfl, rfl, by simp [pls, apL], ⟨[], by simp [apL], rfl⟩, rfl, by show nx = nx + ((0 : Nat) : Int); omega, rfl, rfl, rfl, ht⟩
  | r :: L, d, nx, s, h, ht => by
    have e : apS j (d, nx, 0, s) r = (Disk.wrOk d (plc j (s.start + s.count)) (apT j (d, nx, 0, s) r), nx + 1, 0, nxS j s (plc j (s.start + s.count)) (apT j (d, nx, 0, s) r)) := by
      unfold apS
      rw [if_neg (by simp), dwr_up h]
      rfl
    have e2 : apL j (d, nx, 0, s) (r :: L) = apL j (Disk.wrOk d (plc j (s.start + s.count)) (apT j (d, nx, 0, s) r), nx + 1, 0, nxS j s (plc j (s.start + s.count)) (apT j (d, nx, 0, s) r)) L := by rw [← e]; rfl
    rw [e2]
    have ih := apL_up j L (Disk.wrOk d (plc j (s.start + s.count)) (apT j (d, nx, 0, s) r)) (nx + 1) (nxS j s (plc j (s.start + s.count)) (apT j (d, nx, 0, s) r)) (up_wr h _ _) ⟨length_dsha _, byt_dsha _⟩
    generalize apL j (Disk.wrOk d (plc j (s.start + s.count)) (apT j (d, nx, 0, s) r), nx + 1, 0, nxS j s (plc j (s.start + s.count)) (apT j (d, nx, 0, s) r)) L = y at ih ⊢
    have hst : (nxS j s (plc j (s.start + s.count)) (apT j (d, nx, 0, s) r)).start + (nxS j s (plc j (s.start + s.count)) (apT j (d, nx, 0, s) r)).count = s.start + s.count + 1 := rfl
    have ho := ih.ops
    obtain ⟨W, hW1, hW2⟩ := ih.uw
    rw [hst] at ho hW2
    refine ⟨ih.up, ih.nn, ih.pl, ?_, ⟨(plc j (s.start + s.count), apT j (d, nx, 0, s) r) :: W, ?_, ?_⟩, ?_, ?_, ih.er, ih.st, ?_, ih.tg⟩
    · rw [ho, List.length_cons, pls_succ]
      simp [Disk.wrOk]
    · rw [hW1]
      simp [Disk.wrOk]
    · rw [List.length_cons, pls_succ, List.map_cons, hW2]
    · rw [ih.left]
      simp [Disk.wrOk, h.2]
    · rw [ih.nx, List.length_cons]
      omega
    · rw [ih.ct, List.length_cons]
      show s.count + 1 + L.length = _
      omega
/-- Append where the disk tells no error. -/
theorem appM_up (j : Jt) (ok : j.Ok) (d : Disk.Dk) (L : List (Int × List Int)) (hd : Up d) (hb : bad L = false) (h1 : j.st.count + L.length ≤ j.size) (h2 : j.nx + (L.length : Int) ≤ j.lim) : ApU j d j.nx j.st L.length (appM j d L) := by
  have ht : tke j L.length = 0 := by
    unfold tke
    rw [if_neg (by omega), if_neg (by omega)]
  have h := apL_up j (ofP L) d j.nx j.st hd ⟨ok.st.lt, ok.st.bt⟩
  rw [len_ofP] at h
  have e : appM j d L = apL j (d, j.nx, 0, j.st) (ofP L) := by
    unfold appM
    rw [if_neg (by rw [hb]; simp), if_neg (fun h => h ht), if_neg (fun hh => hh h.er)]
  rw [e]
  exact h
theorem ApU.okS {j : Jt} {d : Disk.Dk} {nx : Int} {s : Jst} {n : Nat} {y : Ast} (h : ApU j d nx s n y) (h1 : s.start ≤ 1000000) (h2 : s.count + n ≤ 1000000) : OkS y.2.2.2 := ⟨h.tg.1, h.tg.2, by rw [h.st]; omega, by rw [h.ct]; omega⟩
end Go.Proofs.YtjdcccdkddnkgaaGreatDoor
namespace Go.Proofs.YtjdcccdkddnkgaaGreatDoor
set_option maxRecDepth 100000
set_option linter.unusedVariables false
open Go.RowKit Plain
attribute [local go_sem] Oper.semAt_some
theorem append_nil (a : Option Addr) (len cap : Nat) (w : World) : Calls Tryz.prog 12 #[.pointer none, .slice a len cap] w fun e w' => e = .returned (.tuple #[.agg (sa zs), .int .i64 1]) ∧ Below w.heap.size w w' := by
  obtain ⟨B, hB⟩ : ∃ B, w.heap.size = B := ⟨_, rfl⟩
  obtain ⟨w1, hw1⟩ : ∃ w1, (w.alloc (.cells #[.pointer none] 39)).alloc (.cells (sa zs) 27) = w1 := ⟨_, rfl⟩
  have hb1 : Below w.heap.size w w1 := by rw [← hw1]; exact ((Below.refl _ _).alloc (Nat.le_refl _) _).alloc (by simp) _
  have k1 : w1.heap[B]? = some (.cells #[.pointer none] 39 (0, 0)) := by rw [← hw1]; exact al_old (al_at hB)
  have k2 : w1.heap[B + 1]? = some (.cells (sa zs) 27 (0, 0)) := by rw [← hw1]; exact al_at (by simp [hB])
  have HIZ : Box ((Tryz.prog.info? 27).map (·.size) = some (sa zs).size) := ⟨by rw [size_sa okS_zs]; exact infoSt⟩
  have HB : Box (w.heap.size = B ∧ Below w.heap.size w w1 ∧ w.heap.size ≤ B + 1) := ⟨hB, hb1, by omega⟩
  have hs2 : (w.alloc (.cells #[.pointer none] 39)).heap.size = B + 1 := by simp [hB]
  have c1 : w1.cell? ⟨B, 0, none⟩ = some (.pointer none) := by rw [cell_of_row _ _ _ _ _ _ k1]; rfl
  have HR : Box _ := ⟨k2⟩
  clear hb1 k1 k2 hB
  go_enter Tryz.func12, Tryz.ntmps12
  go_upto_region 1 with (refine atAlloc _ ?_; refine wpList_run rfl _ _ (exec_alloc 27 rfl _ zeroSt) ?_)
  (try rw [hs2])
  (try simp only [HB.out.1])
  clear hs2 hw1
  go_wp2_with (first
    | (go_at_call 38; refine (none_nil _).mono ?_; rintro e x1 ⟨rfl, rfl⟩)
    | (refine atBuild _ ?_; refine wpList_run rfl _ _ (exec_built 27 [] rfl [] rfl _ built_St0) ?_)
    | (refine atStore _ ?_; refine wpList_store_row rfl 27 _ _ rfl (B + 1) (sa zs) rfl rfl 27 (sa zs) HR.out HIZ.out rfl (all_sa zs) ?_))
  refine bodyPost_ret (results_row2 (t := 4) (u := 5) rfl _ Tryz.underlying27 rfl _ _ (B + 1) (sa zs) HIZ.out rfl (setRow_heap _ _ _ _ _ _ HR.out)) rfl ?_
  exact ⟨rfl, below_but HB.out.2.1 (but_setRow _ _ _) HB.out.2.2 HB.out.2.1.size⟩
/-- Rows that an image told: where each lies, and what it holds. -/
structure Img2 (y : World) (B g n : Nat) (pl : Nat → List Int) : Prop where
  lo : B ≤ g
  gl : g < y.heap.size
  each : ∀ q, q < n → ∃ a c, y.cell? ⟨g, q, none⟩ = some (.slice a 192 c) ∧ Bytes y a 192 (pl q) ∧ c ≤ maxLen ∧ ∀ ad, a = some ad → B ≤ ad.block ∧ ad.block < y.heap.size
theorem Img2.keep {y z : World} {B g n : Nat} {pl : Nat → List Int} (h : Img2 y B g n pl) (hz : y.heap.size ≤ z.heap.size) (hs : ∀ b, B ≤ b → b < y.heap.size → z.heap[b]? = y.heap[b]?) : Img2 z B g n pl := by
  refine ⟨h.lo, Nat.lt_of_lt_of_le h.gl hz, fun q hq => ?_⟩
  obtain ⟨a, c, h1, h2, h3, h4⟩ := h.each q hq
  refine ⟨a, c, (World.cell?_of_block (hs g h.lo h.gl)).trans h1, ⟨h2.1, h2.2.1, fun hp => ?_⟩, h3, fun ad e => ⟨(h4 ad e).1, Nat.lt_of_lt_of_le (h4 ad e).2 hz⟩⟩
  obtain ⟨b, o, e, hlt, hc⟩ := h2.2.2 hp
  refine ⟨b, o, e, Nat.lt_of_lt_of_le hlt hz, fun i hi => ?_⟩
  have hb := h4 ⟨b, o, none⟩ e
  exact (World.cell?_of_block (hs b hb.1 hb.2)).trans (hc i hi)
end Go.Proofs.YtjdcccdkddnkgaaGreatDoor
