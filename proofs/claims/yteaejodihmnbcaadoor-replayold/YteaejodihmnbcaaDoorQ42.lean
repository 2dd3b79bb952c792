/-
  What the rows of this seat give the walks: the three tables out of the rows' list; a digest and a ref that came in by value.
-/
import Derived.Test.YteaejodihmnbcaaDoorCards
import Derived.Test.YteaejodihmnbcaaDoorTie
import Derived.ProofKit
import Derived.OpenShut
import Derived.ShutString
import Derived.ChangeOld
import Derived.Below
import Derived.Deep.DeepHandedRow
import Derived.Lib.LaidTab
import Derived.Deep.Grids
import Derived.Test.YteaejodihmnbcaaDoorQ32
import Derived.Test.YteaejodihmnbcaaDoorQ01
import Derived.Test.YteaejodihmnbcaaDoorQ27
namespace Go.Proofs.YteaejodihmnbcaaDoor
set_option maxRecDepth 100000
set_option linter.unusedVariables false
open Go.RowKit Plain Go.WideShapes
theorem gFirst : Tryd.prog.globalNamed "reliquary/digest.first" = some 0 := by kernel_rfl
theorem gRounds : Tryd.prog.globalNamed "reliquary/digest.rounds" = some 1 := by kernel_rfl
theorem gQuart : Tryd.prog.globalNamed "reliquary/cipher.quarters" = some 2 := by kernel_rfl
theorem tFirst : (Tryd.prog.globals[0]?).map (·.type) = some 140 := by kernel_rfl
theorem tRounds : (Tryd.prog.globals[1]?).map (·.type) = some 161 := by kernel_rfl
theorem tQuart : (Tryd.prog.globals[2]?).map (·.type) = some 185 := by kernel_rfl
def quads : List (List Int) := [[0, 4, 8, 12], [1, 5, 9, 13], [2, 6, 10, 14], [3, 7, 11, 15], [0, 5, 10, 15], [1, 6, 11, 12], [2, 7, 8, 13], [3, 4, 9, 14]]
/-- What all rows list. -/
def laid3 : List (String × DataW Unit) := [("reliquary/digest.first", Lib.tabData .u32 Dig.Plain.hh), ("reliquary/digest.rounds", Lib.tabData .u32 Dig.Plain.kk), ("reliquary/cipher.quarters", .agg (quads.map (Lib.tabData .i64)))]
theorem laid3_is : laid3 = [("reliquary/digest.first", Rows.laid_reliquary_digest_first), ("reliquary/digest.rounds", Rows.laid_reliquary_digest_rounds), ("reliquary/cipher.quarters", Rows.laid_reliquary_cipher_quarters)] := rfl
theorem cell_block {w : World} {b o : Nat} {v : Value} (h : w.cell? ⟨b, o, none⟩ = some v) : b < w.heap.size := by
  apply Nat.lt_of_not_le
  intro hle
  simp [World.cell?, Array.getElem?_eq_none hle] at h
theorem quads_at (i : Nat) (h : i < 32) : (quads.getD (i / 4) []).getD (i % 4) 0 = Seal.Plain.qt.getD i 0 ∧ (quads.getD (i / 4) []).length = 4 := by
  have key : ∀ k : Fin 32, (quads.getD (k.val / 4) []).getD (k.val % 4) 0 = Seal.Plain.qt.getD k.val 0 ∧ (quads.getD (k.val / 4) []).length = 4 := by decide +kernel
  exact key ⟨i, h⟩
/-- The three tables, out of the rows' list. -/
theorem tabs_of_laid {W : World} (h : laidMetH Tryd.prog laid3 W) : Dig.Tabs W ∧ Seal.Tab W := by
  have h' : laidMet Tryd.prog laid3 W := h
  obtain ⟨ps, ⟨g0, t0, cs0, f0, p0, q0, hg0, ht0, hv0, hd0, ⟨g1, t1, cs1, f1, p1, q1, hg1, ht1, hv1, hd1, ⟨g2, t2, cs2, f2, p2, q2, hg2, ht2, hv2, hd2, _, _⟩, _⟩, _⟩, _, _⟩ := h'
  obtain rfl := Option.some.inj (gFirst.symm.trans hg0)
  obtain rfl := Option.some.inj (gRounds.symm.trans hg1)
  obtain rfl := Option.some.inj (gQuart.symm.trans hg2)
  obtain rfl := Option.some.inj (tFirst.symm.trans ht0)
  obtain rfl := Option.some.inj (tRounds.symm.trans ht1)
  obtain rfl := Option.some.inj (tQuart.symm.trans ht2)
  have e0 : Lib.TabIs Tryd.prog W "reliquary/digest.first" .u32 Dig.Plain.hh := by
    unfold Lib.TabIs
    rw [hv0, ← Lib.cells_of_tab Tryd.underlying140 Tryd.underlying82 (by kernel_rfl) (by kernel_rfl) hd0]
  have e1 : Lib.TabIs Tryd.prog W "reliquary/digest.rounds" .u32 Dig.Plain.kk := by
    unfold Lib.TabIs
    rw [hv1, ← Lib.cells_of_tab Tryd.underlying161 Tryd.underlying82 (by kernel_rfl) (by kernel_rfl) hd1]
  obtain ⟨xs, m, _, hx, hl, hn, hel⟩ := DataW.trod_array Tryd.underlying185 hd2
  have hc4 : Tryd.prog.cellsOf 184 = 4 := by kernel_rfl
  have hx1 : xs.map (·.1) = quads.map (Lib.tabData .i64) := by
    have := congrArg Prod.fst hx
    simp only [DataW.agg.injEq] at this
    exact this.symm
  have hrow : ∀ j, j < 8 → (cs2.toList.drop (j * 4)).take 4 = (quads.getD j []).map fun z => Value.int .i64 z := by
    intro j hj
    have h1 := hel j hj
    rw [hc4] at h1
    obtain ⟨y, hy⟩ : ∃ y, xs[j]? = some y := ⟨xs[j]'(by omega), by simp [hn, hj]⟩
    rw [hy] at h1
    obtain ⟨y1, y2⟩ := y
    have e1 : y1 = Lib.tabData .i64 (quads.getD j []) := by
      have h2 : (xs.map (·.1))[j]? = some y1 := by simp [hy]
      rw [hx1] at h2
      have hq : j < quads.length := hj
      simp only [List.getElem?_map, List.getElem?_eq_getElem hq, Option.map_some, Option.some.injEq] at h2
      rw [← h2]
      simp [List.getD, hq]
    subst e1
    exact Lib.cells_of_tab Tryd.underlying184 Tryd.underlying3 (by kernel_rfl) (by kernel_rfl) h1
  have hcell : ∀ i, i < 32 → W.cell? ⟨2, i, none⟩ = some (.int .i64 (Seal.Plain.qt.getD i 0)) := by
    intro i hi
    have h1 := hrow (i / 4) (by omega)
    have h2 := congrArg (·[i % 4]?) h1
    simp only [List.getElem?_take, List.getElem?_drop, List.getElem?_map] at h2
    rw [if_pos (by omega), show i / 4 * 4 + i % 4 = i by omega] at h2
    obtain ⟨q1, q2⟩ := quads_at i hi
    have q3 : (quads.getD (i / 4) [])[i % 4]? = some (Seal.Plain.qt.getD i 0) := by
      rw [← q1]
      have : i % 4 < (quads.getD (i / 4) []).length := by omega
      generalize quads.getD (i / 4) [] = Q at this ⊢
      simp [List.getD, this]
    rw [q3] at h2
    have h3 := World.var?_cell gQuart hv2 i
    rw [h3]
    simpa using h2
  refine ⟨⟨?_, fun i hi => e0.cell gFirst i hi, fun i hi => e1.cell gRounds i hi⟩, cell_block (hcell 0 (by omega)), hcell⟩
  have := cell_block (e1.cell gRounds 0 (by decide))
  omega
def putTab (cs : Array Value) : Obj → Obj
  | .cells _ t frozen => .cells cs t frozen
  | o => o
/-- A world for the witness: the settled one, the tables holding what their initialisers lay. -/
noncomputable def laidWorld (os : Os) : World :=
  { World.holding Tryd.prog os ⟨#[], #[], []⟩ with heap := (((World.holding Tryd.prog os ⟨#[], #[], []⟩).heap.modify 0 (putTab (u32s Dig.Plain.hh))).modify 1 (putTab (u32s Dig.Plain.kk))).modify 2 (putTab (Seal.Plain.qt.map (Value.int .i64)).toArray) }
def numOf : Option Value → Int
  | some (.int _ z) => z
  | _ => 0
theorem cells5 : Tryd.prog.cellsOf 5 = 1 := by kernel_rfl
theorem cellsS : Tryd.prog.cellsOf 39 = 32 := by kernel_rfl
theorem open_sumL {H : Type} {enc : TypeId × Value → H} {W : World} {base : Nat} {sp : Nat → Bool} {held : Bool} {fuel : Nat} {cs : List Value} {x : DataW H × List MemPlace} (h : DataW.trod enc Tryd.prog W base sp held fuel 39 cs = some x) : ∃ D : List Int, cs = D.map (Value.int .u8) ∧ D.length = 32 ∧ Byt D := by
  obtain ⟨xs, m, _, _, hl, hn, hel⟩ := DataW.trod_array Tryd.underlying39 h
  rw [cellsS] at hl
  have key : ∀ i, i < 32 → ∃ z, cs[i]? = some (.int .u8 z) ∧ 0 ≤ z ∧ z ≤ 255 := by
    intro i hi
    have := hel i hi
    rw [cells5, Nat.mul_one] at this
    have hx : ∃ y, xs[i]? = some y := ⟨xs[i]'(by omega), by simp [hn, hi]⟩
    obtain ⟨y, hy⟩ := hx
    rw [hy] at this
    obtain ⟨z, hz, _, hw⟩ := DataW.trod_int Tryd.underlying5 this
    have hb := bounds_u8 hw
    refine ⟨z, ?_, by omega, by omega⟩
    have h1 := congrArg (·[0]?) hz
    simpa [List.getElem?_take, List.getElem?_drop] using h1
  refine ⟨(List.range 32).map fun i => numOf cs[i]?, ?_, by simp, ?_⟩
  · apply List.ext_getElem
    · simp [hl]
    · intro i h1 h2
      obtain ⟨z, hz, _⟩ := key i (by omega)
      have : cs[i] = .int .u8 z := by
        rw [List.getElem?_eq_getElem h1] at hz
        exact Option.some.inj hz
      simp [this, hz, numOf]
  · intro i
    by_cases hi : i < 32
    · obtain ⟨z, hz, h0, h1⟩ := key i hi
      simp [hi, hz, h0, h1, numOf]
    · simp [hi]
theorem open_sum {H : Type} {enc : TypeId × Value → H} {W : World} {base : Nat} {v : Value} {d : DataW H} {p : List MemPlace} (hval : Value.okWide Tryd.prog W .any base 39 v) (h : DataW.Trod enc Tryd.prog W 0 (fun _ => true) true 39 v d p) :
    ∃ D : List Int, v = .agg (u8s D) ∧ D.length = 32 ∧ Byt D := by
  simp only [Value.okWide, Tryd.underlying39] at hval
  obtain ⟨cs, rfl, h2, _⟩ := hval
  obtain ⟨fuel, hf⟩ := h
  have hcs : (Value.agg cs).cells = cs := rfl
  rw [hcs] at hf
  obtain ⟨D, hD, l, b⟩ := open_sumL hf
  exact ⟨D, by rw [u8s, ← hD], l, b⟩
end Go.Proofs.YteaejodihmnbcaaDoor
