/-
  What the rows of this seat give the walks: the table out of the rows' list; a slice of bytes, and arrays of bytes, that came in.
-/
import Derived.Test.YtgfpbbikdmnnhaaDoorV1
import Derived.Test.YtgfpbbikdmnnhaaDoorCards
import Derived.Test.YtgfpbbikdmnnhaaDoorTie
import Derived.ProofKit
import Derived.OpenShut
import Derived.ShutString
import Derived.ChangeOld
import Derived.Below
import Derived.Deep.DeepHandedRow
import Derived.Lib.LaidTab
namespace Go.Proofs.YtgfpbbikdmnnhaaDoor
set_option linter.unusedVariables false
open Go.RowKit Plain Go.WideShapes

theorem own : ownKnob Tryd.prog.godebug = none := by kernel_rfl
theorem laidOut : laidOutB Tryd.prog = true := by kernel_rfl
theorem gQuart : Tryd.prog.globalNamed "reliquary/cipher.quarters" = some 0 := by kernel_rfl
theorem tQuart : (Tryd.prog.globals[0]?).map (·.type) = some 72 := by kernel_rfl
def quads : List (List Int) := [[0, 4, 8, 12], [1, 5, 9, 13], [2, 6, 10, 14], [3, 7, 11, 15], [0, 5, 10, 15], [1, 6, 11, 12], [2, 7, 8, 13], [3, 4, 9, 14]]
/-- What all six rows list. -/
def laid1 : List (String × DataW Unit) := [("reliquary/cipher.quarters", .agg (quads.map (Lib.tabData .i64)))]
theorem laid1_is : laid1 = [("reliquary/cipher.quarters", Rows.laid_reliquary_cipher_quarters)] := rfl

theorem cell_block {w : World} {b o : Nat} {v : Value} (h : w.cell? ⟨b, o, none⟩ = some v) : b < w.heap.size := by
  apply Nat.lt_of_not_le
  intro hle
  simp [World.cell?, Array.getElem?_eq_none hle] at h
theorem quads_at (i : Nat) (h : i < 32) : (quads.getD (i / 4) []).getD (i % 4) 0 = qt.getD i 0 ∧ (quads.getD (i / 4) []).length = 4 := by
  have key : ∀ k : Fin 32, (quads.getD (k.val / 4) []).getD (k.val % 4) 0 = qt.getD k.val 0 ∧ (quads.getD (k.val / 4) []).length = 4 := by decide +kernel
  exact key ⟨i, h⟩
/-- The table, out of the rows' list. -/
theorem tab_of_laid {W : World} (h : laidMetH Tryd.prog laid1 W) : Tab W := by
  have h' : laidMet Tryd.prog laid1 W := h
  obtain ⟨ps, ⟨g0, t0, cs0, f0, p0, q0, hg0, ht0, hv0, hd0, _, _⟩, _, _⟩ := h'
  obtain rfl := Option.some.inj (gQuart.symm.trans hg0)
  obtain rfl := Option.some.inj (tQuart.symm.trans ht0)
  obtain ⟨xs, m, _, hx, hl, hn, hel⟩ := DataW.trod_array Tryd.underlying72 hd0
  have hc4 : Tryd.prog.cellsOf 71 = 4 := by kernel_rfl
  have hx1 : xs.map (·.1) = quads.map (Lib.tabData .i64) := by
    have := congrArg Prod.fst hx
    simp only [DataW.agg.injEq] at this
    exact this.symm
  have hrow : ∀ j, j < 8 → (cs0.toList.drop (j * 4)).take 4 = (quads.getD j []).map fun z => Value.int .i64 z := by
    intro j hj
    have h1 := hel j hj
    rw [hc4] at h1
    obtain ⟨y, hy⟩ : ∃ y, xs[j]? = some y := ⟨xs[j]'(by omega), by simp [hn, hj]⟩
    rw [hy] at h1
    obtain ⟨y1, y2⟩ := y
    have e1 : y1 = Lib.tabData .i64 (quads.getD j []) := by
      have h2 : (xs.map (·.1))[j]? = some y1 := by simp [hy]
      rw [hx1] at h2
      have hq : j < quads.length := hj
      simp only [List.getElem?_map, List.getElem?_eq_getElem hq, Option.map_some, Option.some.injEq] at h2
      rw [← h2]
      simp [List.getD, hq]
    subst e1
    exact Lib.cells_of_tab Tryd.underlying71 Tryd.underlying3 (by kernel_rfl) (by kernel_rfl) h1
  have hcell : ∀ i, i < 32 → W.cell? ⟨0, i, none⟩ = some (.int .i64 (qt.getD i 0)) := by
    intro i hi
    have h1 := hrow (i / 4) (by omega)
    have h2 := congrArg (·[i % 4]?) h1
    simp only [List.getElem?_take, List.getElem?_drop, List.getElem?_map] at h2
    rw [if_pos (by omega), show i / 4 * 4 + i % 4 = i by omega] at h2
    obtain ⟨q1, q2⟩ := quads_at i hi
    have q3 : (quads.getD (i / 4) [])[i % 4]? = some (qt.getD i 0) := by
      rw [← q1]
      have : i % 4 < (quads.getD (i / 4) []).length := by omega
      generalize quads.getD (i / 4) [] = Q at this ⊢
      simp [List.getD, this]
    rw [q3] at h2
    have h3 := World.var?_cell gQuart hv0 i
    rw [h3]
    simpa using h2
  exact ⟨cell_block (hcell 0 (by omega)), hcell⟩

def putTab (cs : Array Value) : Obj → Obj
  | .cells _ t frozen => .cells cs t frozen
  | o => o
/-- A world for the witness: the settled one, the table holding what its initialiser lays. -/
noncomputable def laidWorld (os : Os) : World :=
  { World.holding Tryd.prog os ⟨#[], #[], []⟩ with heap := (World.holding Tryd.prog os ⟨#[], #[], []⟩).heap.modify 0 (putTab (i64s qt)) }

/-- A slice of integers that came in: nil, or a row of 'cap' cells, the numbers 'zs', of which the first 'len' are its elements. -/
def IsRow (k : IntKind) (w : World) (a : Option Addr) (len cap : Nat) (zs : List Int) : Prop :=
  (a = none ∧ len = 0 ∧ cap = 0 ∧ zs = []) ∨
  ∃ x, a = some x ∧ len ≤ cap ∧ cap ≤ maxLen ∧ zs.length = cap ∧ (∀ i, i < zs.length → w.cell? (x.add i) = some (.int k (zs.getD i 0))) ∧ ∀ n ∈ zs, (Lit.int k n).wf = true
theorem IsRow.cells {k : IntKind} {w : World} {a : Option Addr} {len cap : Nat} {zs : List Int} (h : IsRow k w a len cap zs) :
    (zs.take len).length = len ∧ (∀ n ∈ zs.take len, (Lit.int k n).wf = true) ∧ (0 < len → ∃ b off, a = some ⟨b, off, none⟩ ∧ b < w.heap.size ∧ ∀ i, i < len → w.cell? ⟨b, off + i, none⟩ = some (.int k ((zs.take len).getD i 0))) := by
  rcases h with ⟨rfl, rfl, rfl, rfl⟩ | ⟨⟨b, off, spot⟩, rfl, hl, hm, hz, hcell, hwz⟩
  · exact ⟨rfl, by simp, by omega⟩
  · refine ⟨by rw [List.length_take]; omega, fun n hn => hwz n (List.mem_of_mem_take hn), fun hp => ?_⟩
    have h0 := hcell 0 (by omega)
    have hspot : spot = none := by simpa [Addr.add] using World.cell?_spot h0
    subst hspot
    have hc : ∀ i, i < len → w.cell? ⟨b, off + i, none⟩ = some (.int k ((zs.take len).getD i 0)) := by
      intro i hi
      have := hcell i (by omega)
      rw [Addr.add_lit] at this
      rw [this]
      simp only [List.getD, List.getElem?_take, if_pos hi]
    exact ⟨b, off, rfl, cell_block (hc 0 hp), hc⟩
theorem IsRow.bytes {w : World} {a : Option Addr} {len cap : Nat} {zs : List Int} (h : IsRow .u8 w a len cap zs) : Bytes w a len (zs.take len) := by
  obtain ⟨h1, h2, h3⟩ := h.cells
  refine ⟨h1, fun i => ?_, h3⟩
  by_cases hi : i < (zs.take len).length
  · have := bounds_u8 (h2 _ (List.getElem_mem hi))
    have e : (zs.take len).getD i 0 = (zs.take len)[i] := by simp only [List.getD, List.getElem?_eq_getElem hi, Option.getD_some]
    rw [e]
    omega
  · simp [List.getD, List.getElem?_eq_none (Nat.le_of_not_lt hi)]
theorem IsRow.len {k : IntKind} {w : World} {a : Option Addr} {len cap : Nat} {zs : List Int} (h : IsRow k w a len cap zs) : len ≤ maxLen := by
  rcases h with ⟨_, rfl, _⟩ | ⟨_, _, h1, h2, _⟩
  · exact Nat.zero_le _
  · omega
theorem okWide_arr {t : TypeId} {n : Nat} (hu : Tryd.prog.underlying t = some (.array n 5)) (hc : Tryd.prog.cellsOf t = n) {W : World} {base : Nat} {v : Value} (h : Value.okWide Tryd.prog W .any base t v) : ∃ cs, v = .agg cs ∧ cs.size = n := by
  simp only [Value.okWide, hu] at h
  obtain ⟨cs, h1, h2, _⟩ := h
  exact ⟨cs, h1, h2.trans hc⟩
def numOf : Option Value → Int
  | some (.int _ z) => z
  | _ => 0
theorem open_arr {t : TypeId} {n : Nat} (hu : Tryd.prog.underlying t = some (.array n 5)) (hc : Tryd.prog.cellsOf t = n) {H : Type} {enc : TypeId × Value → H} {W : World} {base : Nat} {v : Value} {d : DataW H} {p : List MemPlace} (hval : Value.okWide Tryd.prog W .any base t v) (h : DataW.Trod enc Tryd.prog W 0 (fun _ => true) true t v d p) :
    ∃ D : List Int, v = .agg (u8s D) ∧ D.length = n ∧ Byt D := by
  obtain ⟨cs, rfl, hs⟩ := okWide_arr hu hc hval
  obtain ⟨fuel, hf⟩ := h
  obtain ⟨xs, m, _, _, hl, hn, hel⟩ := DataW.trod_array hu hf
  have hc5 : Tryd.prog.cellsOf 5 = 1 := by kernel_rfl
  have hcs : (Value.agg cs).cells = cs := rfl
  have key : ∀ i, i < n → ∃ z, cs[i]? = some (.int .u8 z) ∧ 0 ≤ z ∧ z ≤ 255 := by
    intro i hi
    have := hel i hi
    rw [hc5, Nat.mul_one] at this
    have hx : ∃ y, xs[i]? = some y := ⟨xs[i]'(by omega), by simp [hn, hi]⟩
    obtain ⟨y, hy⟩ := hx
    rw [hy] at this
    obtain ⟨z, hz, _, hw⟩ := DataW.trod_int Tryd.underlying5 this
    have hb := bounds_u8 hw
    refine ⟨z, ?_, by omega, by omega⟩
    have h1 := congrArg (·[0]?) hz
    simpa [List.getElem?_take, List.getElem?_drop, hcs] using h1
  refine ⟨(List.range n).map fun i => numOf cs[i]?, ?_, by simp, ?_⟩
  · congr 1
    apply Array.ext
    · simp [u8s, hs]
    · intro i h1 h2
      obtain ⟨z, hz, _⟩ := key i (by omega)
      have : cs[i] = .int .u8 z := by
        rw [Array.getElem?_eq_getElem h1] at hz
        exact Option.some.inj hz
      simp [u8s, this, hz, numOf]
  · intro i
    by_cases hi : i < n
    · obtain ⟨z, hz, h0, h1⟩ := key i hi
      simp [hi, hz, h0, h1, numOf]
    · simp [hi]
end Go.Proofs.YtgfpbbikdmnnhaaDoor
