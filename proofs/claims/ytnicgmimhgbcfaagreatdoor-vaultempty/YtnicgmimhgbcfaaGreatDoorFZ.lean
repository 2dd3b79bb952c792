/-
  What the rows of this seat give the walks: the three tables out of the rows' list; a digest and a ref that came in by value.
-/
import Derived.Test.YtnicgmimhgbcfaaGreatDoorWW
import Derived.Test.YtnicgmimhgbcfaaGreatDoorMA
import Derived.Test.YtnicgmimhgbcfaaGreatDoorCards
import Derived.Test.YtnicgmimhgbcfaaGreatDoorTie
import Derived.ProofKit
import Derived.OpenShut
import Derived.ShutString
import Derived.ChangeOld
import Derived.Below
import Derived.Deep.DeepHandedRow
import Derived.Lib.LaidTab
import Derived.Deep.Grids
namespace Go.Proofs.YtnicgmimhgbcfaaGreatDoor
set_option linter.unusedVariables false
set_option maxRecDepth 100000
open Go.RowKit Plain Go.WideShapes

theorem gFirst : Tryz.prog.globalNamed "reliquary/digest.first" = some 0 := by kernel_rfl
theorem gRounds : Tryz.prog.globalNamed "reliquary/digest.rounds" = some 1 := by kernel_rfl
theorem gQuart : Tryz.prog.globalNamed "reliquary/cipher.quarters" = some 2 := by kernel_rfl
theorem tFirst : (Tryz.prog.globals[0]?).map (·.type) = some 154 := by kernel_rfl
theorem tRounds : (Tryz.prog.globals[1]?).map (·.type) = some 212 := by kernel_rfl
theorem tQuart : (Tryz.prog.globals[2]?).map (·.type) = some 279 := by kernel_rfl
def quads : List (List Int) := [[0, 4, 8, 12], [1, 5, 9, 13], [2, 6, 10, 14], [3, 7, 11, 15], [0, 5, 10, 15], [1, 6, 11, 12], [2, 7, 8, 13], [3, 4, 9, 14]]
/-- What all rows list. -/
def laid3 : List (String × DataW Unit) := [("reliquary/digest.first", Lib.tabData .u32 Dig.Plain.hh), ("reliquary/digest.rounds", Lib.tabData .u32 Dig.Plain.kk), ("reliquary/cipher.quarters", .agg (quads.map (Lib.tabData .i64)))]
theorem laid3_is : laid3 = [("reliquary/digest.first", Rows.laid_reliquary_digest_first), ("reliquary/digest.rounds", Rows.laid_reliquary_digest_rounds), ("reliquary/cipher.quarters", Rows.laid_reliquary_cipher_quarters)] := rfl

theorem cell_block {w : World} {b o : Nat} {v : Value} (h : w.cell? ⟨b, o, none⟩ = some v) : b < w.heap.size := by
  apply Nat.lt_of_not_le
  intro hle
  simp [World.cell?, Array.getElem?_eq_none hle] at h
theorem quads_at (i : Nat) (h : i < 32) : (quads.getD (i / 4) []).getD (i % 4) 0 = Seal.Plain.qt.getD i 0 ∧ (quads.getD (i / 4) []).length = 4 := by
  have key : ∀ k : Fin 32, (quads.getD (k.val / 4) []).getD (k.val % 4) 0 = Seal.Plain.qt.getD k.val 0 ∧ (quads.getD (k.val / 4) []).length = 4 := by decide +kernel
  exact key ⟨i, h⟩
/-- The three tables, out of the rows' list. -/
theorem tabs_of_laid {W : World} (h : laidMetH Tryz.prog laid3 W) : Dig.Tabs W ∧ Seal.Tab W := by
  have h' : laidMet Tryz.prog laid3 W := h
  obtain ⟨ps, ⟨g0, t0, cs0, f0, p0, q0, hg0, ht0, hv0, hd0, ⟨g1, t1, cs1, f1, p1, q1, hg1, ht1, hv1, hd1, ⟨g2, t2, cs2, f2, p2, q2, hg2, ht2, hv2, hd2, _, _⟩, _⟩, _⟩, _, _⟩ := h'
  obtain rfl := Option.some.inj (gFirst.symm.trans hg0)
  obtain rfl := Option.some.inj (gRounds.symm.trans hg1)
  obtain rfl := Option.some.inj (gQuart.symm.trans hg2)
  obtain rfl := Option.some.inj (tFirst.symm.trans ht0)
  obtain rfl := Option.some.inj (tRounds.symm.trans ht1)
  obtain rfl := Option.some.inj (tQuart.symm.trans ht2)
  have e0 : Lib.TabIs Tryz.prog W "reliquary/digest.first" .u32 Dig.Plain.hh := by
    unfold Lib.TabIs
    rw [hv0, ← Lib.cells_of_tab Tryz.underlying154 Tryz.underlying153 (by kernel_rfl) (by kernel_rfl) hd0]
  have e1 : Lib.TabIs Tryz.prog W "reliquary/digest.rounds" .u32 Dig.Plain.kk := by
    unfold Lib.TabIs
    rw [hv1, ← Lib.cells_of_tab Tryz.underlying212 Tryz.underlying153 (by kernel_rfl) (by kernel_rfl) hd1]
  obtain ⟨xs, m, _, hx, hl, hn, hel⟩ := DataW.trod_array Tryz.underlying279 hd2
  have hc4 : Tryz.prog.cellsOf 278 = 4 := by kernel_rfl
  have hx1 : xs.map (·.1) = quads.map (Lib.tabData .i64) := by
    have := congrArg Prod.fst hx
    simp only [DataW.agg.injEq] at this
    exact this.symm
  have hrow : ∀ j, j < 8 → (cs2.toList.drop (j * 4)).take 4 = (quads.getD j []).map fun z => Value.int .i64 z := by
    intro j hj
    have h1 := hel j hj
    rw [hc4] at h1
    obtain ⟨y, hy⟩ : ∃ y, xs[j]? = some y := ⟨xs[j]'(by omega), by simp [hn, hj]⟩
    rw [hy] at h1
    obtain ⟨y1, y2⟩ := y
    have e1 : y1 = Lib.tabData .i64 (quads.getD j []) := by
      have h2 : (xs.map (·.1))[j]? = some y1 := by simp [hy]
      rw [hx1] at h2
      have hq : j < quads.length := hj
      simp only [List.getElem?_map, List.getElem?_eq_getElem hq, Option.map_some, Option.some.injEq] at h2
      rw [← h2]
      simp [List.getD, hq]
    subst e1
    exact Lib.cells_of_tab Tryz.underlying278 Tryz.underlying3 (by kernel_rfl) (by kernel_rfl) h1
  have hcell : ∀ i, i < 32 → W.cell? ⟨2, i, none⟩ = some (.int .i64 (Seal.Plain.qt.getD i 0)) := by
    intro i hi
    have h1 := hrow (i / 4) (by omega)
    have h2 := congrArg (·[i % 4]?) h1
    simp only [List.getElem?_take, List.getElem?_drop, List.getElem?_map] at h2
    rw [if_pos (by omega), show i / 4 * 4 + i % 4 = i by omega] at h2
    obtain ⟨q1, q2⟩ := quads_at i hi
    have q3 : (quads.getD (i / 4) [])[i % 4]? = some (Seal.Plain.qt.getD i 0) := by
      rw [← q1]
      have : i % 4 < (quads.getD (i / 4) []).length := by omega
      generalize quads.getD (i / 4) [] = Q at this ⊢
      simp [List.getD, this]
    rw [q3] at h2
    have h3 := World.var?_cell gQuart hv2 i
    rw [h3]
    simpa using h2
  refine ⟨⟨?_, fun i hi => e0.cell gFirst i hi, fun i hi => e1.cell gRounds i hi⟩, cell_block (hcell 0 (by omega)), hcell⟩
  have := cell_block (e1.cell gRounds 0 (by decide))
  omega

def putTab (cs : Array Value) : Obj → Obj
  | .cells _ t frozen => .cells cs t frozen
  | o => o
/-- A world for the witness: the settled one, the tables holding what their initialisers lay. -/
noncomputable def laidWorld (os : Os) : World :=
  { World.holding Tryz.prog os ⟨#[], #[], []⟩ with heap := (((World.holding Tryz.prog os ⟨#[], #[], []⟩).heap.modify 0 (putTab (u32s Dig.Plain.hh))).modify 1 (putTab (u32s Dig.Plain.kk))).modify 2 (putTab (Seal.Plain.qt.map (Value.int .i64)).toArray) }

def numOf : Option Value → Int
  | some (.int _ z) => z
  | _ => 0
theorem cells5 : Tryz.prog.cellsOf 5 = 1 := by kernel_rfl
theorem cellsU : Tryz.prog.cellsOf 24 = 1 := by kernel_rfl
theorem cellsS : Tryz.prog.cellsOf 23 = 32 := by kernel_rfl
theorem open_sumL {H : Type} {enc : TypeId × Value → H} {W : World} {base : Nat} {sp : Nat → Bool} {held : Bool} {fuel : Nat} {cs : List Value} {x : DataW H × List MemPlace} (h : DataW.trod enc Tryz.prog W base sp held fuel 23 cs = some x) : ∃ D : List Int, cs = D.map (Value.int .u8) ∧ D.length = 32 ∧ Byt D := by
  obtain ⟨xs, m, _, _, hl, hn, hel⟩ := DataW.trod_array Tryz.underlying23 h
  rw [cellsS] at hl
  have key : ∀ i, i < 32 → ∃ z, cs[i]? = some (.int .u8 z) ∧ 0 ≤ z ∧ z ≤ 255 := by
    intro i hi
    have := hel i hi
    rw [cells5, Nat.mul_one] at this
    have hx : ∃ y, xs[i]? = some y := ⟨xs[i]'(by omega), by simp [hn, hi]⟩
    obtain ⟨y, hy⟩ := hx
    rw [hy] at this
    obtain ⟨z, hz, _, hw⟩ := DataW.trod_int Tryz.underlying5 this
    have hb := bounds_u8 hw
    refine ⟨z, ?_, by omega, by omega⟩
    have h1 := congrArg (·[0]?) hz
    simpa [List.getElem?_take, List.getElem?_drop] using h1
  refine ⟨(List.range 32).map fun i => numOf cs[i]?, ?_, by simp, ?_⟩
  · apply List.ext_getElem
    · simp [hl]
    · intro i h1 h2
      obtain ⟨z, hz, _⟩ := key i (by omega)
      have : cs[i] = .int .u8 z := by
        rw [List.getElem?_eq_getElem h1] at hz
        exact Option.some.inj hz
      simp [this, hz, numOf]
  · intro i
    by_cases hi : i < 32
    · obtain ⟨z, hz, h0, h1⟩ := key i hi
      simp [hi, hz, h0, h1, numOf]
    · simp [hi]
theorem cellsR : Tryz.prog.cellsOf 26 = 33 := by kernel_rfl
theorem cellsN : Tryz.prog.cellsOf 148 = 132 := by kernel_rfl
theorem open_refL {H : Type} {enc : TypeId × Value → H} {W : World} {base : Nat} {sp : Nat → Bool} {held : Bool} {fuel : Nat} {cs : List Value} {x : DataW H × List MemPlace} (h : DataW.trod enc Tryz.prog W base sp held fuel 26 cs = some x) : ∃ r : Rf, cs = rc r ∧ OkR r := by
  obtain ⟨xs, k, hk, hxy, hl, hxl, hf⟩ := DataW.trod_struct Tryz.underlying26 h
  rw [cellsR] at hl
  have hxl2 : xs.length = 2 := hxl
  match xs, hxl2 with
  | [y0, y1], _ =>
    have g0 : DataW.trod enc Tryz.prog W base sp held k 23 ((cs.drop 0).take (Tryz.prog.cellsOf 23)) = some y0 := hf 0 _ rfl
    have g1 : DataW.trod enc Tryz.prog W base sp held k 24 ((cs.drop 32).take (Tryz.prog.cellsOf 24)) = some y1 := hf 1 _ rfl
    simp only [cellsS, cellsU] at g0 g1
    obtain ⟨d, e0, ld, bd⟩ := open_sumL g0
    obtain ⟨s, e1, _, w1⟩ := DataW.trod_int Tryz.underlying24 g1
    have b1 : N64 s := by have := bounds_u64 w1; exact ⟨by omega, by omega⟩
    refine ⟨⟨d, s⟩, ?_, ⟨ld, bd, b1⟩⟩
    have st : ∀ p q, (cs.drop p).take q ++ cs.drop (p + q) = cs.drop p := fun p q => by rw [← List.drop_drop, List.take_append_drop]
    have s0 := st 0 32
    have s1 := st 32 1
    rw [List.drop_zero] at s0 e0
    rw [e0] at s0
    rw [e1, List.drop_of_length_le (show cs.length ≤ 32 + 1 by omega), List.append_nil] at s1
    rw [← s0, ← s1]
    rfl
theorem open_ref {H : Type} {enc : TypeId × Value → H} {W : World} {base : Nat} {v : Value} {d : DataW H} {p : List MemPlace} (hval : Value.okWide Tryz.prog W .any base 26 v) (h : DataW.Trod enc Tryz.prog W 0 (fun _ => true) true 26 v d p) :
    ∃ r : Rf, v = .agg (ra r) ∧ OkR r := by
  simp only [Value.okWide, Tryz.underlying26] at hval
  obtain ⟨cs, rfl, h2, _⟩ := hval
  obtain ⟨fuel, hf⟩ := h
  have hcs : (Value.agg cs).cells = cs := rfl
  rw [hcs] at hf
  obtain ⟨r, hr, ok⟩ := open_refL hf
  exact ⟨r, by rw [ra, ← hr], ok⟩
theorem open_sum {H : Type} {enc : TypeId × Value → H} {W : World} {base : Nat} {v : Value} {d : DataW H} {p : List MemPlace} (hval : Value.okWide Tryz.prog W .any base 23 v) (h : DataW.Trod enc Tryz.prog W 0 (fun _ => true) true 23 v d p) :
    ∃ D : List Int, v = .agg (u8s D) ∧ D.length = 32 ∧ Byt D := by
  simp only [Value.okWide, Tryz.underlying23] at hval
  obtain ⟨cs, rfl, h2, _⟩ := hval
  obtain ⟨fuel, hf⟩ := h
  have hcs : (Value.agg cs).cells = cs := rfl
  rw [hcs] at hf
  obtain ⟨D, hD, l, b⟩ := open_sumL hf
  exact ⟨D, by rw [u8s, ← hD], l, b⟩
theorem open_node {H : Type} {enc : TypeId × Value → H} {W : World} {base : Nat} {v : Value} {d : DataW H} {p : List MemPlace} (hval : Value.okWide Tryz.prog W .any base 148 v) (h : DataW.Trod enc Tryz.prog W 0 (fun _ => true) true 148 v d p) :
    ∃ N : List Rf, v = .agg (na N) ∧ OkN N ∧ N.length = 4 := by
  simp only [Value.okWide, Tryz.underlying148] at hval
  obtain ⟨cs, rfl, h2, _⟩ := hval
  obtain ⟨fuel, hf⟩ := h
  have hcs : (Value.agg cs).cells = cs := rfl
  rw [hcs] at hf
  obtain ⟨xs, m, _, _, hl, hn, hel⟩ := DataW.trod_array Tryz.underlying148 hf
  rw [cellsN] at hl
  simp only [cellsR] at hel
  have key : ∀ i, i < 4 → ∃ r, (cs.toList.drop (i * 33)).take 33 = rc r ∧ OkR r := by
    intro i hi
    have := hel i hi
    have hx : ∃ y, xs[i]? = some y := ⟨xs[i]'(by omega), by simp [hn, hi]⟩
    obtain ⟨y, hy⟩ := hx
    rw [hy] at this
    exact open_refL this
  obtain ⟨r0, e0, o0⟩ := key 0 (by omega)
  obtain ⟨r1, e1, o1⟩ := key 1 (by omega)
  obtain ⟨r2, e2, o2⟩ := key 2 (by omega)
  obtain ⟨r3, e3, o3⟩ := key 3 (by omega)
  refine ⟨[r0, r1, r2, r3], ?_, ?_, rfl⟩
  · have st : ∀ p q, (cs.toList.drop p).take q ++ cs.toList.drop (p + q) = cs.toList.drop p := fun p q => by rw [← List.drop_drop, List.take_append_drop]
    have s0 := st 0 33
    have s1 := st 33 33
    have s2 := st 66 33
    have s3 := st 99 33
    simp only [Nat.zero_mul, Nat.one_mul, Nat.reduceMul] at e0 e1 e2 e3
    rw [e0, List.drop_zero] at s0
    rw [e1] at s1
    rw [e2] at s2
    rw [e3, List.drop_of_length_le (show cs.toList.length ≤ 99 + 33 by simpa using Nat.le_of_eq hl), List.append_nil] at s3
    have : cs.toList = nc [r0, r1, r2, r3] := by
      rw [← s0, ← s1, ← s2, ← s3]
      simp [nc]
    rw [na, ← this]
  · intro r hr
    simp only [List.mem_cons, List.not_mem_nil, or_false] at hr
    rcases hr with rfl | rfl | rfl | rfl
    · exact o0
    · exact o1
    · exact o2
    · exact o3
end Go.Proofs.YtnicgmimhgbcfaaGreatDoor
