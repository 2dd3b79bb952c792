/-
  What the rows of this seat give the walks: the two tables out of the rows' list; a digest, a ref and a node that came in by value.
-/
import Derived.Test.YtlbapcpcabieaaaDoorG8
import Derived.Test.YtlbapcpcabieaaaDoorV4
import Derived.Test.YtlbapcpcabieaaaDoorCards
import Derived.Test.YtlbapcpcabieaaaDoorTie
import Derived.ProofKit
import Derived.OpenShut
import Derived.ShutString
import Derived.ChangeOld
import Derived.Below
import Derived.Deep.DeepHandedRow
import Derived.Lib.LaidTab
import Derived.Deep.Grids
namespace Go.Proofs.YtlbapcpcabieaaaDoor
set_option linter.unusedVariables false
open Go.RowKit Plain Go.WideShapes

theorem gFirst : Tryd.prog.globalNamed "reliquary/digest.first" = some 0 := by kernel_rfl
theorem gRounds : Tryd.prog.globalNamed "reliquary/digest.rounds" = some 1 := by kernel_rfl
theorem tFirst : (Tryd.prog.globals[0]?).map (·.type) = some 60 := by kernel_rfl
theorem tRounds : (Tryd.prog.globals[1]?).map (·.type) = some 72 := by kernel_rfl
/-- What all six rows list. -/
def laid2 : List (String × DataW Unit) := [("reliquary/digest.first", Lib.tabData .u32 Dig.Plain.hh), ("reliquary/digest.rounds", Lib.tabData .u32 Dig.Plain.kk)]
theorem laid2_is : laid2 = [("reliquary/digest.first", Rows.laid_reliquary_digest_first), ("reliquary/digest.rounds", Rows.laid_reliquary_digest_rounds)] := rfl

theorem cell_block {w : World} {b o : Nat} {v : Value} (h : w.cell? ⟨b, o, none⟩ = some v) : b < w.heap.size := by
  apply Nat.lt_of_not_le
  intro hle
  simp [World.cell?, Array.getElem?_eq_none hle] at h
/-- The two tables, out of the rows' list. -/
theorem tabs_of_laid {W : World} (h : laidMetH Tryd.prog laid2 W) : Dig.Tabs W := by
  have h' : laidMet Tryd.prog laid2 W := h
  obtain ⟨ps, ⟨g0, t0, cs0, f0, p0, q0, hg0, ht0, hv0, hd0, ⟨g1, t1, cs1, f1, p1, q1, hg1, ht1, hv1, hd1, _, _⟩, _⟩, _, _⟩ := h'
  obtain rfl := Option.some.inj (gFirst.symm.trans hg0)
  obtain rfl := Option.some.inj (gRounds.symm.trans hg1)
  obtain rfl := Option.some.inj (tFirst.symm.trans ht0)
  obtain rfl := Option.some.inj (tRounds.symm.trans ht1)
  have e0 : Lib.TabIs Tryd.prog W "reliquary/digest.first" .u32 Dig.Plain.hh := by
    unfold Lib.TabIs
    rw [hv0, ← Lib.cells_of_tab Tryd.underlying60 Tryd.underlying42 (by kernel_rfl) (by kernel_rfl) hd0]
  have e1 : Lib.TabIs Tryd.prog W "reliquary/digest.rounds" .u32 Dig.Plain.kk := by
    unfold Lib.TabIs
    rw [hv1, ← Lib.cells_of_tab Tryd.underlying72 Tryd.underlying42 (by kernel_rfl) (by kernel_rfl) hd1]
  refine ⟨?_, fun i hi => e0.cell gFirst i hi, fun i hi => e1.cell gRounds i hi⟩
  have := cell_block (e1.cell gRounds 0 (by decide))
  omega

def putTab (cs : Array Value) : Obj → Obj
  | .cells _ t frozen => .cells cs t frozen
  | o => o
/-- A world for the witness: the settled one, the two tables holding what their initialisers lay. -/
noncomputable def laidWorld (os : Os) : World :=
  { World.holding Tryd.prog os ⟨#[], #[], []⟩ with heap := ((World.holding Tryd.prog os ⟨#[], #[], []⟩).heap.modify 0 (putTab (u32s Dig.Plain.hh))).modify 1 (putTab (u32s Dig.Plain.kk)) }

def numOf : Option Value → Int
  | some (.int _ z) => z
  | _ => 0
theorem cells5 : Tryd.prog.cellsOf 5 = 1 := by kernel_rfl
theorem cellsU : Tryd.prog.cellsOf 24 = 1 := by kernel_rfl
theorem cellsS : Tryd.prog.cellsOf 23 = 32 := by kernel_rfl
theorem open_sumL {H : Type} {enc : TypeId × Value → H} {W : World} {base : Nat} {sp : Nat → Bool} {held : Bool} {fuel : Nat} {cs : List Value} {x : DataW H × List MemPlace} (h : DataW.trod enc Tryd.prog W base sp held fuel 23 cs = some x) : ∃ D : List Int, cs = D.map (Value.int .u8) ∧ D.length = 32 ∧ Byt D := by
  obtain ⟨xs, m, _, _, hl, hn, hel⟩ := DataW.trod_array Tryd.underlying23 h
  rw [cellsS] at hl
  have key : ∀ i, i < 32 → ∃ z, cs[i]? = some (.int .u8 z) ∧ 0 ≤ z ∧ z ≤ 255 := by
    intro i hi
    have := hel i hi
    rw [cells5, Nat.mul_one] at this
    have hx : ∃ y, xs[i]? = some y := ⟨xs[i]'(by omega), by simp [hn, hi]⟩
    obtain ⟨y, hy⟩ := hx
    rw [hy] at this
    obtain ⟨z, hz, _, hw⟩ := DataW.trod_int Tryd.underlying5 this
    have hb := bounds_u8 hw
    refine ⟨z, ?_, by omega, by omega⟩
    have h1 := congrArg (·[0]?) hz
    simpa [List.getElem?_take, List.getElem?_drop] using h1
  refine ⟨(List.range 32).map fun i => numOf cs[i]?, ?_, by simp, ?_⟩
  · apply List.ext_getElem
    · simp [hl]
    · intro i h1 h2
      obtain ⟨z, hz, _⟩ := key i (by omega)
      have : cs[i] = .int .u8 z := by
        rw [List.getElem?_eq_getElem h1] at hz
        exact Option.some.inj hz
      simp [this, hz, numOf]
  · intro i
    by_cases hi : i < 32
    · obtain ⟨z, hz, h0, h1⟩ := key i hi
      simp [hi, hz, h0, h1, numOf]
    · simp [hi]
theorem cellsR : Tryd.prog.cellsOf 26 = 33 := by kernel_rfl
theorem cellsN : Tryd.prog.cellsOf 28 = 132 := by kernel_rfl
theorem open_refL {H : Type} {enc : TypeId × Value → H} {W : World} {base : Nat} {sp : Nat → Bool} {held : Bool} {fuel : Nat} {cs : List Value} {x : DataW H × List MemPlace} (h : DataW.trod enc Tryd.prog W base sp held fuel 26 cs = some x) : ∃ r : Rf, cs = rc r ∧ OkR r := by
  obtain ⟨xs, k, hk, hxy, hl, hxl, hf⟩ := DataW.trod_struct Tryd.underlying26 h
  rw [cellsR] at hl
  have hxl2 : xs.length = 2 := hxl
  match xs, hxl2 with
  | [y0, y1], _ =>
    have g0 : DataW.trod enc Tryd.prog W base sp held k 23 ((cs.drop 0).take (Tryd.prog.cellsOf 23)) = some y0 := hf 0 _ rfl
    have g1 : DataW.trod enc Tryd.prog W base sp held k 24 ((cs.drop 32).take (Tryd.prog.cellsOf 24)) = some y1 := hf 1 _ rfl
    simp only [cellsS, cellsU] at g0 g1
    obtain ⟨d, e0, ld, bd⟩ := open_sumL g0
    obtain ⟨s, e1, _, w1⟩ := DataW.trod_int Tryd.underlying24 g1
    have b1 : N64 s := by have := bounds_u64 w1; exact ⟨by omega, by omega⟩
    refine ⟨⟨d, s⟩, ?_, ⟨ld, bd, b1⟩⟩
    have st : ∀ p q, (cs.drop p).take q ++ cs.drop (p + q) = cs.drop p := fun p q => by rw [← List.drop_drop, List.take_append_drop]
    have s0 := st 0 32
    have s1 := st 32 1
    rw [List.drop_zero] at s0 e0
    rw [e0] at s0
    rw [e1, List.drop_of_length_le (show cs.length ≤ 32 + 1 by omega), List.append_nil] at s1
    rw [← s0, ← s1]
    rfl
theorem open_ref {H : Type} {enc : TypeId × Value → H} {W : World} {base : Nat} {v : Value} {d : DataW H} {p : List MemPlace} (hval : Value.okWide Tryd.prog W .any base 26 v) (h : DataW.Trod enc Tryd.prog W 0 (fun _ => true) true 26 v d p) :
    ∃ r : Rf, v = .agg (ra r) ∧ OkR r := by
  simp only [Value.okWide, Tryd.underlying26] at hval
  obtain ⟨cs, rfl, h2, _⟩ := hval
  obtain ⟨fuel, hf⟩ := h
  have hcs : (Value.agg cs).cells = cs := rfl
  rw [hcs] at hf
  obtain ⟨r, hr, ok⟩ := open_refL hf
  exact ⟨r, by rw [ra, ← hr], ok⟩
theorem open_sum {H : Type} {enc : TypeId × Value → H} {W : World} {base : Nat} {v : Value} {d : DataW H} {p : List MemPlace} (hval : Value.okWide Tryd.prog W .any base 23 v) (h : DataW.Trod enc Tryd.prog W 0 (fun _ => true) true 23 v d p) :
    ∃ D : List Int, v = .agg (u8s D) ∧ D.length = 32 ∧ Byt D := by
  simp only [Value.okWide, Tryd.underlying23] at hval
  obtain ⟨cs, rfl, h2, _⟩ := hval
  obtain ⟨fuel, hf⟩ := h
  have hcs : (Value.agg cs).cells = cs := rfl
  rw [hcs] at hf
  obtain ⟨D, hD, l, b⟩ := open_sumL hf
  exact ⟨D, by rw [u8s, ← hD], l, b⟩
theorem open_node {H : Type} {enc : TypeId × Value → H} {W : World} {base : Nat} {v : Value} {d : DataW H} {p : List MemPlace} (hval : Value.okWide Tryd.prog W .any base 28 v) (h : DataW.Trod enc Tryd.prog W 0 (fun _ => true) true 28 v d p) :
    ∃ N : List Rf, v = .agg (na N) ∧ OkN N ∧ N.length = 4 := by
  simp only [Value.okWide, Tryd.underlying28] at hval
  obtain ⟨cs, rfl, h2, _⟩ := hval
  obtain ⟨fuel, hf⟩ := h
  have hcs : (Value.agg cs).cells = cs := rfl
  rw [hcs] at hf
  obtain ⟨xs, m, _, _, hl, hn, hel⟩ := DataW.trod_array Tryd.underlying28 hf
  rw [cellsN] at hl
  simp only [cellsR] at hel
  have key : ∀ i, i < 4 → ∃ r, (cs.toList.drop (i * 33)).take 33 = rc r ∧ OkR r := by
    intro i hi
    have := hel i hi
    have hx : ∃ y, xs[i]? = some y := ⟨xs[i]'(by omega), by simp [hn, hi]⟩
    obtain ⟨y, hy⟩ := hx
    rw [hy] at this
    exact open_refL this
  obtain ⟨r0, e0, o0⟩ := key 0 (by omega)
  obtain ⟨r1, e1, o1⟩ := key 1 (by omega)
  obtain ⟨r2, e2, o2⟩ := key 2 (by omega)
  obtain ⟨r3, e3, o3⟩ := key 3 (by omega)
  refine ⟨[r0, r1, r2, r3], ?_, ?_, rfl⟩
  · have st : ∀ p q, (cs.toList.drop p).take q ++ cs.toList.drop (p + q) = cs.toList.drop p := fun p q => by rw [← List.drop_drop, List.take_append_drop]
    have s0 := st 0 33
    have s1 := st 33 33
    have s2 := st 66 33
    have s3 := st 99 33
    simp only [Nat.zero_mul, Nat.one_mul, Nat.reduceMul] at e0 e1 e2 e3
    rw [e0, List.drop_zero] at s0
    rw [e1] at s1
    rw [e2] at s2
    rw [e3, List.drop_of_length_le (show cs.toList.length ≤ 99 + 33 by simpa using Nat.le_of_eq hl), List.append_nil] at s3
    have : cs.toList = nc [r0, r1, r2, r3] := by
      rw [← s0, ← s1, ← s2, ← s3]
      simp [nc]
    rw [na, ← this]
  · intro r hr
    simp only [List.mem_cons, List.not_mem_nil, or_false] at hr
    rcases hr with rfl | rfl | rfl | rfl
    · exact o0
    · exact o1
    · exact o2
    · exact o3
end Go.Proofs.YtlbapcpcabieaaaDoor
