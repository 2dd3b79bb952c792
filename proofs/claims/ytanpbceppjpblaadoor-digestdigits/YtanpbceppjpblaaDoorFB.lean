/-
  A digest that came in by value: an array of 32 bytes, opened.
-/
import Derived.Test.YtanpbceppjpblaaDoorFS
namespace Go.Proofs.YtanpbceppjpblaaDoor
set_option linter.unusedVariables false
open Go.RowKit Plain Go.WideShapes

theorem okWide_sum {W : World} {base : Nat} {v : Value} (h : Value.okWide Tryd.prog W .any base 25 v) : ∃ cs, v = .agg cs ∧ cs.size = 32 := by
  have hc : Tryd.prog.cellsOf 25 = 32 := by kernel_rfl
  simp only [Value.okWide, Tryd.underlying25] at h
  obtain ⟨cs, h1, h2, _⟩ := h
  exact ⟨cs, h1, h2.trans hc⟩
def numOf : Option Value → Int
  | some (.int _ z) => z
  | _ => 0
theorem open_sum {H : Type} {enc : TypeId × Value → H} {W : World} {base : Nat} {v : Value} {d : DataW H} {p : List MemPlace} (hval : Value.okWide Tryd.prog W .any base 25 v) (h : DataW.Trod enc Tryd.prog W 0 (fun _ => true) true 25 v d p) :
    ∃ D : List Int, v = .agg (u8s D) ∧ D.length = 32 ∧ Byt D := by
  obtain ⟨cs, rfl, hs⟩ := okWide_sum hval
  obtain ⟨fuel, hf⟩ := h
  obtain ⟨xs, m, _, _, hl, hn, hel⟩ := DataW.trod_array Tryd.underlying25 hf
  have hc5 : Tryd.prog.cellsOf 5 = 1 := by kernel_rfl
  have hcs : (Value.agg cs).cells = cs := rfl
  have key : ∀ i, i < 32 → ∃ z, cs[i]? = some (.int .u8 z) ∧ 0 ≤ z ∧ z ≤ 255 := by
    intro i hi
    have := hel i hi
    rw [hc5, Nat.mul_one] at this
    have hx : ∃ y, xs[i]? = some y := ⟨xs[i]'(by omega), by simp [hn, hi]⟩
    obtain ⟨y, hy⟩ := hx
    rw [hy] at this
    obtain ⟨z, hz, _, hw⟩ := DataW.trod_int Tryd.underlying5 this
    have hb := bounds_u8 hw
    refine ⟨z, ?_, by omega, by omega⟩
    have h1 := congrArg (·[0]?) hz
    simpa [List.getElem?_take, List.getElem?_drop, hcs] using h1
  refine ⟨(List.range 32).map fun i => numOf cs[i]?, ?_, by simp, ?_⟩
  · congr 1
    apply Array.ext
    · simp [u8s, hs]
    · intro i h1 h2
      obtain ⟨z, hz, _⟩ := key i (by omega)
      have : cs[i] = .int .u8 z := by
        rw [Array.getElem?_eq_getElem h1] at hz
        exact Option.some.inj hz
      simp [u8s, this, hz, numOf]
  · intro i
    by_cases hi : i < 32
    · obtain ⟨z, hz, h0, h1⟩ := key i hi
      simp [hi, hz, h0, h1, numOf]
    · simp [hi]
end Go.Proofs.YtanpbceppjpblaaDoor
