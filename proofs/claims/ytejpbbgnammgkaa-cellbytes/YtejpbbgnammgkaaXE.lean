/-
  Cells as arguments: by value, and in a slice.
-/
import Derived.Test.YtejpbbgnammgkaaXC
import Derived.Deep.Grids
import Derived.Deep.Slices
namespace Go.Proofs.Ytejpbbgnammgkaa
open Go.ChangeShapes Go.WideShapes Go.RowKit Go.Proofs.Ytejpbbgnammgkaa.Plain
set_option linter.unusedVariables false

def numOf : Option Value → Int
  | some (.int _ z) => z
  | _ => 0
theorem cells5 : Try.prog.cellsOf 5 = 1 := by kernel_rfl
theorem cellsU : Try.prog.cellsOf 24 = 1 := by kernel_rfl
theorem cellsS : Try.prog.cellsOf 23 = 32 := by kernel_rfl
theorem cellsC : Try.prog.cellsOf 26 = 68 := by kernel_rfl
theorem open_sumL {H : Type} {enc : TypeId × Value → H} {W : World} {base : Nat} {sp : Nat → Bool} {held : Bool} {fuel : Nat} {cs : List Value} {x : DataW H × List MemPlace} (h : DataW.trod enc Try.prog W base sp held fuel 23 cs = some x) : ∃ D : List Int, cs = D.map (Value.int .u8) ∧ D.length = 32 ∧ Byt D := by
  obtain ⟨xs, m, _, _, hl, hn, hel⟩ := DataW.trod_array Try.underlying23 h
  rw [cellsS] at hl
  have key : ∀ i, i < 32 → ∃ z, cs[i]? = some (.int .u8 z) ∧ 0 ≤ z ∧ z ≤ 255 := by
    intro i hi
    have := hel i hi
    rw [cells5, Nat.mul_one] at this
    have hx : ∃ y, xs[i]? = some y := ⟨xs[i]'(by omega), by simp [hn, hi]⟩
    obtain ⟨y, hy⟩ := hx
    rw [hy] at this
    obtain ⟨z, hz, _, hw⟩ := DataW.trod_int Try.underlying5 this
    have hb := bounds_u8 hw
    refine ⟨z, ?_, by omega, by omega⟩
    have h1 := congrArg (·[0]?) hz
    simpa [List.getElem?_take, List.getElem?_drop] using h1
  refine ⟨(List.range 32).map fun i => numOf cs[i]?, ?_, by simp, ?_⟩
  · apply List.ext_getElem
    · simp [hl]
    · intro i h1 h2
      obtain ⟨z, hz, _⟩ := key i (by omega)
      have : cs[i] = .int .u8 z := by
        rw [List.getElem?_eq_getElem h1] at hz
        exact Option.some.inj hz
      simp [this, hz, numOf]
  · intro i
    by_cases hi : i < 32
    · obtain ⟨z, hz, h0, h1⟩ := key i hi
      simp [hi, hz, h0, h1, numOf]
    · simp [hi]
theorem open_cellL {H : Type} {enc : TypeId × Value → H} {W : World} {base : Nat} {sp : Nat → Bool} {held : Bool} {fuel : Nat} {cs : List Value} {x : DataW H × List MemPlace} (h : DataW.trod enc Try.prog W base sp held fuel 26 cs = some x) : ∃ C : Cl, cs = vs C ∧ Ok C := by
  obtain ⟨xs, k, hk, hxy, hl, hxl, hf⟩ := DataW.trod_struct Try.underlying26 h
  rw [cellsC] at hl
  have hxl6 : xs.length = 6 := hxl
  match xs, hxl6 with
  | [y0, y1, y2, y3, y4, y5], _ =>
    have g0 : DataW.trod enc Try.prog W base sp held k 23 ((cs.drop 0).take (Try.prog.cellsOf 23)) = some y0 := hf 0 _ rfl
    have g1 : DataW.trod enc Try.prog W base sp held k 24 ((cs.drop 32).take (Try.prog.cellsOf 24)) = some y1 := hf 1 _ rfl
    have g2 : DataW.trod enc Try.prog W base sp held k 24 ((cs.drop 33).take (Try.prog.cellsOf 24)) = some y2 := hf 2 _ rfl
    have g3 : DataW.trod enc Try.prog W base sp held k 24 ((cs.drop 34).take (Try.prog.cellsOf 24)) = some y3 := hf 3 _ rfl
    have g4 : DataW.trod enc Try.prog W base sp held k 24 ((cs.drop 35).take (Try.prog.cellsOf 24)) = some y4 := hf 4 _ rfl
    have g5 : DataW.trod enc Try.prog W base sp held k 23 ((cs.drop 36).take (Try.prog.cellsOf 23)) = some y5 := hf 5 _ rfl
    simp only [cellsS, cellsU] at g0 g1 g2 g3 g4 g5
    obtain ⟨r, e0, lr, br⟩ := open_sumL g0
    obtain ⟨v, e1, _, w1⟩ := DataW.trod_int Try.underlying24 g1
    obtain ⟨c, e2, _, w2⟩ := DataW.trod_int Try.underlying24 g2
    obtain ⟨s, e3, _, w3⟩ := DataW.trod_int Try.underlying24 g3
    obtain ⟨n, e4, _, w4⟩ := DataW.trod_int Try.underlying24 g4
    obtain ⟨t, e5, lt, bt⟩ := open_sumL g5
    have b1 : U64 v := by have := bounds_u64 w1; exact ⟨by omega, by omega⟩
    have b2 : U64 c := by have := bounds_u64 w2; exact ⟨by omega, by omega⟩
    have b3 : U64 s := by have := bounds_u64 w3; exact ⟨by omega, by omega⟩
    have b4 : U64 n := by have := bounds_u64 w4; exact ⟨by omega, by omega⟩
    refine ⟨⟨r, v, c, s, n, t⟩, ?_, ⟨lr, br, b1, b2, b3, b4, lt, bt⟩⟩
    have st : ∀ p q, (cs.drop p).take q ++ cs.drop (p + q) = cs.drop p := fun p q => by rw [← List.drop_drop, List.take_append_drop]
    have s0 := st 0 32
    have s1 := st 32 1
    have s2 := st 33 1
    have s3 := st 34 1
    have s4 := st 35 1
    have s5 := st 36 32
    rw [List.drop_zero] at s0 e0
    rw [e0] at s0
    rw [e1] at s1
    rw [e2] at s2
    rw [e3] at s3
    rw [e4] at s4
    rw [e5, List.drop_of_length_le (show cs.length ≤ 36 + 32 by omega), List.append_nil] at s5
    rw [← s0, ← s1, ← s2, ← s3, ← s4, ← s5]
    rfl
theorem open_cell {H : Type} {enc : TypeId × Value → H} {W : World} {base : Nat} {v : Value} {d : DataW H} {p : List MemPlace} (hval : Value.okWide Try.prog W .any base 26 v) (h : DataW.Trod enc Try.prog W 0 (fun _ => true) true 26 v d p) :
    ∃ C : Cl, v = .agg (av C) ∧ Ok C := by
  simp only [Value.okWide, Try.underlying26] at hval
  obtain ⟨cs, rfl, h2, _⟩ := hval
  obtain ⟨fuel, hf⟩ := h
  have hcs : (Value.agg cs).cells = cs := rfl
  rw [hcs] at hf
  obtain ⟨C, hC, ok⟩ := open_cellL hf
  refine ⟨C, ?_, ok⟩
  rw [av, ← hC]
/-- Cells in a slice that came in. -/
def Cells (W : World) (a : Option Addr) (len : Nat) : Prop := len ≤ maxLen ∧ (0 < len → ∃ b o, a = some ⟨b, o, none⟩ ∧ ∀ i, i < len → ∃ C, Ok C ∧ W.rangeAt b (o + i * 68) (vs C))
theorem open_cells {H : Type} {enc : TypeId × Value → H} {W : World} {base : Nat} {held : Bool} {fuel : Nat} {a : Option Addr} {len cap : Nat} {x : DataW H × List MemPlace} (h : DataW.trod enc Try.prog W base (fun _ => true) held fuel 34 [.slice a len cap] = some x) : Cells W a len := by
  rcases Go.Deep.open_slice Try.underlying34 h with ⟨hcs, _⟩ | ⟨ad, l, c, m, n, D, Pl, hcs, hb, hl, hm, hmm, hx, hi⟩
  · simp only [List.cons.injEq, Value.slice.injEq, and_true] at hcs
    obtain ⟨rfl, rfl, rfl⟩ := hcs
    exact ⟨by decide, fun h => by omega⟩
  · simp only [List.cons.injEq, Value.slice.injEq, and_true] at hcs
    obtain ⟨rfl, rfl, rfl⟩ := hcs
    refine ⟨Nat.le_trans hl hm, fun h0 => ?_⟩
    simp only [if_true] at hmm
    subst hmm
    rw [cellsC] at hi
    have h00 : ∃ b o, ad = ⟨b, o, none⟩ := by
      obtain ⟨cs', h1, _⟩ := hi 0 (by omega)
      obtain ⟨_, hlen, hcell⟩ := World.cells?_some h1
      have h2 := hcell 0 (by omega)
      obtain ⟨b, o, l⟩ := ad
      cases l with
      | none => exact ⟨b, o, rfl⟩
      | some l =>
        have h3 : (cs'[0]?).isSome = true := by simp [hlen]
        rw [← h2] at h3
        simp [Addr.add, World.cell?] at h3
        split at h3 <;> simp at h3
    obtain ⟨b, o, rfl⟩ := h00
    refine ⟨b, o, rfl, fun i hil => ?_⟩
    obtain ⟨cs', h1, h2⟩ := hi i (by omega)
    obtain ⟨_, hlen, hcell⟩ := World.cells?_some h1
    obtain ⟨C, rfl, ok⟩ := open_cellL h2
    refine ⟨C, ok, fun j v hv => ?_⟩
    have hj : j < 68 := by
      have := (List.getElem?_eq_some_iff.1 hv).1
      omega
    have h3 := hcell j hj
    rw [Addr.add_lit, Addr.add_lit, hv] at h3
    exact h3
end Go.Proofs.Ytejpbbgnammgkaa
