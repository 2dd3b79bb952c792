/-
  Inodes as arguments.
-/
import Derived.Test.YtpdggopkalbbeaaNC
import Derived.Deep.Grids
import Derived.Deep.Slices
namespace Go.Proofs.Ytpdggopkalbbeaa
open Go.ChangeShapes Go.WideShapes Go.RowKit Go.Proofs.Ytpdggopkalbbeaa.Plain
set_option linter.unusedVariables false

theorem cells5 : Try.prog.cellsOf 5 = 1 := by kernel_rfl
theorem cells16 : Try.prog.cellsOf 22 = 1 := by kernel_rfl
theorem cells32 : Try.prog.cellsOf 23 = 1 := by kernel_rfl
theorem cells3 : Try.prog.cellsOf 24 = 3 := by kernel_rfl
theorem cellsN : Try.prog.cellsOf 26 = 8 := by kernel_rfl
theorem open_three {H : Type} {enc : TypeId × Value → H} {W : World} {base : Nat} {sp : Nat → Bool} {held : Bool} {fuel : Nat} {cs : List Value} {x : DataW H × List MemPlace} (h : DataW.trod enc Try.prog W base sp held fuel 24 cs = some x) : ∃ a b c : Int, cs = [.int .u16 a, .int .u16 b, .int .u16 c] ∧ U16 a ∧ U16 b ∧ U16 c := by
  obtain ⟨xs, m, _, _, hl, hn, hel⟩ := DataW.trod_array Try.underlying24 h
  rw [cells3] at hl
  have key : ∀ i, i < 3 → ∃ z, cs[i]? = some (.int .u16 z) ∧ U16 z := by
    intro i hi
    have := hel i hi
    rw [cells16, Nat.mul_one] at this
    have hx : ∃ y, xs[i]? = some y := ⟨xs[i]'(by omega), by simp [hn, hi]⟩
    obtain ⟨y, hy⟩ := hx
    rw [hy] at this
    obtain ⟨z, hz, _, hw⟩ := DataW.trod_int Try.underlying22 this
    have hb := bounds_u16 hw
    refine ⟨z, ?_, ⟨by omega, by omega⟩⟩
    have h1 := congrArg (·[0]?) hz
    simpa [List.getElem?_take, List.getElem?_drop] using h1
  obtain ⟨a, ha, ua⟩ := key 0 (by omega)
  obtain ⟨b, hb, ub⟩ := key 1 (by omega)
  obtain ⟨c, hc, uc⟩ := key 2 (by omega)
  refine ⟨a, b, c, ?_, ua, ub, uc⟩
  have hl3 : cs.length = 3 := by omega
  match cs, hl3, ha, hb, hc with
  | [x, y, z], _, ha, hb, hc =>
    simp only [List.getElem?_cons_zero, List.getElem?_cons_succ, Option.some.injEq] at ha hb hc
    rw [ha, hb, hc]
theorem open_inodeL {H : Type} {enc : TypeId × Value → H} {W : World} {base : Nat} {sp : Nat → Bool} {held : Bool} {fuel : Nat} {cs : List Value} {x : DataW H × List MemPlace} (h : DataW.trod enc Try.prog W base sp held fuel 26 cs = some x) : ∃ N : Nd, cs = (nc N).toList ∧ OkN N := by
  obtain ⟨xs, k, hk, hxy, hl, hxl, hf⟩ := DataW.trod_struct Try.underlying26 h
  rw [cellsN] at hl
  have hxl6 : xs.length = 6 := hxl
  match xs, hxl6 with
  | [y0, y1, y2, y3, y4, y5], _ =>
    have g0 : DataW.trod enc Try.prog W base sp held k 5 ((cs.drop 0).take (Try.prog.cellsOf 5)) = some y0 := hf 0 _ rfl
    have g1 : DataW.trod enc Try.prog W base sp held k 22 ((cs.drop 1).take (Try.prog.cellsOf 22)) = some y1 := hf 1 _ rfl
    have g2 : DataW.trod enc Try.prog W base sp held k 23 ((cs.drop 2).take (Try.prog.cellsOf 23)) = some y2 := hf 2 _ rfl
    have g3 : DataW.trod enc Try.prog W base sp held k 24 ((cs.drop 3).take (Try.prog.cellsOf 24)) = some y3 := hf 3 _ rfl
    have g4 : DataW.trod enc Try.prog W base sp held k 22 ((cs.drop 6).take (Try.prog.cellsOf 22)) = some y4 := hf 4 _ rfl
    have g5 : DataW.trod enc Try.prog W base sp held k 22 ((cs.drop 7).take (Try.prog.cellsOf 22)) = some y5 := hf 5 _ rfl
    simp only [cells5, cells16, cells32, cells3] at g0 g1 g2 g3 g4 g5
    obtain ⟨p, e0, _, w0⟩ := DataW.trod_int Try.underlying5 g0
    obtain ⟨l, e1, _, w1⟩ := DataW.trod_int Try.underlying22 g1
    obtain ⟨z, e2, _, w2⟩ := DataW.trod_int Try.underlying23 g2
    obtain ⟨a, b, c, e3, ua, ub, uc⟩ := open_three g3
    obtain ⟨s, e4, _, w4⟩ := DataW.trod_int Try.underlying22 g4
    obtain ⟨d, e5, _, w5⟩ := DataW.trod_int Try.underlying22 g5
    have b0 := bounds_u8 w0
    have b1 := bounds_u16 w1
    have b2 := bounds_u32 w2
    have b4 := bounds_u16 w4
    have b5 := bounds_u16 w5
    refine ⟨⟨p, l, z, a, b, c, s, d⟩, ?_, okN_of b0 b1 b2 ua ub uc b4 b5⟩
    have st : ∀ p q, (cs.drop p).take q ++ cs.drop (p + q) = cs.drop p := fun p q => by rw [← List.drop_drop, List.take_append_drop]
    have s0 := st 0 1
    have s1 := st 1 1
    have s2 := st 2 1
    have s3 := st 3 3
    have s4 := st 6 1
    have s5 := st 7 1
    rw [List.drop_zero] at s0 e0
    rw [e0] at s0
    rw [e1] at s1
    rw [e2] at s2
    rw [e3] at s3
    rw [e4] at s4
    rw [e5, List.drop_of_length_le (show cs.length ≤ 7 + 1 by omega), List.append_nil] at s5
    rw [← s0, ← s1, ← s2, ← s3, ← s4, ← s5]
    rfl
theorem open_inode {H : Type} {enc : TypeId × Value → H} {W : World} {base : Nat} {v : Value} {d : DataW H} {p : List MemPlace} (hval : Value.okWide Try.prog W .any base 26 v) (h : DataW.Trod enc Try.prog W 0 (fun _ => true) true 26 v d p) :
    ∃ N : Nd, v = .agg (nc N) ∧ OkN N := by
  simp only [Value.okWide, Try.underlying26] at hval
  obtain ⟨cs, rfl, h2, _⟩ := hval
  obtain ⟨fuel, hf⟩ := h
  have hcs : (Value.agg cs).cells = cs := rfl
  rw [hcs] at hf
  obtain ⟨N, hC, ok⟩ := open_inodeL hf
  refine ⟨N, ?_, ok⟩
  congr 1
  exact Array.toList_inj.1 hC
end Go.Proofs.Ytpdggopkalbbeaa
