/-
  A list of things to be done, as an argument: what lies in memory.
-/
import Derived.Test.YtlokhbkjkobmaaaZY
import Derived.Test.YtlokhbkjkobmaaaZG
import Derived.Deep.Grids
import Derived.Deep.Slices
namespace Go.Proofs.Ytlokhbkjkobmaaa
open Go.ChangeShapes Go.WideShapes Go.RowKit Go.Proofs.Ytlokhbkjkobmaaa.Plain
set_option linter.unusedVariables false

theorem addr_lit {W : World} {x : Addr} {v : Value} (h : W.cell? (x.add 0) = some v) : ∃ b o, x = ⟨b, o, none⟩ := by
  obtain ⟨b, o, l⟩ := x
  cases l with
  | none => exact ⟨b, o, rfl⟩
  | some l =>
    simp [Addr.add, World.cell?] at h
    split at h <;> cases h
theorem add_add' (b o i j : Nat) : ((⟨b, o, none⟩ : Addr).add i).add j = ⟨b, o + i + j, none⟩ := by
  rw [Addr.add_lit, Addr.add_lit]
theorem cells3 : Try.prog.cellsOf 3 = 1 := by kernel_rfl
theorem cells4 : Try.prog.cellsOf 4 = 1 := by kernel_rfl
theorem cellsA : Try.prog.cellsOf 39 = 5 := by kernel_rfl
theorem cellsX : Try.prog.cellsOf 36 = 1 := by kernel_rfl
theorem cellsK : Try.prog.cellsOf 37 = 1 := by kernel_rfl
theorem wf_le {n : Int} (h : (Lit.int .i64 n).wf = true) : n ≤ 9223372036854775807 := by
  exact (bounds_i64 h).2
set_option maxRecDepth 100000 in
theorem open_acts {H : Type} {enc : TypeId × Value → H} {W : World} {base : Nat} {held : Bool} {fuel : Nat} {a : Option Addr} {len cap : Nat} {x : DataW H × List MemPlace} (h : DataW.trod enc Try.prog W base (fun _ => true) held fuel 22 [.slice a len cap] = some x) : Acts W a len := by
  rcases Go.Deep.open_slice Try.underlying22 h with ⟨hcs, _⟩ | ⟨ad, l, c, m, n, D, Pl, hcs, hb, hl, hm, hmm, hx, hi⟩
  · simp only [List.cons.injEq, Value.slice.injEq, and_true] at hcs
    obtain ⟨rfl, rfl, rfl⟩ := hcs
    exact ⟨by decide, fun h => by omega⟩
  · simp only [List.cons.injEq, Value.slice.injEq, and_true] at hcs
    obtain ⟨rfl, rfl, rfl⟩ := hcs
    refine ⟨Nat.le_trans hl hm, fun h0 => ?_⟩
    simp only [if_true] at hmm
    subst hmm
    rw [cellsA] at hi
    have h00 : ∃ b o, ad = ⟨b, o, none⟩ := by
      obtain ⟨cs', h1, _⟩ := hi 0 (by omega)
      obtain ⟨_, hlen, hcell⟩ := World.cells?_some h1
      have h2 := hcell 0 (by omega)
      obtain ⟨b, o, l⟩ := ad
      cases l with
      | none => exact ⟨b, o, rfl⟩
      | some l =>
        have h3 : (cs'[0]?).isSome = true := by simp [hlen]
        rw [← h2] at h3
        simp [Addr.add, World.cell?] at h3
        split at h3 <;> simp at h3
    obtain ⟨b, o, rfl⟩ := h00
    refine ⟨b, o, rfl, fun i hil => ?_⟩
    obtain ⟨cs', h1, h2⟩ := hi i (by omega)
    obtain ⟨_, hlen, hcell⟩ := World.cells?_some h1
    refine ⟨cs', fun j v hv => ?_, ?_⟩
    · have hj : j < 5 := by
        have := (List.getElem?_eq_some_iff.1 hv).1
        omega
      have h3 := hcell j hj
      rw [add_add', hv] at h3
      exact h3
    · obtain ⟨xs, k, hk, hxy, _, hxl, hf⟩ := DataW.trod_struct Try.underlying39 h2
      have hxl5 : xs.length = 5 := hxl
      match xs, hxl5, cs', hlen with
      | [y0, y1, y2, y3, y4], _, [v0, v1, v2, v3, v4], _ =>
        have g0 := hf 0 _ rfl
        have g1 := hf 1 _ rfl
        have g2 := hf 2 _ rfl
        have g3 := hf 3 _ rfl
        have g4 := hf 4 _ rfl
        simp [cells3, cells4, cellsX, cellsK] at g0 g1 g2 g3 g4
        obtain ⟨kd, e0, _, _⟩ := DataW.trod_int Try.underlying3 g0
        obtain ⟨sl, e1, _, wsl⟩ := DataW.trod_int Try.underlying3 g1
        obtain ⟨sh, e4, _⟩ := DataW.trod_bool Try.underlying4 g4
        simp only [List.cons.injEq, and_true] at e0 e1 e4
        subst e0 e1 e4
        obtain ⟨xa, xl, xc, X, rfl, hX, hxl⟩ : ∃ xa xl xc X, v2 = .slice xa xl xc ∧ Bytes W xa xl X ∧ xl ≤ maxLen := by
          rcases open_ints Try.underlying36 Try.underlying5 (by kernel_rfl) g2 with ⟨hcs, _⟩ | ⟨x, l, c, zs, hcs, _, hl2, hm2, hz2, _, hcell2, hwz2⟩
          · simp only [List.cons.injEq, and_true] at hcs
            subst hcs
            exact ⟨none, 0, 0, [], rfl, ⟨rfl, fun i => by simp, fun h => by omega⟩, by decide⟩
          · simp only [List.cons.injEq, and_true] at hcs
            subst hcs
            have hr : IsRow .u8 W (some x) l c zs := .inr ⟨_, rfl, hl2, hm2, by simpa using hz2, hcell2, hwz2⟩
            exact ⟨_, _, _, _, rfl, hr.bytes, Nat.le_trans hl2 hm2⟩
        obtain ⟨ka, kl, kc, K, rfl, hK, hkl⟩ : ∃ ka kl kc K, v3 = .slice ka kl kc ∧ Bools W ka kl K ∧ kl ≤ maxLen := by
          rcases Go.Deep.open_bools Try.underlying37 Try.underlying4 (by kernel_rfl) g3 with ⟨hcs, _⟩ | ⟨x, l, c, B, hcs, _, hl2, hm2, _, hcell2⟩
          · simp only [List.cons.injEq, and_true] at hcs
            subst hcs
            exact ⟨none, 0, 0, [], rfl, bools_none W, by decide⟩
          · simp only [List.cons.injEq, and_true] at hcs
            subst hcs
            exact ⟨_, _, _, _, rfl, bools_fn B hl2 hcell2, Nat.le_trans hl2 hm2⟩
        exact ⟨kd, sl, xa, xl, xc, ka, kl, kc, sh, X, K, rfl, hX, hxl, hK, hkl, wf_le wsl⟩
end Go.Proofs.Ytlokhbkjkobmaaa
