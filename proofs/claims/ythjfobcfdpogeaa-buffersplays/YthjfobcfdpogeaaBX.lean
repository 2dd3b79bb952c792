/-
  A list of operations, as an argument: what lies in memory.
-/
import Derived.Test.YthjfobcfdpogeaaBW
import Derived.Deep.Grids
import Derived.Deep.Slices
namespace Go.Proofs.Ythjfobcfdpogeaa
open Go.ChangeShapes Go.WideShapes Go.RowKit Go.Proofs.Ythjfobcfdpogeaa.Plain
set_option linter.unusedVariables false

theorem add_add' (b o i j : Nat) : ((⟨b, o, none⟩ : Addr).add i).add j = ⟨b, o + i + j, none⟩ := by
  rw [Addr.add_lit, Addr.add_lit]
theorem cells3 : Try.prog.cellsOf 3 = 1 := by kernel_rfl
theorem cells4 : Try.prog.cellsOf 4 = 1 := by kernel_rfl
theorem cellsU : Try.prog.cellsOf 29 = 1 := by kernel_rfl
theorem cellsA : Try.prog.cellsOf 32 = 4 := by kernel_rfl
theorem cellsX : Try.prog.cellsOf 30 = 1 := by kernel_rfl
set_option maxRecDepth 100000 in
theorem open_acts {H : Type} {enc : TypeId × Value → H} {W : World} {base : Nat} {held : Bool} {fuel : Nat} {a : Option Addr} {len cap : Nat} {x : DataW H × List MemPlace} (h : DataW.trod enc Try.prog W base (fun _ => true) held fuel 22 [.slice a len cap] = some x) : Acts W a len := by
  rcases Go.Deep.open_slice Try.underlying22 h with ⟨hcs, _⟩ | ⟨ad, l, c, m, n, D, Pl, hcs, hb, hl, hm, hmm, hx, hi⟩
  · simp only [List.cons.injEq, Value.slice.injEq, and_true] at hcs
    obtain ⟨rfl, rfl, rfl⟩ := hcs
    exact ⟨by decide, fun h => by omega⟩
  · simp only [List.cons.injEq, Value.slice.injEq, and_true] at hcs
    obtain ⟨rfl, rfl, rfl⟩ := hcs
    refine ⟨Nat.le_trans hl hm, fun h0 => ?_⟩
    simp only [if_true] at hmm
    subst hmm
    rw [cellsA] at hi
    have h00 : ∃ b o, ad = ⟨b, o, none⟩ := by
      obtain ⟨cs', h1, _⟩ := hi 0 (by omega)
      obtain ⟨_, hlen, hcell⟩ := World.cells?_some h1
      have h2 := hcell 0 (by omega)
      obtain ⟨b, o, l⟩ := ad
      cases l with
      | none => exact ⟨b, o, rfl⟩
      | some l =>
        have h3 : (cs'[0]?).isSome = true := by simp [hlen]
        rw [← h2] at h3
        simp [Addr.add, World.cell?] at h3
        split at h3 <;> simp at h3
    obtain ⟨b, o, rfl⟩ := h00
    have hblt : b < W.heap.size := by
      obtain ⟨cs', h1, _⟩ := hi 0 (by omega)
      obtain ⟨_, hlen, hcell⟩ := World.cells?_some h1
      have h2 := hcell 0 (by omega)
      rw [add_add'] at h2
      have h3 : (cs'[0]?).isSome = true := by simp [hlen]
      rw [← h2] at h3
      obtain ⟨v, hv⟩ := Option.isSome_iff_exists.1 h3
      exact block_lt hv
    refine ⟨b, o, rfl, hblt, fun i hil => ?_⟩
    obtain ⟨cs', h1, h2⟩ := hi i (by omega)
    obtain ⟨_, hlen, hcell⟩ := World.cells?_some h1
    refine ⟨cs', fun j v hv => ?_, ?_⟩
    · have hj : j < 4 := by
        have := (List.getElem?_eq_some_iff.1 hv).1
        omega
      have h3 := hcell j hj
      rw [add_add', hv] at h3
      exact h3
    · obtain ⟨xs, k, hk, hxy, _, hxl, hf⟩ := DataW.trod_struct Try.underlying32 h2
      have hxl5 : xs.length = 4 := hxl
      match xs, hxl5, cs', hlen with
      | [y0, y1, y2, y3], _, [v0, v1, v2, v3], _ =>
        have g0 := hf 0 _ rfl
        have g1 := hf 1 _ rfl
        have g2 := hf 2 _ rfl
        have g3 := hf 3 _ rfl
        simp [cells3, cells4, cellsX, cellsU] at g0 g1 g2 g3
        obtain ⟨kd, e0, _, _⟩ := DataW.trod_int Try.underlying3 g0
        obtain ⟨bl, e1, _, wbl⟩ := DataW.trod_int Try.underlying29 g1
        obtain ⟨sh, e3, _⟩ := DataW.trod_bool Try.underlying4 g3
        simp only [List.cons.injEq, and_true] at e0 e1 e3
        subst e0 e1 e3
        obtain ⟨xa, xl, xc, X, rfl, hX, hxl⟩ : ∃ xa xl xc X, v2 = .slice xa xl xc ∧ Bytes W xa xl X ∧ xl ≤ maxLen := by
          rcases open_ints Try.underlying30 Try.underlying5 (by kernel_rfl) g2 with ⟨hcs, _⟩ | ⟨x, l, c, zs, hcs, _, hl2, hm2, hz2, _, hcell2, hwz2⟩
          · simp only [List.cons.injEq, and_true] at hcs
            subst hcs
            exact ⟨none, 0, 0, [], rfl, ⟨rfl, fun i => by simp, fun h => by omega⟩, by decide⟩
          · simp only [List.cons.injEq, and_true] at hcs
            subst hcs
            have hr : IsRow .u8 W (some x) l c zs := .inr ⟨_, rfl, hl2, hm2, by simpa using hz2, hcell2, hwz2⟩
            exact ⟨_, _, _, _, rfl, hr.bytes, Nat.le_trans hl2 hm2⟩
        exact ⟨kd, bl, xa, xl, xc, sh, X, rfl, hX, hxl, bounds_u64 wbl⟩
end Go.Proofs.Ythjfobcfdpogeaa
