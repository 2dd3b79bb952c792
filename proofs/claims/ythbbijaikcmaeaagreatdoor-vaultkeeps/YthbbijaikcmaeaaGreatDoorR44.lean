/-
  Images as arguments: by value, in a slice, in slices of slices; bools in a slice. And what follows it.
-/
import Derived.Deep.Grids
import Derived.Deep.Slices
import Derived.Test.YthbbijaikcmaeaaGreatDoorR40
import Derived.Test.YthbbijaikcmaeaaGreatDoorR43
import Derived.Test.YthbbijaikcmaeaaGreatDoorR00
namespace Go.Proofs.YthbbijaikcmaeaaGreatDoor.Rec.Plain
set_option maxRecDepth 100000
end Go.Proofs.YthbbijaikcmaeaaGreatDoor.Rec.Plain
namespace Go.Proofs.YthbbijaikcmaeaaGreatDoor.Rec
set_option maxRecDepth 100000
open Go.ChangeShapes Go.WideShapes Go.RowKit Go.Proofs.YthbbijaikcmaeaaGreatDoor.Plain Go.Proofs.YthbbijaikcmaeaaGreatDoor.Rec.Plain
set_option linter.unusedVariables false
set_option maxRecDepth 100000
theorem list_of {α : Type} (P : Nat → α → Prop) : ∀ n : Nat, (∀ i, i < n → ∃ x, P i x) → ∃ L : List α, L.length = n ∧ ∀ i (hi : i < L.length), P i L[i]
  | 0, _ => ⟨[], rfl, fun i hi => by simp at hi⟩
  | n + 1, h => by
    obtain ⟨L, h1, h2⟩ := list_of P n (fun i hi => h i (by omega))
    obtain ⟨x, hx⟩ := h n (by omega)
    refine ⟨L ++ [x], by simp [h1], fun i hi => ?_⟩
    by_cases e : i < L.length
    · rw [List.getElem_append_left e]
      exact h2 i e
    · have : i = L.length := by simp at hi; omega
      subst this
      rw [List.getElem_append_right (Nat.le_refl _)]
      simp only [Nat.sub_self, List.getElem_cons_zero]
      rw [h1]
      exact hx
theorem cellsU : Tryz.prog.cellsOf 34 = 1 := by kernel_rfl
theorem cellsX : Tryz.prog.cellsOf 38 = 1 := by kernel_rfl
theorem cellsIm : Tryz.prog.cellsOf 41 = 2 := by kernel_rfl
def Byi (w : World) (m : Im) : Prop := Bytes w m.ba m.bl m.bs ∧ N64 m.blk ∧ m.bl ≤ m.bc ∧ m.bc ≤ maxLen
theorem open_imageL {H : Type} {enc : TypeId × Value → H} {W : World} {base : Nat} {held : Bool} {fuel : Nat} {cs : List Value} {x : DataW H × List MemPlace} (h : DataW.trod enc Tryz.prog W base (fun _ => true) held fuel 41 cs = some x) : ∃ m : Im, cs = imc m ∧ Byi W m := by
  obtain ⟨xs, k, hk, hxy, hl, hxl, hf⟩ := DataW.trod_struct Tryz.underlying41 h
  rw [cellsIm] at hl
  have hxl2 : xs.length = 2 := hxl
  match xs, hxl2, cs, hl with
  | [y0, y1], _, [v0, v1], _ =>
    have g0 := hf 0 _ rfl
    have g1 := hf 1 _ rfl
    simp [cellsU, cellsX] at g0 g1
    obtain ⟨z, e0, _, wz⟩ := DataW.trod_int Tryz.underlying34 g0
    simp only [List.cons.injEq, and_true] at e0
    subst e0
    have hb := bounds_u64 wz
    obtain ⟨xa, xl, xc, X, rfl, hX, h1, h2⟩ : ∃ xa xl xc X, v1 = .slice xa xl xc ∧ Bytes W xa xl X ∧ xl ≤ xc ∧ xc ≤ maxLen := by
      rcases open_ints Tryz.underlying38 Tryz.underlying5 (by kernel_rfl) g1 with ⟨hcs, _⟩ | ⟨x, l, c, zs, hcs, _, hl2, hm2, hz2, _, hcell2, hwz2⟩
      · simp only [List.cons.injEq, and_true] at hcs
        subst hcs
        exact ⟨none, 0, 0, [], rfl, ⟨rfl, fun i => by simp, fun h => by omega⟩, by decide, by decide⟩
      · simp only [List.cons.injEq, and_true] at hcs
        subst hcs
        have hr : IsRow .u8 W (some x) l c zs := .inr ⟨_, rfl, hl2, hm2, by simpa using hz2, hcell2, hwz2⟩
        exact ⟨_, _, _, _, rfl, hr.bytes, hl2, hm2⟩
    exact ⟨⟨z, xa, xl, xc, X⟩, rfl, hX, ⟨by show 0 ≤ z; omega, by show z ≤ 18446744073709551615; omega⟩, h1, h2⟩
theorem add_add' (b o i j : Nat) : ((⟨b, o, none⟩ : Addr).add i).add j = ⟨b, o + i + j, none⟩ := by
  rw [Addr.add_lit, Addr.add_lit]
theorem open_images {H : Type} {enc : TypeId × Value → H} {W : World} {base : Nat} {held : Bool} {fuel : Nat} {a : Option Addr} {len cap : Nat} {x : DataW H × List MemPlace} (h : DataW.trod enc Tryz.prog W base (fun _ => true) held fuel 24 [.slice a len cap] = some x) : ∃ M : List Im, M.length = len ∧ Imgs W a M ∧ len ≤ maxLen := by
  rcases Go.Deep.open_slice Tryz.underlying24 h with ⟨hcs, _⟩ | ⟨ad, l, c, m, n, D, Pl, hcs, hb, hl, hm, hmm, hx, hi⟩
  · simp only [List.cons.injEq, Value.slice.injEq, and_true] at hcs
    obtain ⟨rfl, rfl, rfl⟩ := hcs
    exact ⟨[], rfl, ⟨fun h => by simp at h, fun m hm => by simp at hm⟩, by decide⟩
  · simp only [List.cons.injEq, Value.slice.injEq, and_true] at hcs
    obtain ⟨rfl, rfl, rfl⟩ := hcs
    simp only [if_true] at hmm
    subst hmm
    rw [cellsIm] at hi
    by_cases h0 : len = 0
    · subst h0
      exact ⟨[], rfl, ⟨fun h => by simp at h, fun m hm => by simp at hm⟩, by decide⟩
    obtain ⟨b, o, rfl⟩ : ∃ b o, ad = ⟨b, o, none⟩ := by
      obtain ⟨cs', h1, _⟩ := hi 0 (by omega)
      obtain ⟨_, hlen, hcell⟩ := World.cells?_some h1
      have h2 := hcell 0 (by omega)
      obtain ⟨b, o, l⟩ := ad
      cases l with
      | none => exact ⟨b, o, rfl⟩
      | some l =>
        have h3 : (cs'[0]?).isSome = true := by simp [hlen]
        rw [← h2] at h3
        simp [Addr.add, World.cell?] at h3
        split at h3 <;> simp at h3
    obtain ⟨M, hM, hP⟩ := list_of (fun i m => W.rangeAt b (o + i * 2) (imc m) ∧ Byi W m ∧ b < W.heap.size) len (fun i hil => by
      obtain ⟨cs', h1, h2⟩ := hi i (by omega)
      obtain ⟨m, rfl, ok⟩ := open_imageL h2
      obtain ⟨_, hlen, hcell⟩ := World.cells?_some h1
      have hr : W.rangeAt b (o + i * 2) (imc m) := fun j v hv => by
        have hj : j < 2 := (List.getElem?_eq_some_iff.1 hv).1
        have h3 := hcell j hj
        rw [add_add', hv] at h3
        exact h3
      exact ⟨m, hr, ok, block_lt (hr 0 _ rfl)⟩)
    refine ⟨M, hM, ⟨fun hp => ⟨b, o, rfl, (hP 0 hp).2.2, fun i hi' => (hP i hi').1⟩, fun m hm => ?_⟩, Nat.le_trans hl hm⟩
    obtain ⟨i, hi', rfl⟩ := List.getElem_of_mem hm
    exact (hP i hi').2.1
/-- A row of truth values in memory. -/
def Bools (w : World) (a : Option Addr) (len : Nat) (K : List Bool) : Prop := K.length = len ∧ (0 < len → ∃ b off, a = some ⟨b, off, none⟩ ∧ b < w.heap.size ∧ ∀ i, i < len → w.cell? ⟨b, off + i, none⟩ = some (.bool (K.getD i false)))
theorem Bools.below {w w' : World} {a : Option Addr} {len : Nat} {K : List Bool} (h : Bools w a len K) (hb : Below w.heap.size w w') : Bools w' a len K := by
  refine ⟨h.1, fun h0 => ?_⟩
  obtain ⟨b, off, rfl, hbb, hc⟩ := h.2 h0
  exact ⟨b, off, rfl, Nat.lt_of_lt_of_le hbb hb.size, fun i hi => (hb.cell hbb).trans (hc i hi)⟩
theorem bools_none (w : World) : Bools w none 0 [] := ⟨rfl, fun h => by omega⟩
theorem bools_fn {w : World} {x : Addr} {len cap : Nat} (B : Nat → Bool) (hl : len ≤ cap) (hc : ∀ i, i < cap → w.cell? (x.add i) = some (.bool (B i))) : Bools w (some x) len ((List.range len).map B) := by
  refine ⟨by simp, fun h0 => ?_⟩
  obtain ⟨b, o, l⟩ := x
  cases l with
  | none =>
    have h1 := hc 0 (by omega)
    rw [Addr.add_lit] at h1
    refine ⟨b, o, rfl, World.block_lt_of_cell? w _ h1, fun i hi => ?_⟩
    have h2 := hc i (by omega)
    rw [Addr.add_lit] at h2
    rw [h2]
    simp [List.getD, hi]
  | some l =>
    have h1 := hc 0 (by omega)
    simp [Addr.add, World.cell?] at h1
    split at h1 <;> cases h1
/-- A slice of images, and what lies there. -/
structure Sx where
  a : Option Addr
  l : Nat
  c : Nat
  M : List Im
def slc (x : Sx) : List Value := [.slice x.a x.l x.c]
structure Igss (w : World) (a : Option Addr) (X : List Sx) : Prop where
  tb : Tb w a 1 slc X
  im : ∀ x ∈ X, x.M.length = x.l ∧ Imgs w x.a x.M ∧ x.l ≤ maxLen
theorem Igss.below {w w' : World} {a : Option Addr} {X : List Sx} (h : Igss w a X) (hb : Below w.heap.size w w') : Igss w' a X :=
  ⟨h.tb.below hb, fun x hx => ⟨(h.im x hx).1, (h.im x hx).2.1.below hb, (h.im x hx).2.2⟩⟩
end Go.Proofs.YthbbijaikcmaeaaGreatDoor.Rec
namespace Go.Proofs.YthbbijaikcmaeaaGreatDoor
set_option maxRecDepth 100000
open Go.RowKit Go.Shelf Plain Go.Proofs.YthbbijaikcmaeaaGreatDoor.Shap.Plain
theorem vaultKeeps_walk (D : List Int) (y : Int) (a : Option Addr) (capa : Nat) (MA : List Rec.Im) (b : Option Addr) (capb : Nat) (MB : List Rec.Im) (ka : Option Addr) (kl kc : Nat) (KB : List Bool) (W : World) (hT : Dig.Tabs W) (hT2 : Seal.Tab W) (hl : D.length = 32) (hD : Byt D) (w1 : (Lit.int .u8 y).wf = true) (w2 : Rec.Imgs W a MA) (_ : MA.length ≤ maxLen) (w3 : Rec.Imgs W b MB) (_ : MB.length ≤ maxLen) (w4 : Rec.Bools W ka kl KB ∧ kl ≤ maxLen) :
    Calls Tryz.prog 3 #[.agg (u8s D), .int .u8 y, .slice a MA.length capa, .slice b MB.length capb, .slice ka kl kc] W fun e w' => e = .returned (.bool true) ∧ Below W.heap.size W w' := by
  have b2 := bounds_u8 w1
  obtain ⟨q, rfl⟩ := Int.eq_ofNat_of_zero_le b2.1
  exact vaultKeeps_core D ⟨hl, hD⟩ q (by omega) a capa MA b capb MB ka kl kc KB W hT hT2 w2 w3 w4.1 w4.2
end Go.Proofs.YthbbijaikcmaeaaGreatDoor
