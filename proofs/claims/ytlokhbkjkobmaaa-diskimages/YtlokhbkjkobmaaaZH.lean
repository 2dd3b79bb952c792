/-
  What the Go method Image of package disk answers: the bytes of all places, each in a row of its own.
-/
import Derived.Test.YtlokhbkjkobmaaaZG
namespace Go.Proofs.Ytlokhbkjkobmaaa
set_option linter.unusedVariables false
open Go.RowKit Plain

def nils (m : Nat) : List Value := List.replicate m (Value.slice none 0 0)
theorem nils_succ (m : Nat) : nils (m + 1) = Value.slice none 0 0 :: nils m := rfl
/-- Rows of bytes of a call's own: the places' bytes, so far. -/
structure Rws (w wr : World) (g n k : Nat) (pl : Nat → List Int) (L : List Value) : Prop where
  row : wr.heap[g]? = some (.cells (L ++ nils (n - k)).toArray 36 (0, 0))
  len : L.length = k
  each : ∀ i (h : i < L.length), wr.ownsRow 0 5 1 L[i] 192 ((pl i).map (Value.int .u8)) ∧ ∀ j, L[i].ownBlock = some j → g < j
  lo : w.heap.size ≤ g
  bel : Below w.heap.size w wr
theorem Rws.step {w wr wx : World} {g n k : Nat} {pl : Nat → List Int} {L : List Value} (h : Rws w wr g n k pl L) (hk : k < n) (v : Value) (hb : Below wr.heap.size wr wx) (hv : wx.ownsRow 0 5 1 v 192 ((pl k).map (Value.int .u8))) (hl : ∀ j, v.ownBlock = some j → wr.heap.size ≤ j) : Rws w (wx.setCell ⟨g, k, none⟩ v) g n (k + 1) pl (L ++ [v]) := by
  have hg : g < wr.heap.size := (Array.getElem?_eq_some_iff.1 h.row).1
  have hne : ∀ u : Value, (∀ j, u.ownBlock = some j → g < j) → ∀ j, u.ownBlock = some j → (wx.setCell ⟨g, k, none⟩ v).heap[j]? = wx.heap[j]? := fun u hu j hj => heap_setCell_other wx ⟨g, k, none⟩ j _ (fun e => by have := hu j hj; simp at e; omega)
  refine ⟨?_, by simp [h.len], fun i hi => ?_, h.lo, below_set (h.bel.trans (hb.mono h.bel.size)) h.lo v⟩
  · rw [heap_setCell_same wx g k _ _ v ((hb.block g hg).trans h.row)]
    congr 2
    rw [show n - k = n - (k + 1) + 1 by omega, nils_succ]
    simp [← h.len]
  · by_cases hik : i < L.length
    · have e : (L ++ [v])[i] = L[i] := List.getElem_append_left hik
      rw [e]
      obtain ⟨h1, h2⟩ := h.each i hik
      exact ⟨own_same (own_same h1 (fun j hj => hb.block j (h1.lt j hj).2)) (hne _ h2), h2⟩
    · have hik2 : i = L.length := by simp at hi; omega
      subst hik2
      have e : (L ++ [v])[L.length]'(by simp) = v := by simp
      rw [e, h.len]
      have h2 : ∀ j, v.ownBlock = some j → g < j := fun j hj => by have := hl j hj; omega
      exact ⟨own_same hv (hne _ h2), h2⟩
theorem infoRow : (Try.prog.info? 36).map (fun i => (i.zero, i.size, i.bytes)) = some (some (.slice none 0 0), 1, 24) := by kernel_rfl
theorem made_nil (n : Nat) : madeCells #[.slice none 0 0] n = (nils n).toArray := by
  unfold nils
  apply Array.ext
  · simp [size_made]
  · intro i h1 h2
    simp [madeCells]
    have : i % 1 = 0 := by omega
    simp [this]
set_option maxRecDepth 20000 in
set_option maxHeartbeats 4000000 in
theorem image_any (w : World) (D P : Nat) (uv ov : Value) (d : Dk) (h : At w D P uv ov d) :
    Calls Try.prog 14 #[.pointer (some ⟨D, 0, none⟩)] w fun e w' => ∃ g L, e = .returned (.slice (some ⟨g, 0, none⟩) d.n d.n) ∧ Rws w w' g d.n d.n d.pl L := by
  obtain ⟨c0, -, -, -, -, -, -⟩ := h.cells
  have hn := h.hn
  have HA : Box (At w D P uv ov d) := ⟨h⟩
  have HM : Box (24 * d.n ≤ 281474976710656 ∧ d.n ≤ 9223372036854775807) := ⟨by omega, by omega⟩
  have HE : Box (madeCells (Value.slice none 0 0).cells (d.n * 1) = (nils d.n).toArray) := ⟨by rw [Nat.mul_one]; exact made_nil d.n⟩
  have hn2 : d.n < 9223372036854775807 := by omega
  clear h hn
  go_enter Try.func14, Try.ntmps14
  go_wp2_with (refine wpList_run rfl _ _ (exec_make 42 36 _ _ rfl (.slice none 0 0) 1 24 Try.underlying42 infoRow d.n rfl rfl HM.out.1 HM.out.2) ?_; rw [HE.out])
  have R0 : Box (Rws w (w.alloc (.cells (nils d.n).toArray 36)) w.heap.size d.n 0 d.pl []) := ⟨⟨al_at rfl, rfl, fun i hi => by simp at hi, Nat.le_refl _, (Below.refl _ _).alloc (Nat.le_refl _) _⟩⟩
  generalize w.alloc (.cells (nils d.n).toArray 36) = w1 at R0 ⊢
  obtain ⟨g, HG⟩ : ∃ g, Box (w.heap.size = g) := ⟨_, ⟨rfl⟩⟩
  rw [HG.out] at R0 ⊢
  clear HE HM
  go_loopw [15] (fun j wr => ∃ q : Nat, q ≤ d.n ∧ j = .int .i64 q ∧ ∃ L, Box (Rws w wr g d.n q d.pl L)) (fun j _ => d.n - (intOf j).toNat)
  case atStart => exact ⟨0, by omega, rfl, [], R0⟩
  case round =>
    clear R0 c0
    obtain ⟨q, hq, rfl, L, HL⟩ := hrel
    have HA2 : Box (At wr D P uv ov d) := ⟨HA.out.below HL.out.bel⟩
    obtain ⟨c0, -, -, -, -, -, -⟩ := HA2.out.cells
    by_cases hlt : q < d.n
    · have HC : Box (Calls Try.prog 34 #[.slice (some ⟨P, q * 192, none⟩) 192 192] wr fun e w' => ∃ v', e = .returned v' ∧ w'.ownsRow 0 5 1 v' 192 ((d.pl q).map (Value.int .u8)) ∧ Below wr.heap.size wr w' ∧ ∀ k, v'.ownBlock = some k → wr.heap.size ≤ k) := ⟨by
        obtain ⟨cs, hP, hPs⟩ := HA2.out.hp
        exact clone_bytes wr P (q * 192) 192 192 (d.pl q) (pls_range hP hPs hlt (HA2.out.hpl q).1) (HA2.out.hpl q).1 (by omega)⟩
      have hcl : ∀ wx, Below wr.heap.size wr wx → ∃ u, wx.cell? ⟨g, q, none⟩ = some u ∧ wx.frozen? ⟨g, q, none⟩ = false := fun wx hb => by
        have hr := (hb.block g (Array.getElem?_eq_some_iff.1 HL.out.row).1).trans HL.out.row
        refine ⟨.slice none 0 0, ?_, frozen_of_row wx g q _ _ hr⟩
        rw [cell_of_row _ _ _ _ _ _ hr]
        have hlen := HL.out.len
        simp [← hlen, nils, show 0 < d.n - L.length by omega]
      have HCl : Box _ := ⟨hcl⟩
      clear hcl
      go_wp2_with (go_at_call 34; refine HC.out.mono ?_; rintro e wx ⟨v', rfl, hx1, hx2, hx3⟩; obtain ⟨va, vc, rfl⟩ := own_form2 hx1; have HX : Box _ := ⟨HL.out.step hlt _ hx2 hx1 hx3⟩; obtain ⟨u0, cu, fu⟩ := HCl.out wx hx2; clear hx1 hx2 hx3)
      exact ⟨⟨q + 1, by omega, by simp, _, HX⟩, by simp [intOf]; omega⟩
    · obtain rfl : q = d.n := by omega
      go_wp2
      go_ret
      exact ⟨g, L, rfl, HL.out⟩
end Go.Proofs.Ytlokhbkjkobmaaa
