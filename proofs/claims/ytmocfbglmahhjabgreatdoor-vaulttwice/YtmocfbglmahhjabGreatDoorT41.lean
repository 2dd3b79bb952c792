/-
  How much a disk grows by what is read and updated of a vault: plainly.
-/
import Derived.Test.YtmocfbglmahhjabGreatDoorT40
namespace Go.Proofs.YtmocfbglmahhjabGreatDoor
set_option maxRecDepth 100000
set_option linter.unusedVariables false
set_option maxRecDepth 100000
open Go.RowKit Plain Go.Proofs.YtmocfbglmahhjabGreatDoor.Shap.Plain
/-- A disk has grown by no more than k. -/
structure Gw (d : Disk.Dk) (k : Nat) (d' : Disk.Dk) : Prop where
  ops : d'.ops.length ≤ d.ops.length + k
  uw : d'.uw.length ≤ d.uw.length + k
  left : (0 ≤ d.left ∧ d.left ≤ 9223372036854775807) → (0 ≤ d'.left ∧ d'.left ≤ 9223372036854775807)
  st : d'.st = d.st
  n : d'.n = d.n
theorem Gw.refl (d : Disk.Dk) (k : Nat) : Gw d k d := ⟨by omega, by omega, fun h => h, rfl, rfl⟩
theorem Gw.trans {d d' d'' : Disk.Dk} {k l : Nat} (h : Gw d k d') (h' : Gw d' l d'') : Gw d (k + l) d'' :=
  ⟨by have := h.ops; have := h'.ops; omega, by have := h.uw; have := h'.uw; omega, fun e => h'.left (h.left e), h'.st.trans h.st, h'.n.trans h.n⟩
theorem Gw.more {d d' : Disk.Dk} {k l : Nat} (h : Gw d k d') (hl : k ≤ l) : Gw d l d' := ⟨by have := h.ops; omega, by have := h.uw; omega, h.left, h.st, h.n⟩
theorem gw_get (K : List Int) (n : Nat) (d : Disk.Dk) (l i : Nat) (r : Rf) : Gw d 1 (getM (Yk K) Xd n d l i r).1 := by
  obtain ⟨h1, h2, h3, h4, h5⟩ := getM_disk K n d l i r
  exact ⟨h3, by rw [h1]; omega, by rw [h5]; exact fun h => h, h4, h2⟩
theorem gw_read (K : List Int) (n j : Nat) : ∀ (l : Nat) (d : Disk.Dk) (r : Rf), Gw d (l + 1) (readM (Yk K) Xd n j l d r).1
  | 0, d, r => by show Gw d 1 (getM (Yk K) Xd n d 0 j r).1; exact gw_get K n d 0 j r
  | l + 1, d, r => by
    have h1 := gw_get K n d (l + 1) (j / 4 ^ (l + 1)) r
    unfold readM
    split
    · exact h1.more (by omega)
    · exact (h1.trans (gw_read K n j l _ _)).more (by omega)
theorem gw_wr (d : Disk.Dk) (p : Nat) (S : List Int) : Gw d 1 (Xd.wr d p S).1 := by
  simp only [Xd]
  split
  · exact Gw.refl _ _
  · split
    · exact ⟨Nat.le_succ _, Nat.le_succ _, fun h => h, rfl, rfl⟩
    · rename_i h4 h5
      refine ⟨by simp [Disk.wrOk], by simp [Disk.wrOk], fun h1 => ?_, rfl, rfl⟩
      simp only [Disk.wrOk]
      by_cases hs : d.st = true
      · rw [if_pos hs]
        have : d.left ≠ 0 := fun e => h5 ⟨hs, e⟩
        omega
      · rw [if_neg hs]; exact h1
theorem gw_wrSt (K : List Int) (n : Nat) (bk : Nat → Option (List Int)) (G : Nat → List Rf) (s : Wst) (x : Nat × Nat) : Gw s.1 1 (wrSt K n bk G s x).1 := by
  have h := gw_wr s.1 (wP n s.2.2.2 x) (wS K n bk G s x)
  unfold wrSt
  split
  · exact Gw.refl _ _
  · split
    · exact h
    · exact h
theorem gw_wrL (K : List Int) (n : Nat) (bk : Nat → Option (List Int)) (G : Nat → List Rf) : ∀ (l : List (Nat × Nat)) (s : Wst), Gw s.1 l.length (wrL K n bk G s l).1
  | [], s => Gw.refl _ _
  | x :: l, s => by
    show Gw s.1 (l.length + 1) (wrL K n bk G (wrSt K n bk G s x) l).1
    exact ((gw_wrSt K n bk G s x).trans (gw_wrL K n bk G l _)).more (by omega)
theorem gw_updC (v : Vt) (its : List (Nat × Nat)) (bk : Nat → Option (List Int)) (d : Disk.Dk) : Gw d ((dnL v.n its (topL v.n)).length + its.length) (updC v its bk d).1 := by
  have h1 : Gw d (dnL v.n its (topL v.n)).length (gSt v its d).1 := by
    obtain ⟨h1, h2, h3, h4, h5⟩ := gtM_disk v.key v.n (dnL v.n its (topL v.n)) (d, 0, F0 v.n v.top, fun _ => zn)
    exact ⟨h3, by rw [show (gSt v its d).1.uw = d.uw from h1]; omega, by rw [show (gSt v its d).1.left = d.left from h5]; exact fun h => h, h4, h2⟩
  have h2 : Gw d ((dnL v.n its (topL v.n)).length + its.length) (wSt v its bk d).1 := h1.trans (gw_wrL _ _ _ _ its ((gSt v its d).1, v.nx, 0, (gSt v its d).2.2.1))
  unfold updC
  split
  · exact h1.more (by omega)
  · split
    · exact h1.more (by omega)
    · split
      · exact h2
      · exact h2
/-- An update grows it by no more than twenty thousand. -/
theorem gw_updM (v : Vt) (ok : v.Ok) (M : List Im) (hlen : ∀ m ∈ M, m.bs.length = m.bl) (hb : ∀ m ∈ M, 0 ≤ m.blk) (d : Disk.Dk) : Gw d 20000 (updM (Yk v.key) Xd v.n (topL v.n) v.lim (LM M) d v.nx v.top).1 := by
  by_cases htk : tk v.n M = 0
  · by_cases hne : M = []
    · subst hne
      have e : updM (Yk v.key) Xd v.n (topL v.n) v.lim (LM []) d v.nx v.top = (d, v.nx, 0, v.top) := by simp [updM, LM]
      rw [e]
      exact Gw.refl _ _
    · rw [← updC_updM v ok M hne hlen htk d]
      have hit := itm_of v.n ok.lo ok.hi M (fun m hm => ⟨hb m hm, (tk_zero htk m hm).2⟩)
      have h1 := hit.len
      have h2 := hit.dln
      exact (gw_updC v _ _ d).more (by omega)
  · have e : updM (Yk v.key) Xd v.n (topL v.n) v.lim (LM M) d v.nx v.top = (d, v.nx, tk v.n M, zr) := by
      unfold updM tk at *
      rw [any_len M hlen, any_blk]
      split
      · rfl
      · rename_i h1
        rw [if_neg h1] at htk
        split
        · rfl
        · rename_i h2
          rw [if_neg h2] at htk
          exact absurd rfl htk
    rw [e]
    exact Gw.refl _ _
end Go.Proofs.YtmocfbglmahhjabGreatDoor
