/-
  A vault whose disk tells no error, plainly: what is read of it, and what an update leaves.
-/
import Derived.Test.YtnicgmimhgbcfaaGreatDoorWR
namespace Go.Proofs.YtnicgmimhgbcfaaGreatDoor
set_option linter.unusedVariables false
set_option maxRecDepth 100000
open Go.RowKit Plain Go.Proofs.YtnicgmimhgbcfaaGreatDoor.Shap.Plain

/-- A disk that is neither down nor told to stop. -/
def Up (d : Disk.Dk) : Prop := d.down = false ∧ d.st = false
theorem sound_Xd (m : Nat) : Sound Xd Disk.lat Up m := by
  refine ⟨fun d p hu hp => ⟨Disk.rdOk d (p : Int), ?_, hu, fun q => rfl⟩, fun d p S hu hp => ⟨Disk.wrOk d p S, ?_, hu, fun q => ?_⟩⟩
  · simp only [Xd, hu.1, Bool.false_eq_true, if_false]
  · simp only [Xd, hu.1, hu.2, Bool.false_eq_true, false_and, if_false]
  · rw [Disk.lat_wr]
    by_cases e : p = q
    · rw [if_pos e, if_pos e.symm]
    · rw [if_neg e, if_neg (fun h => e h.symm)]
/-- All that a vault knows holds: of its disk, its blocks, its top. -/
structure Good (K : List Int) (n : Nat) (d : Disk.Dk) (f : Nat → List Int) (top : Rf) : Prop where
  up : Up d
  is : ∃ Kk, Cert (Yk K) n (topL n) (Disk.lat d) f Kk ∧ Kk (topL n) 0 = top
theorem good_new (K : List Int) (n : Nat) (d : Disk.Dk) (h : Up d) : Good K n d (fun _ => y160) zr := ⟨h, fun _ _ => yr, cert_new _ _ _ _, rfl⟩
theorem good_lat {K : List Int} {n : Nat} {d d' : Disk.Dk} {f : Nat → List Int} {top : Rf} (h : Good K n d f top) (hu : Up d') (hl : ∀ q, Disk.lat d' q = Disk.lat d q) : Good K n d' f top := by
  obtain ⟨Kk, h1, h2⟩ := h.is
  exact ⟨hu, Kk, h1.same (fun l i _ _ _ => hl _), h2⟩
theorem good_read {K : List Int} {n : Nat} {d : Disk.Dk} {f : Nat → List Int} {top : Rf} (h : Good K n d f top) (h1 : 1 ≤ n) (h2 : n ≤ 1024) (j : Nat) (hj : j < n) :
    ∃ d', readM (Yk K) Xd n j (topL n) d top = (d', 0, f j) ∧ Good K n d' f top ∧ ∀ q, Disk.lat d' q = Disk.lat d q := by
  obtain ⟨Kk, c1, c2⟩ := h.is
  obtain ⟨d', e, u, l⟩ := readM_ok (sound_Xd (2 * off n (topL n + 1))) (Nat.le_refl _) j hj (topL n) (Nat.le_refl _) d h.up c1
  have h0 : j / 4 ^ topL n = 0 := by
    have := div_wd n (topL n) j hj
    rw [topL_one n h1 h2] at this
    exact Nat.lt_one_iff.1 this
  rw [h0, c2] at e
  exact ⟨d', e, good_lat h u l, l⟩
theorem good_update {K : List Int} {n : Nat} {d : Disk.Dk} {f : Nat → List Int} {top : Rf} (h : Good K n d f top) (h1 : 1 ≤ n) (h2 : n ≤ 1024) (L : List (Int × List Int)) (hL : ∀ x ∈ L, x.2.length = 160 ∧ Byt x.2 ∧ 0 ≤ x.1 ∧ x.1 < (n : Int)) (hne : L ≠ []) (nx lim : Int) (hn : 1 ≤ nx) (hlim : lim ≤ 9223372036854775807) (hw : nx + ((itsTo (lastB L) n (topL n) (off n (topL n + 1))).length : Int) ≤ lim) :
    ∃ d' R, updM (Yk K) Xd n (topL n) lim L d nx top = (d', nx + ((itsTo (lastB L) n (topL n) (off n (topL n + 1))).length : Int), 0, R) ∧ Good K n d' (newF f (lastB L)) R ∧ Good K n d' f top := by
  obtain ⟨Kk, c1, c2⟩ := h.is
  obtain ⟨d', e, u, _, _, g1, g2⟩ := updM_ok (sound_Xd (2 * off n (topL n + 1))) (Nat.le_refl _) (topL_one n h1 h2) L hL hne nx lim hn hlim hw d h.up c1
  rw [c2] at e
  exact ⟨d', _, e, ⟨u, _, g1, rfl⟩, ⟨u, Kk, g2, c2⟩⟩
end Go.Proofs.YtnicgmimhgbcfaaGreatDoor
