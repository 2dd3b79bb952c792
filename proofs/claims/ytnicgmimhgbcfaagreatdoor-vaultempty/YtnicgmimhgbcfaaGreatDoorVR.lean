/-
  A leaf read by what is known of items: nodes got one behind the other come to what the plain reading tells.
-/
import Derived.Test.YtnicgmimhgbcfaaGreatDoorW8
namespace Go.Proofs.YtnicgmimhgbcfaaGreatDoor
set_option linter.unusedVariables false
set_option maxRecDepth 100000
open Go.RowKit Go.Shelf Plain Go.Proofs.YtnicgmimhgbcfaaGreatDoor.Shap.Plain

theorem Fputs_snoc (n l i : Nat) (N : List Rf) (F : Nat → Rf) (ks : List (Fin 4)) (k : Fin 4) : Fputs n l i N F (ks ++ [k]) = Fput (Fputs n l i N F ks) (itm n l (4 * i + k.val)) (N.getD k.val zr) := by simp [Fputs]
theorem Fputs_fr (n l i : Nat) (N : List Rf) (F : Nat → Rf) : ∀ m, m ≤ 4 → (∀ k, k < m → Fputs n l i N F (fr m) (itm n l (4 * i + k)) = N.getD k zr) ∧ ∀ x, (∀ k, k < m → x ≠ itm n l (4 * i + k)) → Fputs n l i N F (fr m) x = F x
  | 0, _ => ⟨fun k hk => by omega, fun x _ => rfl⟩
  | m + 1, h => by
    obtain ⟨h1, h2⟩ := Fputs_fr n l i N F m (by omega)
    have e : (f4 m).val = m := f4_val m (by omega)
    rw [fr_succ, Fputs_snoc, e]
    refine ⟨fun k hk => ?_, fun x hx => ?_⟩
    · unfold Fput
      by_cases hkm : k = m
      · subst hkm; simp
      · rw [if_neg (by unfold itm; omega)]
        exact h1 k (by omega)
    · unfold Fput
      rw [if_neg (hx m (by omega))]
      exact h2 x (fun k hk => hx k (by omega))
theorem chn_le (n l i : Nat) : chn n l i ≤ 4 := Nat.min_le_left _ _
theorem lt_chn (n l i k : Nat) (hk : k < 4) : k < chn n l i ↔ 4 * i + k < wd n l := by unfold chn; omega
theorem Fputs_at (n l i k : Nat) (N : List Rf) (F : Nat → Rf) (hk : k < 4) (h : 4 * i + k < wd n l) : Fputs n l i N F (fr (chn n l i)) (itm n l (4 * i + k)) = N.getD k zr :=
  (Fputs_fr n l i N F _ (chn_le n l i)).1 k ((lt_chn n l i k hk).2 h)
/-- Items that are not below the node stay as they were known. -/
theorem Fputs_no (n l i : Nat) (N : List Rf) (F : Nat → Rf) (m j : Nat) (hj : j < wd n m) (h : m ≠ l ∨ j / 4 ≠ i) : Fputs n l i N F (fr (chn n l i)) (itm n m j) = F (itm n m j) := by
  refine (Fputs_fr n l i N F _ (chn_le n l i)).2 _ (fun k hk e => ?_)
  have h4 := chn_le n l i
  obtain ⟨e1, e2⟩ := itm_inj n m l j (4 * i + k) hj ((lt_chn n l i k (by omega)).1 hk) e
  rcases h with h | h
  · exact h e1
  · omega
/-- One node more, unless there is an error. -/
noncomputable def rdSt (K : List Int) (n q : Nat) (s : Disk.Dk × Int × (Nat → Rf)) (j : Nat) : Disk.Dk × Int × (Nat → Rf) := if s.2.1 ≠ 0 then s else ndM K n s j (q / 4 ^ (j + 1))
noncomputable def rdM (K : List Int) (n q : Nat) : Nat → Disk.Dk × Int × (Nat → Rf) → Disk.Dk × Int × (Nat → Rf)
  | 0, s => s
  | l + 1, s => rdM K n q l (rdSt K n q s l)
theorem rdM_err (K : List Int) (n q : Nat) : ∀ l s, s.2.1 ≠ 0 → rdM K n q l s = s
  | 0, s, _ => rfl
  | l + 1, s, h => by rw [rdM, rdSt, if_pos h]; exact rdM_err K n q l s h
theorem rdM_cam (K : List Int) (n q m : Nat) (s : Disk.Dk × Int × (Nat → Rf)) : ∀ k (h : k ≤ m), rdM K n q (m - k) ((cam m k h).foldl (fun s j => rdSt K n q s j.val) s) = rdM K n q m s
  | 0, h => rfl
  | k + 1, h => by
    rw [cam, List.foldl_append]
    have := rdM_cam K n q m s k (by omega)
    rw [← this, show m - k = (m - (k + 1)) + 1 by omega, rdM]
    simp only [List.foldl_cons, List.foldl_nil]
    rw [show m - 1 - k = m - (k + 1) by omega]
theorem readM_rd (K : List Int) (n q : Nat) (hq : q < n) : ∀ l d F, readM (Yk K) Xd n q l d (F (itm n l (q / 4 ^ l))) = if (rdM K n q l (d, 0, F)).2.1 ≠ 0 then ((rdM K n q l (d, 0, F)).1, (rdM K n q l (d, 0, F)).2.1, []) else getM (Yk K) Xd n (rdM K n q l (d, 0, F)).1 0 q ((rdM K n q l (d, 0, F)).2.2 (itm n 0 q))
  | 0, d, F => by simp [readM, rdM]
  | l + 1, d, F => by
    obtain ⟨Z, hZ⟩ : ∃ Z, getM (Yk K) Xd n d (l + 1) (q / 4 ^ (l + 1)) (F (itm n (l + 1) (q / 4 ^ (l + 1)))) = Z := ⟨_, rfl⟩
    have e1 : rdM K n q (l + 1) (d, 0, F) = rdM K n q l (if Z.2.1 ≠ 0 then (Z.1, Z.2.1, F) else (Z.1, 0, Fputs n l (q / 4 ^ (l + 1)) (ofN Z.2.2 4) F (fr (chn n l (q / 4 ^ (l + 1)))))) := by
      rw [rdM, rdSt, if_neg (by simp), ndM]
      simp only [hZ]
    rw [readM, e1, hZ]
    by_cases h : Z.2.1 ≠ 0
    · rw [if_pos h, if_pos h, rdM_err K n q l _ h, if_pos h]
    · rw [if_neg h, if_neg h]
      have hw := quart_lt n q hq l
      have e := quart_at q l
      have hk : q / 4 ^ l % 4 < 4 := Nat.mod_lt _ (by decide)
      have ih := readM_rd K n q hq l Z.1 (Fputs n l (q / 4 ^ (l + 1)) (ofN Z.2.2 4) F (fr (chn n l (q / 4 ^ (l + 1)))))
      have e2 : itm n l (q / 4 ^ l) = itm n l (4 * (q / 4 ^ (l + 1)) + q / 4 ^ l % 4) := by rw [← e]
      rw [e2, Fputs_at n l _ _ _ F hk (by rw [← e]; exact hw)] at ih
      exact ih
/-- The top's ref alone is known. -/
def F0 (n : Nat) (top : Rf) : Nat → Rf := fun x => if x = itm n (topL n) 0 then top else zr
theorem relF_0 (n : Nat) (top : Rf) : RelF (fput (fun _ => none) (itm n (topL n) 0 : Nat) (.agg (ra top))) (F0 n top) := by
  have h : RelF (fun _ => none) (fun _ => zr) := fun i => rfl
  exact relF_put h _ _
theorem okF_0 (n : Nat) (top : Rf) (h : OkR top) : ∀ j, OkR (F0 n top j) := fun j => by
  unfold F0
  split
  · exact h
  · exact ⟨rfl, byt_zeros 32, by constructor <;> decide⟩
theorem quart_top (n q : Nat) (h1 : 1 ≤ n) (h2 : n ≤ 1024) (hq : q < n) : q / 4 ^ topL n = 0 := by
  have := quart_lt n q hq (topL n)
  rw [topL_one n h1 h2] at this
  exact Nat.lt_one_iff.1 this
theorem ndM_disk (K : List Int) (n : Nat) (s : Disk.Dk × Int × (Nat → Rf)) (l i : Nat) : (ndM K n s l i).1.uw = s.1.uw ∧ (ndM K n s l i).1.n = s.1.n ∧ (ndM K n s l i).1.ops.length ≤ s.1.ops.length + 1 := by
  have := getM_disk K n s.1 (l + 1) i (s.2.2 (itm n (l + 1) i))
  unfold ndM
  split <;> exact ⟨this.1, this.2.1, this.2.2.1⟩
theorem fold_disk (K : List Int) (n q m : Nat) : ∀ (pre : List (Fin m)) (s : Disk.Dk × Int × (Nat → Rf)), (pre.foldl (fun s j => rdSt K n q s j.val) s).1.uw = s.1.uw ∧ (pre.foldl (fun s j => rdSt K n q s j.val) s).1.n = s.1.n ∧ (pre.foldl (fun s j => rdSt K n q s j.val) s).1.ops.length ≤ s.1.ops.length + pre.length
  | [], s => ⟨rfl, rfl, by simp⟩
  | j :: pre, s => by
    have ih := fold_disk K n q m pre (rdSt K n q s j.val)
    have h1 : (rdSt K n q s j.val).1.uw = s.1.uw ∧ (rdSt K n q s j.val).1.n = s.1.n ∧ (rdSt K n q s j.val).1.ops.length ≤ s.1.ops.length + 1 := by
      unfold rdSt
      split
      · exact ⟨rfl, rfl, by omega⟩
      · exact ndM_disk K n s _ _
    simp only [List.foldl_cons, List.length_cons]
    exact ⟨ih.1.trans h1.1, ih.2.1.trans h1.2.1, by omega⟩
end Go.Proofs.YtnicgmimhgbcfaaGreatDoor
