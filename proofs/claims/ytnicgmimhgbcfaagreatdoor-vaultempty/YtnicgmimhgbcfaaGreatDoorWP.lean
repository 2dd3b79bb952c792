/-
  Gathering and writing by numbers, as the code has them, against the plain steps by levels.
-/
import Derived.Test.YtnicgmimhgbcfaaGreatDoorWO
namespace Go.Proofs.YtnicgmimhgbcfaaGreatDoor
set_option linter.unusedVariables false
set_option maxRecDepth 100000
open Go.RowKit Plain Go.Proofs.YtnicgmimhgbcfaaGreatDoor.Shap.Plain

theorem yr_zr : yr = zr := rfl
theorem itm_eq {n l i m j : Nat} (h1 : i < wd n l) (h2 : j < wd n m) (e : itm n l i = itm n m j) : l = m ∧ i = j := itm_inj n l m i j h1 h2 e
theorem fputs_other (n l i : Nat) (N : List Rf) (x : Nat) : ∀ (m : Nat) (F : Nat → Rf), m ≤ 4 → (∀ c, c < m → x ≠ itm n l (4 * i + c)) → Fputs n l i N F (fr m) x = F x
  | 0, F, _, _ => rfl
  | m + 1, F, h4, h => by
    have ih := fputs_other n l i N x m F (by omega) (fun c hc => h c (by omega))
    rw [fr_succ, Fputs, List.foldl_append]
    show Fput (Fputs n l i N F (fr m)) (itm n l (4 * i + (f4 m).val)) (N.getD (f4 m).val zr) x = F x
    rw [f4_val m (by omega), Fput, if_neg (h m (by omega)), ih]
theorem fputs_at (n l i : Nat) (N : List Rf) (c : Nat) (hc : 4 * i + c < wd n l) : ∀ (m : Nat) (F : Nat → Rf), m ≤ 4 → c < m → 4 * i + m ≤ wd n l → Fputs n l i N F (fr m) (itm n l (4 * i + c)) = N.getD c zr
  | 0, F, _, h, _ => by omega
  | m + 1, F, h4, h, hw => by
    rw [fr_succ, Fputs, List.foldl_append]
    show Fput (Fputs n l i N F (fr m)) (itm n l (4 * i + (f4 m).val)) (N.getD (f4 m).val zr) (itm n l (4 * i + c)) = N.getD c zr
    rw [f4_val m (by omega), Fput]
    by_cases e : c = m
    · subst e; rw [if_pos rfl]
    · rw [if_neg (fun h => e (by have := (itm_eq hc (by omega) h).2; omega))]
      exact fputs_at n l i N c hc m F (by omega) (by omega) (by omega)
/-- A level's nodes are got. -/
structure Lev (n lv : Nat) (dn : List Nat) (s : Gst) (k : Nat → Rf) : Prop where
  f : ∀ j, j < wd n lv → j / 4 ∈ dn → s.2.2.1 (itm n lv j) = k j
  g : ∀ i ∈ dn, ∀ c, c < 4 → k (4 * i + c) = (s.2.2.2 (itm n (lv + 1) i)).getD c zr
/-- What is not of the level stays. -/
def Stay (n lv : Nat) (xs : List Nat) (s t : Gst) : Prop := (∀ l i, l ≠ lv → i < wd n l → t.2.2.1 (itm n l i) = s.2.2.1 (itm n l i)) ∧ ∀ l i, (l ≠ lv + 1 ∨ i ∉ xs) → i < wd n l → t.2.2.2 (itm n l i) = s.2.2.2 (itm n l i)
theorem lev_step {n lv : Nat} {dn : List Nat} {s : Gst} {k : Nat → Rf} (h : Lev n lv dn s k) (hdn : ∀ i ∈ dn, i < wd n (lv + 1)) (i : Nat) (hi : i < wd n (lv + 1)) (N : List Rf) (d : Disk.Dk) :
    Lev n lv (i :: dn) (d, 0, Fputs n lv i N s.2.2.1 (fr (chn n lv i)), Gput s.2.2.2 (itm n (lv + 1) i) N) (setCh k i N) ∧ Stay n lv [i] s (d, 0, Fputs n lv i N s.2.2.1 (fr (chn n lv i)), Gput s.2.2.2 (itm n (lv + 1) i) N) := by
  have hch : 4 * i + chn n lv i ≤ wd n lv := by
    unfold chn
    rw [wd] at hi
    omega
  have hc4 : chn n lv i ≤ 4 := by unfold chn; omega
  refine ⟨⟨fun j hj hm => ?_, fun i' hm c hc => ?_⟩, fun l j hl hj => ?_, fun l j hl hj => ?_⟩
  · simp only [setCh]
    by_cases e : j / 4 = i
    · rw [if_pos e]
      have hj4 : j = 4 * i + j % 4 := by omega
      have hcm : j % 4 < chn n lv i := by unfold chn; omega
      have := fputs_at n lv i N (j % 4) (by omega) (chn n lv i) s.2.2.1 hc4 hcm hch
      rw [← hj4] at this
      rw [this, yr_zr]
    · rw [if_neg e]
      have hd : j / 4 ∈ dn := by
        rcases List.mem_cons.1 hm with h1 | h1
        · exact absurd h1 e
        · exact h1
      rw [fputs_other n lv i N _ _ _ hc4 (fun c hc e2 => e (by have := (itm_eq hj (by omega) e2).2; omega))]
      exact h.f j hj hd
  · simp only [setCh]
    have h1 : (4 * i' + c) / 4 = i' := by omega
    have h2 : (4 * i' + c) % 4 = c := by omega
    rw [h1, h2]
    by_cases e : i' = i
    · subst e
      rw [if_pos rfl, Gput, if_pos rfl, yr_zr]
    · have hd : i' ∈ dn := by
        rcases List.mem_cons.1 hm with h3 | h3
        · exact absurd h3 e
        · exact h3
      rw [if_neg e, Gput, if_neg (fun e2 => e (itm_eq (hdn i' hd) hi e2).2)]
      exact h.g i' hd c hc
  · exact fputs_other n lv i N _ _ _ hc4 (fun c hc e2 => hl (itm_eq hj (by omega) e2).1)
  · simp only [Gput]
    rw [if_neg (fun e2 => ?_)]
    have := itm_eq hj hi e2
    rcases hl with h1 | h1
    · exact h1 this.1
    · exact h1 (by rw [this.2]; exact List.mem_singleton_self _)
theorem Stay.trans {n lv : Nat} {a b : List Nat} {s t u : Gst} (h : Stay n lv a s t) (k : Stay n lv b t u) : Stay n lv (a ++ b) s u :=
  ⟨fun l i hl hi => (k.1 l i hl hi).trans (h.1 l i hl hi), fun l i hl hi => (k.2 l i (hl.imp id (fun h hm => h (List.mem_append_right _ hm))) hi).trans (h.2 l i (hl.imp id (fun h hm => h (List.mem_append_left _ hm))) hi)⟩
/-- All nodes of a level. -/
theorem lev_all (K : List Int) (n lv : Nat) (a : Nat → Rf) : ∀ (xs : List (Nd n)) (dn : List Nat) (s : Gst) (k : Nat → Rf), (∀ x ∈ xs, x.l = lv ∧ s.2.2.1 (itm n (lv + 1) x.i) = a x.i) → (∀ i ∈ dn, i < wd n (lv + 1)) → s.2.1 = 0 → Lev n lv dn s k →
    (gtM K n s xs).1 = (gatL (Yk K) Xd n (lv + 1) a (xs.map (·.i)) s.1 k).1 ∧ (gtM K n s xs).2.1 = (gatL (Yk K) Xd n (lv + 1) a (xs.map (·.i)) s.1 k).2.1 ∧
      ((gtM K n s xs).2.1 = 0 → Lev n lv (xs.map (·.i) ++ dn) (gtM K n s xs) (gatL (Yk K) Xd n (lv + 1) a (xs.map (·.i)) s.1 k).2.2 ∧ Stay n lv (xs.map (·.i)) s (gtM K n s xs))
  | [], dn, s, k, _, _, h0, hL => ⟨rfl, h0, fun _ => ⟨hL, fun _ _ _ _ => rfl, fun _ _ _ _ => rfl⟩⟩
  | x :: xs, dn, s, k, hx, hdn, h0, hL => by
    obtain ⟨hxl, hxa⟩ := hx x List.mem_cons_self
    have hxi : x.i < wd n (lv + 1) := by have := x.hi; rw [hxl] at this; exact this
    obtain ⟨z, hz⟩ : ∃ z, getM (Yk K) Xd n s.1 (lv + 1) x.i (a x.i) = z := ⟨_, rfl⟩
    have hgz : gtz K n s x = z := by unfold gtz; rw [hxl, hxa, hz]
    have e1 : gtM K n s (x :: xs) = gtM K n (gtSt K n s x) xs := rfl
    have e2 : gatL (Yk K) Xd n (lv + 1) a ((x :: xs).map (·.i)) s.1 k = if z.2.1 ≠ 0 then (z.1, z.2.1, k) else gatL (Yk K) Xd n (lv + 1) a (xs.map (·.i)) z.1 (setCh k x.i (ofN z.2.2 4)) := by
      rw [List.map_cons, gatL, hz]
    have e3 : gtSt K n s x = if z.2.1 ≠ 0 then (z.1, z.2.1, s.2.2.1, s.2.2.2) else (z.1, 0, Fputs n lv x.i (ofN z.2.2 4) s.2.2.1 (fr (chn n lv x.i)), Gput s.2.2.2 (itm n (lv + 1) x.i) (ofN z.2.2 4)) := by
      unfold gtSt
      rw [if_neg (by simpa using h0), hgz, hxl]
    rw [e1, e2, e3]
    by_cases hz0 : z.2.1 = 0
    · rw [if_neg (by simpa using hz0), if_neg (by simpa using hz0)]
      obtain ⟨l1, st1⟩ := lev_step hL hdn x.i hxi (ofN z.2.2 4) z.1
      obtain ⟨q1, q2, q3⟩ := lev_all K n lv a xs (x.i :: dn) _ _ (fun y hy => ⟨(hx y (List.mem_cons_of_mem _ hy)).1, by
        rw [st1.1 (lv + 1) y.i (by omega) (by have := y.hi; rw [(hx y (List.mem_cons_of_mem _ hy)).1] at this; exact this)]
        exact (hx y (List.mem_cons_of_mem _ hy)).2⟩) (fun i hi => by rcases List.mem_cons.1 hi with h | h; · rw [h]; exact hxi
                                                                     · exact hdn i h) rfl l1
      refine ⟨q1, q2, fun h => ?_⟩
      obtain ⟨r1, r2⟩ := q3 h
      refine ⟨⟨fun j hj hm => r1.f j hj ?_, fun i hi c hc => r1.g i ?_ c hc⟩, st1.trans r2⟩
      · simp only [List.map_cons, List.cons_append, List.mem_cons, List.mem_append] at hm ⊢
        rcases hm with h | h | h
        · exact .inr (.inl h)
        · exact .inl h
        · exact .inr (.inr h)
      · simp only [List.map_cons, List.cons_append, List.mem_cons, List.mem_append] at hi ⊢
        rcases hi with h | h | h
        · exact .inr (.inl h)
        · exact .inl h
        · exact .inr (.inr h)
    · rw [if_pos hz0, if_pos hz0, gtM_err K n xs _ hz0]
      exact ⟨rfl, rfl, fun h => absurd h hz0⟩
end Go.Proofs.YtnicgmimhgbcfaaGreatDoor
