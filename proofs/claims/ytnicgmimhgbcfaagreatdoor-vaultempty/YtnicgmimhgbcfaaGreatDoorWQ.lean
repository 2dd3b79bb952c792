/-
  All of an update by numbers, as the code has it, is the plain steps' update.
-/
import Derived.Test.YtnicgmimhgbcfaaGreatDoorWP
namespace Go.Proofs.YtnicgmimhgbcfaaGreatDoor
set_option linter.unusedVariables false
set_option maxRecDepth 100000
open Go.RowKit Plain Go.Proofs.YtnicgmimhgbcfaaGreatDoor.Shap.Plain

theorem rise_eqN (A B : List Nat) (hA : A.Pairwise (· < ·)) (hB : B.Pairwise (· < ·)) (h : ∀ x, x ∈ A ↔ x ∈ B) : A = B := by
  have e : A.map (fun (x : Nat) => (x : Int)) = B.map (fun (x : Nat) => (x : Int)) := by
    refine rise_eq _ _ ?_ ?_ (fun x => ?_)
    · rw [List.pairwise_map]; exact hA.imp (fun h => by omega)
    · rw [List.pairwise_map]; exact hB.imp (fun h => by omega)
    · simp only [List.mem_map]
      constructor
      · rintro ⟨y, hy, rfl⟩; exact ⟨y, (h y).1 hy, rfl⟩
      · rintro ⟨y, hy, rfl⟩; exact ⟨y, (h y).2 hy, rfl⟩
  exact (List.map_inj_right (fun x y (h : ((x : Nat) : Int) = (y : Nat)) => by omega)).1 e
theorem wrt_lt (g : Nat → Option (List Int)) (n l i : Nat) (h : wrt g n l i = true) : i < wd n l := by
  obtain ⟨j, hj, _, e⟩ := (wrt_iff g n l i).1 h
  rw [← e]; exact div_wd n l j hj
theorem wrt_par (g : Nat → Option (List Int)) (n l i : Nat) (h : wrt g n l i = true) : wrt g n (l + 1) (i / 4) = true := by
  obtain ⟨j, hj, hs, e⟩ := (wrt_iff g n l i).1 h
  exact (wrt_iff g n (l + 1) (i / 4)).2 ⟨j, hj, hs, by rw [← e, Nat.pow_succ, Nat.div_div_eq_div_mul]⟩
theorem mem_nds (n lv : Nat) (its : List (Nat × Nat)) (x : Nd n) (h : x ∈ nds n lv its) : x.l = lv ∧ (lv + 1, x.i) ∈ its := by
  unfold nds at h
  obtain ⟨p, hp, e⟩ := List.mem_filterMap.1 h
  split at e
  · rename_i hq
    cases e
    exact ⟨rfl, by rw [← hq.1]; exact hp⟩
  · cases e
theorem nds_wl (g : Nat → Option (List Int)) (n T lv : Nat) (hT : T = topL n) (hlv : lv + 1 ≤ T) : (nds n lv (itsTo g n T (off n (T + 1)))).map (·.i) = wl g n (lv + 1) := by
  refine rise_eqN _ _ ?_ ?_ (fun i => ?_)
  · rw [List.pairwise_map]
    unfold nds
    rw [List.pairwise_filterMap]
    refine (itsTo_ord g n T _ (Nat.le_refl _)).imp (fun {a b} h x hx y hy => ?_)
    split at hx
    · rename_i h1
      split at hy
      · rename_i h2
        cases hx
        cases hy
        simp only
        unfold itm at h
        rw [h1.1, h2.1] at h
        omega
      · cases hy
    · cases hx
  · unfold wl
    exact (List.pairwise_lt_range).filter _
  · simp only [List.mem_map, wl, List.mem_filter, List.mem_range]
    constructor
    · rintro ⟨x, hx, rfl⟩
      have := (itsTo_mem g n T _ _).1 (mem_nds n lv _ x hx).2
      exact ⟨wrt_lt g n _ _ this.2, this.2⟩
    · rintro ⟨h1, h2⟩
      have hm := (itsTo_mem g n T (lv + 1) i).2 ⟨hlv, h2⟩
      have hok : Ok2 n (lv + 1, i) := ⟨by rw [← hT]; exact hlv, h1⟩
      refine ⟨⟨lv, i, by rw [← hT]; exact hlv, h1⟩, ?_, rfl⟩
      unfold nds
      exact List.mem_filterMap.2 ⟨(lv + 1, i), hm, by rw [dif_pos ⟨rfl, hok⟩]⟩
/-- What is known, by numbers and by levels, agrees from a level on. -/
structure RelU (g : Nat → Option (List Int)) (n T lv : Nat) (F : Nat → Rf) (G : Nat → List Rf) (Kk : Nat → Nat → Rf) : Prop where
  top : F (itm n T 0) = Kk T 0
  f : ∀ l, lv ≤ l → l < T → ∀ j, j < wd n l → wrt g n (l + 1) (j / 4) = true → F (itm n l j) = Kk l j
  gg : ∀ l, lv ≤ l → l < T → ∀ i, wrt g n (l + 1) i = true → ∀ c, c < 4 → wd n l ≤ 4 * i + c → Kk l (4 * i + c) = (G (itm n (l + 1) i)).getD c zr
theorem relU_of {g : Nat → Option (List Int)} {n T lv : Nat} {F : Nat → Rf} {G : Nat → List Rf} {Kk : Nat → Nat → Rf} (h : RelU g n T lv F G Kk) (hT1 : wd n T = 1) (l i : Nat) (hl : lv ≤ l) (hlT : l ≤ T) (hw : wrt g n l i = true) : F (itm n l i) = Kk l i := by
  by_cases e : l = T
  · subst e
    have := wrt_lt g n l i hw
    have hi : i = 0 := by omega
    subst hi
    exact h.top
  · exact h.f l hl (by omega) i (wrt_lt g n l i hw) (wrt_par g n l i hw)
theorem gat_all (K : List Int) (g : Nat → Option (List Int)) (n T : Nat) (hT : T = topL n) (hT1 : wd n T = 1) : ∀ (lv : Nat) (s : Gst) (Kk : Nat → Nat → Rf), lv ≤ T → s.2.1 = 0 → RelU g n T lv s.2.2.1 s.2.2.2 Kk →
    (gtM K n s (dnL n (itsTo g n T (off n (T + 1))) lv)).1 = (gat (Yk K) Xd n g lv s.1 Kk).1 ∧ (gtM K n s (dnL n (itsTo g n T (off n (T + 1))) lv)).2.1 = (gat (Yk K) Xd n g lv s.1 Kk).2.1 ∧
      ((gtM K n s (dnL n (itsTo g n T (off n (T + 1))) lv)).2.1 = 0 → RelU g n T 0 (gtM K n s (dnL n (itsTo g n T (off n (T + 1))) lv)).2.2.1 (gtM K n s (dnL n (itsTo g n T (off n (T + 1))) lv)).2.2.2 (gat (Yk K) Xd n g lv s.1 Kk).2.2)
  | 0, s, Kk, _, h0, hR => ⟨rfl, h0, fun _ => hR⟩
  | lv + 1, s, Kk, hlv, h0, hR => by
    have hwl := nds_wl g n T lv hT hlv
    have hmem : ∀ x ∈ nds n lv (itsTo g n T (off n (T + 1))), x.l = lv ∧ wrt g n (lv + 1) x.i = true := fun x hx => ⟨(mem_nds n lv _ x hx).1, ((itsTo_mem g n T _ _).1 (mem_nds n lv _ x hx).2).2⟩
    obtain ⟨q1, q2, q3⟩ := lev_all K n lv (Kk (lv + 1)) (nds n lv (itsTo g n T (off n (T + 1)))) [] s (Kk lv) (fun x hx => ⟨(hmem x hx).1, relU_of hR hT1 (lv + 1) x.i (Nat.le_refl _) hlv (hmem x hx).2⟩) (by simp) h0 ⟨by simp, by simp⟩
    rw [hwl] at q1 q2 q3
    rw [dnL, gtM_app, gat]
    obtain ⟨z, hz⟩ : ∃ z, gatL (Yk K) Xd n (lv + 1) (Kk (lv + 1)) (wl g n (lv + 1)) s.1 (Kk lv) = z := ⟨_, rfl⟩
    obtain ⟨s1, hs1⟩ : ∃ s1, gtM K n s (nds n lv (itsTo g n T (off n (T + 1)))) = s1 := ⟨_, rfl⟩
    rw [hz, hs1] at q1 q2 q3
    rw [hz, hs1]
    by_cases hz0 : z.2.1 = 0
    · rw [if_neg (by simpa using hz0), ← q1]
      obtain ⟨L, St⟩ := q3 (q2.trans hz0)
      refine gat_all K g n T hT hT1 lv s1 (setL Kk lv z.2.2) (by omega) (q2.trans hz0) ⟨?_, fun l hl hlT j hj hw => ?_, fun l hl hlT i hw c hc hwd => ?_⟩
      · rw [St.1 T 0 (by omega) (by rw [hT1]; omega), hR.top]
        simp only [setL]
        rw [if_neg (by omega)]
      · by_cases e : l = lv
        · subst e
          simp only [setL, if_true]
          refine L.f j hj ?_
          rw [List.append_nil]
          simp only [wl, List.mem_filter, List.mem_range]
          exact ⟨wrt_lt g n _ _ hw, hw⟩
        · simp only [setL]
          rw [if_neg e, St.1 l j e hj]
          exact hR.f l (by omega) hlT j hj hw
      · by_cases e : l = lv
        · subst e
          simp only [setL, if_true]
          refine L.g i ?_ c hc
          rw [List.append_nil]
          simp only [wl, List.mem_filter, List.mem_range]
          exact ⟨wrt_lt g n _ _ hw, hw⟩
        · simp only [setL]
          rw [if_neg e, St.2 (l + 1) i (.inl (by omega)) (wrt_lt g n _ _ hw)]
          exact hR.gg l (by omega) hlT i hw c hc hwd
    · rw [if_pos hz0, gtM_err K n _ s1 (by rw [q2]; exact hz0)]
      exact ⟨q1, q2, fun h => absurd (q2.symm.trans h) hz0⟩
theorem gtM_len (K : List Int) (n : Nat) : ∀ (l : List (Nd n)) (s : Gst), (∀ m, (s.2.2.2 m).length = 4) → ∀ m, ((gtM K n s l).2.2.2 m).length = 4
  | [], s, h, m => h m
  | x :: l, s, h, m => by
    show ((gtM K n (gtSt K n s x) l).2.2.2 m).length = 4
    refine gtM_len K n l _ (fun m => ?_) m
    unfold gtSt
    split
    · exact h m
    · split
      · exact h m
      · simp only [Gput]
        split
        · exact len_ofN _ 4
        · exact h m
theorem cnN_get (n l i : Nat) (F : Nat → Rf) (N : List Rf) (hN : N.length = 4) : ∀ m, m ≤ 4 → (cnN n l i F N (fr m)).length = 4 ∧ ∀ c, c < 4 → (cnN n l i F N (fr m)).getD c zr = if c < m then F (itm n l (4 * i + c)) else N.getD c zr
  | 0, _ => ⟨hN, fun c _ => by rw [if_neg (by omega)]; rfl⟩
  | m + 1, hm => by
    obtain ⟨h1, h2⟩ := cnN_get n l i F N hN m (by omega)
    rw [fr_succ, cnN_snoc, f4_val m (by omega)]
    refine ⟨by rw [List.length_set]; exact h1, fun c hc => ?_⟩
    by_cases e : c = m
    · subst e
      rw [if_pos (by omega)]
      simp [h1, hc]
    · have := h2 c hc
      rw [List.getD_eq_getElem?_getD] at this ⊢
      rw [List.getElem?_set_ne (by omega), this]
      by_cases h : c < m
      · rw [if_pos h, if_pos (by omega)]
      · rw [if_neg h, if_neg (by omega)]
theorem four_ext (A B : List Rf) (hA : A.length = 4) (hB : B.length = 4) (h : ∀ c, c < 4 → A.getD c zr = B.getD c zr) : A = B := by
  refine List.ext_getElem (by rw [hA, hB]) (fun c h1 h2 => ?_)
  have := h c (by omega)
  simpa [h1, h2] using this
/-- What is written of an item. -/
theorem cB_wb {g : Nat → Option (List Int)} {n T : Nat} {F : Nat → Rf} {G : Nat → List Rf} {Kk : Nat → Nat → Rf} (h : RelU g n T 0 F G Kk) (hG : ∀ m, (G m).length = 4) (l i : Nat) (hl : l ≤ T) (hw : wrt g n l i = true) : cB n g G F (l, i) = wb g Kk l i := by
  cases l with
  | zero => rfl
  | succ l =>
    simp only [cB, wb]
    congr 1
    have hc := cnN_get n l i F (G (itm n (l + 1) i)) (hG _) (chn n l i) (by unfold chn; omega)
    refine four_ext _ _ hc.1 rfl (fun c hc4 => ?_)
    rw [hc.2 c hc4]
    have hk : (chd (Kk l) i).getD c zr = Kk l (4 * i + c) := by
      have : c = 0 ∨ c = 1 ∨ c = 2 ∨ c = 3 := by omega
      rcases this with rfl | rfl | rfl | rfl <;> rfl
    rw [hk]
    by_cases hcn : c < chn n l i
    · rw [if_pos hcn]
      exact h.f l (Nat.zero_le _) (by omega) (4 * i + c) (by unfold chn at hcn; omega) (by rw [show (4 * i + c) / 4 = i by omega]; exact hw)
    · rw [if_neg hcn]
      exact (h.gg l (Nat.zero_le _) (by omega) i hw c hc4 (by unfold chn at hcn; omega)).symm
theorem relU_put {g : Nat → Option (List Int)} {n T : Nat} {F : Nat → Rf} {G : Nat → List Rf} {Kk : Nat → Nat → Rf} (h : RelU g n T 0 F G Kk) (hT1 : wd n T = 1) (l i : Nat) (hi : i < wd n l) (R : Rf) : RelU g n T 0 (Fput F (itm n l i) R) G (setK Kk l i R) := by
  have key : ∀ m j, j < wd n m → F (itm n m j) = Kk m j → Fput F (itm n l i) R (itm n m j) = setK Kk l i R m j := fun m j hj e => by
    unfold Fput setK
    by_cases hq : m = l ∧ j = i
    · rw [if_pos hq, hq.1, hq.2, if_pos rfl]
    · rw [if_neg hq, if_neg (fun e2 => hq (itm_eq hj hi e2)), e]
  refine ⟨key T 0 (by omega) h.top, fun m hm hmT j hj hw => key m j hj (h.f m hm hmT j hj hw), fun m hm hmT i' hw c hc hwd => ?_⟩
  unfold setK
  rw [if_neg (fun e => by have := e.1; subst this; omega)]
  exact h.gg m hm hmT i' hw c hc hwd
theorem wr_all (K : List Int) (g : Nat → Option (List Int)) (n T : Nat) (hT1 : wd n T = 1) (G : Nat → List Rf) (hG : ∀ m, (G m).length = 4) : ∀ (its : List (Nat × Nat)) (d : Disk.Dk) (nx : Int) (F : Nat → Rf) (Kk : Nat → Nat → Rf), (∀ p ∈ its, p.1 ≤ T ∧ wrt g n p.1 p.2 = true) → RelU g n T 0 F G Kk →
    (wrL K n g G (d, nx, 0, F) its).1 = (wrM (Yk K) Xd n g its d nx Kk).1 ∧ (wrL K n g G (d, nx, 0, F) its).2.1 = (wrM (Yk K) Xd n g its d nx Kk).2.1 ∧ (wrL K n g G (d, nx, 0, F) its).2.2.1 = (wrM (Yk K) Xd n g its d nx Kk).2.2.1 ∧
      ((wrL K n g G (d, nx, 0, F) its).2.2.1 = 0 → RelU g n T 0 (wrL K n g G (d, nx, 0, F) its).2.2.2 G (wrM (Yk K) Xd n g its d nx Kk).2.2.2)
  | [], d, nx, F, Kk, _, h => ⟨rfl, rfl, rfl, fun _ => h⟩
  | (l, i) :: its, d, nx, F, Kk, hp, h => by
    obtain ⟨hl, hw⟩ := hp (l, i) List.mem_cons_self
    have hF := relU_of h hT1 l i (Nat.zero_le _) hl hw
    have hcb := cB_wb h hG l i hl hw
    have ep : wP n F (l, i) = np n Kk l i := by unfold wP np; simp only; rw [hF]
    have eS : wS K n g G (d, nx, 0, F) (l, i) = (Yk K).sl (np n Kk l i) nx (wb g Kk l i) := by unfold wS; simp only; rw [ep, hcb]
    obtain ⟨q, hq⟩ : ∃ q, Xd.wr d (np n Kk l i) ((Yk K).sl (np n Kk l i) nx (wb g Kk l i)) = q := ⟨_, rfl⟩
    have eQ : wQ K n g G (d, nx, 0, F) (l, i) = q := by unfold wQ; simp only; rw [eS, ep, hq]
    have eR : wR K n g G (d, nx, 0, F) (l, i) = ⟨(Yk K).hs l (np n Kk l i) ((Yk K).sl (np n Kk l i) nx (wb g Kk l i)), 2 * nx + (ns (Kk l i) : Int)⟩ := by unfold wR; simp only; rw [eS, ep, hF]
    have e1 : wrL K n g G (d, nx, 0, F) ((l, i) :: its) = wrL K n g G (wrSt K n g G (d, nx, 0, F) (l, i)) its := rfl
    have e2 : wrSt K n g G (d, nx, 0, F) (l, i) = if q.2 ≠ 0 then (q.1, nx + 1, q.2, F) else (q.1, nx + 1, 0, Fput F (itm n l i) ⟨(Yk K).hs l (np n Kk l i) ((Yk K).sl (np n Kk l i) nx (wb g Kk l i)), 2 * nx + (ns (Kk l i) : Int)⟩) := by
      unfold wrSt
      rw [if_neg (by simp), eQ, eR]
    rw [e1, e2, wrM, hq]
    by_cases h0 : q.2 = 0
    · rw [if_neg (by simpa using h0), if_neg (by simpa using h0)]
      exact wr_all K g n T hT1 G hG its q.1 (nx + 1) _ _ (fun p hp' => hp p (List.mem_cons_of_mem _ hp')) (relU_put h hT1 l i (wrt_lt g n l i hw) _)
    · rw [if_pos h0, if_pos h0, wrL_err K n g G its _ h0]
      exact ⟨rfl, rfl, rfl, fun h => absurd h h0⟩
end Go.Proofs.YtnicgmimhgbcfaaGreatDoor
