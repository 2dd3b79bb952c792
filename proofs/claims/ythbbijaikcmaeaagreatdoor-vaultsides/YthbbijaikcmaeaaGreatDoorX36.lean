/-
  All of an update by numbers, as the code has it, is the plain steps' update. And what follows it.
-/
import Derived.Test.YthbbijaikcmaeaaGreatDoorX35
namespace Go.Proofs.YthbbijaikcmaeaaGreatDoor
set_option maxRecDepth 100000
set_option linter.unusedVariables false
set_option maxRecDepth 100000
open Go.RowKit Plain Go.Proofs.YthbbijaikcmaeaaGreatDoor.Shap.Plain
theorem rise_eqN (A B : List Nat) (hA : A.Pairwise (· < ·)) (hB : B.Pairwise (· < ·)) (h : ∀ x, x ∈ A ↔ x ∈ B) : A = B := by
  have e : A.map (fun (x : Nat) => (x : Int)) = B.map (fun (x : Nat) => (x : Int)) := by
    refine rise_eq _ _ ?_ ?_ (fun x => ?_)
    · rw [List.pairwise_map]; exact hA.imp (fun h => by omega)
    · rw [List.pairwise_map]; exact hB.imp (fun h => by omega)
    · simp only [List.mem_map]
      constructor
      · rintro ⟨y, hy, rfl⟩; exact ⟨y, (h y).1 hy, rfl⟩
      · rintro ⟨y, hy, rfl⟩; exact ⟨y, (h y).2 hy, rfl⟩
  exact (List.map_inj_right (fun x y (h : ((x : Nat) : Int) = (y : Nat)) => by omega)).1 e
theorem wrt_lt (g : Nat → Option (List Int)) (n l i : Nat) (h : wrt g n l i = true) : i < wd n l := by
  obtain ⟨j, hj, _, e⟩ := (wrt_iff g n l i).1 h
  rw [← e]; exact div_wd n l j hj
theorem wrt_par (g : Nat → Option (List Int)) (n l i : Nat) (h : wrt g n l i = true) : wrt g n (l + 1) (i / 4) = true := by
  obtain ⟨j, hj, hs, e⟩ := (wrt_iff g n l i).1 h
  exact (wrt_iff g n (l + 1) (i / 4)).2 ⟨j, hj, hs, by rw [← e, Nat.pow_succ, Nat.div_div_eq_div_mul]⟩
theorem mem_nds (n lv : Nat) (its : List (Nat × Nat)) (x : Nd n) (h : x ∈ nds n lv its) : x.l = lv ∧ (lv + 1, x.i) ∈ its := by
  unfold nds at h
  obtain ⟨p, hp, e⟩ := List.mem_filterMap.1 h
  split at e
  · rename_i hq
    cases e
    exact ⟨rfl, by rw [← hq.1]; exact hp⟩
  · cases e
theorem nds_wl (g : Nat → Option (List Int)) (n T lv : Nat) (hT : T = topL n) (hlv : lv + 1 ≤ T) : (nds n lv (itsTo g n T (off n (T + 1)))).map (·.i) = wl g n (lv + 1) := by
  refine rise_eqN _ _ ?_ ?_ (fun i => ?_)
  · rw [List.pairwise_map]
    unfold nds
    rw [List.pairwise_filterMap]
    refine (itsTo_ord g n T _ (Nat.le_refl _)).imp (fun {a b} h x hx y hy => ?_)
    split at hx
    · rename_i h1
      split at hy
      · rename_i h2
        cases hx
        cases hy
        simp only
        unfold itm at h
        rw [h1.1, h2.1] at h
        omega
      · cases hy
    · cases hx
  · unfold wl
    exact (List.pairwise_lt_range).filter _
  · simp only [List.mem_map, wl, List.mem_filter, List.mem_range]
    constructor
    · rintro ⟨x, hx, rfl⟩
      have := (itsTo_mem g n T _ _).1 (mem_nds n lv _ x hx).2
      exact ⟨wrt_lt g n _ _ this.2, this.2⟩
    · rintro ⟨h1, h2⟩
      have hm := (itsTo_mem g n T (lv + 1) i).2 ⟨hlv, h2⟩
      have hok : Ok2 n (lv + 1, i) := ⟨by rw [← hT]; exact hlv, h1⟩
      refine ⟨⟨lv, i, by rw [← hT]; exact hlv, h1⟩, ?_, rfl⟩
      unfold nds
      exact List.mem_filterMap.2 ⟨(lv + 1, i), hm, by rw [dif_pos ⟨rfl, hok⟩]⟩
structure RelU (g : Nat → Option (List Int)) (n T lv : Nat) (F : Nat → Rf) (G : Nat → List Rf) (Kk : Nat → Nat → Rf) : Prop where
  top : F (itm n T 0) = Kk T 0
  f : ∀ l, lv ≤ l → l < T → ∀ j, j < wd n l → wrt g n (l + 1) (j / 4) = true → F (itm n l j) = Kk l j
  gg : ∀ l, lv ≤ l → l < T → ∀ i, wrt g n (l + 1) i = true → ∀ c, c < 4 → wd n l ≤ 4 * i + c → Kk l (4 * i + c) = (G (itm n (l + 1) i)).getD c zr
theorem relU_of {g : Nat → Option (List Int)} {n T lv : Nat} {F : Nat → Rf} {G : Nat → List Rf} {Kk : Nat → Nat → Rf} (h : RelU g n T lv F G Kk) (hT1 : wd n T = 1) (l i : Nat) (hl : lv ≤ l) (hlT : l ≤ T) (hw : wrt g n l i = true) : F (itm n l i) = Kk l i := by
  by_cases e : l = T
  · subst e
    have := wrt_lt g n l i hw
    have hi : i = 0 := by omega
    subst hi
    exact h.top
  · exact h.f l hl (by omega) i (wrt_lt g n l i hw) (wrt_par g n l i hw)
theorem gat_all (K : List Int) (g : Nat → Option (List Int)) (n T : Nat) (hT : T = topL n) (hT1 : wd n T = 1) : ∀ (lv : Nat) (s : Gst) (Kk : Nat → Nat → Rf), lv ≤ T → s.2.1 = 0 → RelU g n T lv s.2.2.1 s.2.2.2 Kk →
    (gtM K n s (dnL n (itsTo g n T (off n (T + 1))) lv)).1 = (gat (Yk K) Xd n g lv s.1 Kk).1 ∧ (gtM K n s (dnL n (itsTo g n T (off n (T + 1))) lv)).2.1 = (gat (Yk K) Xd n g lv s.1 Kk).2.1 ∧
      ((gtM K n s (dnL n (itsTo g n T (off n (T + 1))) lv)).2.1 = 0 → RelU g n T 0 (gtM K n s (dnL n (itsTo g n T (off n (T + 1))) lv)).2.2.1 (gtM K n s (dnL n (itsTo g n T (off n (T + 1))) lv)).2.2.2 (gat (Yk K) Xd n g lv s.1 Kk).2.2)
  | 0, s, Kk, _, h0, hR => ⟨rfl, h0, fun _ => hR⟩
  | lv + 1, s, Kk, hlv, h0, hR => by
    have hwl := nds_wl g n T lv hT hlv
    have hmem : ∀ x ∈ nds n lv (itsTo g n T (off n (T + 1))), x.l = lv ∧ wrt g n (lv + 1) x.i = true := fun x hx => ⟨(mem_nds n lv _ x hx).1, ((itsTo_mem g n T _ _).1 (mem_nds n lv _ x hx).2).2⟩
    obtain ⟨q1, q2, q3⟩ := lev_all K n lv (Kk (lv + 1)) (nds n lv (itsTo g n T (off n (T + 1)))) [] s (Kk lv) (fun x hx => ⟨(hmem x hx).1, relU_of hR hT1 (lv + 1) x.i (Nat.le_refl _) hlv (hmem x hx).2⟩) (by simp) h0 ⟨by simp, by simp⟩
    rw [hwl] at q1 q2 q3
    rw [dnL, gtM_app, gat]
    obtain ⟨z, hz⟩ : ∃ z, gatL (Yk K) Xd n (lv + 1) (Kk (lv + 1)) (wl g n (lv + 1)) s.1 (Kk lv) = z := ⟨_, rfl⟩
    obtain ⟨s1, hs1⟩ : ∃ s1, gtM K n s (nds n lv (itsTo g n T (off n (T + 1)))) = s1 := ⟨_, rfl⟩
    rw [hz, hs1] at q1 q2 q3
    rw [hz, hs1]
    by_cases hz0 : z.2.1 = 0
    · rw [if_neg (by simpa using hz0), ← q1]
      obtain ⟨L, St⟩ := q3 (q2.trans hz0)
      refine gat_all K g n T hT hT1 lv s1 (setL Kk lv z.2.2) (by omega) (q2.trans hz0) ⟨?_, fun l hl hlT j hj hw => ?_, fun l hl hlT i hw c hc hwd => ?_⟩
      · rw [St.1 T 0 (by omega) (by rw [hT1]; omega), hR.top]
        simp only [setL]
        rw [if_neg (by omega)]
      · by_cases e : l = lv
        · subst e
          simp only [setL, if_true]
          refine L.f j hj ?_
          rw [List.append_nil]
          simp only [wl, List.mem_filter, List.mem_range]
          exact ⟨wrt_lt g n _ _ hw, hw⟩
        · simp only [setL]
          rw [if_neg e, St.1 l j e hj]
          exact hR.f l (by omega) hlT j hj hw
      · by_cases e : l = lv
        · subst e
          simp only [setL, if_true]
          refine L.g i ?_ c hc
          rw [List.append_nil]
          simp only [wl, List.mem_filter, List.mem_range]
          exact ⟨wrt_lt g n _ _ hw, hw⟩
        · simp only [setL]
          rw [if_neg e, St.2 (l + 1) i (.inl (by omega)) (wrt_lt g n _ _ hw)]
          exact hR.gg l (by omega) hlT i hw c hc hwd
    · rw [if_pos hz0, gtM_err K n _ s1 (by rw [q2]; exact hz0)]
      exact ⟨q1, q2, fun h => absurd (q2.symm.trans h) hz0⟩
theorem gtM_len (K : List Int) (n : Nat) : ∀ (l : List (Nd n)) (s : Gst), (∀ m, (s.2.2.2 m).length = 4) → ∀ m, ((gtM K n s l).2.2.2 m).length = 4
  | [], s, h, m => h m
  | x :: l, s, h, m => by
    show ((gtM K n (gtSt K n s x) l).2.2.2 m).length = 4
    refine gtM_len K n l _ (fun m => ?_) m
    unfold gtSt
    split
    · exact h m
    · split
      · exact h m
      · simp only [Gput]
        split
        · exact len_ofN _ 4
        · exact h m
theorem cnN_get (n l i : Nat) (F : Nat → Rf) (N : List Rf) (hN : N.length = 4) : ∀ m, m ≤ 4 → (cnN n l i F N (fr m)).length = 4 ∧ ∀ c, c < 4 → (cnN n l i F N (fr m)).getD c zr = if c < m then F (itm n l (4 * i + c)) else N.getD c zr
  | 0, _ => ⟨hN, fun c _ => by rw [if_neg (by omega)]; rfl⟩
  | m + 1, hm => by
    obtain ⟨h1, h2⟩ := cnN_get n l i F N hN m (by omega)
    rw [fr_succ, cnN_snoc, f4_val m (by omega)]
    refine ⟨by rw [List.length_set]; exact h1, fun c hc => ?_⟩
    by_cases e : c = m
    · subst e
      rw [if_pos (by omega)]
      simp [h1, hc]
    · have := h2 c hc
      rw [List.getD_eq_getElem?_getD] at this ⊢
      rw [List.getElem?_set_ne (by omega), this]
      by_cases h : c < m
      · rw [if_pos h, if_pos (by omega)]
      · rw [if_neg h, if_neg (by omega)]
theorem four_ext (A B : List Rf) (hA : A.length = 4) (hB : B.length = 4) (h : ∀ c, c < 4 → A.getD c zr = B.getD c zr) : A = B := by
  refine List.ext_getElem (by rw [hA, hB]) (fun c h1 h2 => ?_)
  have := h c (by omega)
  simpa [h1, h2] using this
theorem cB_wb {g : Nat → Option (List Int)} {n T : Nat} {F : Nat → Rf} {G : Nat → List Rf} {Kk : Nat → Nat → Rf} (h : RelU g n T 0 F G Kk) (hG : ∀ m, (G m).length = 4) (l i : Nat) (hl : l ≤ T) (hw : wrt g n l i = true) : cB n g G F (l, i) = wb g Kk l i := by
  cases l with
  | zero => rfl
  | succ l =>
    simp only [cB, wb]
    congr 1
    have hc := cnN_get n l i F (G (itm n (l + 1) i)) (hG _) (chn n l i) (by unfold chn; omega)
    refine four_ext _ _ hc.1 rfl (fun c hc4 => ?_)
    rw [hc.2 c hc4]
    have hk : (chd (Kk l) i).getD c zr = Kk l (4 * i + c) := by
      have : c = 0 ∨ c = 1 ∨ c = 2 ∨ c = 3 := by omega
      rcases this with rfl | rfl | rfl | rfl <;> rfl
    rw [hk]
    by_cases hcn : c < chn n l i
    · rw [if_pos hcn]
      exact h.f l (Nat.zero_le _) (by omega) (4 * i + c) (by unfold chn at hcn; omega) (by rw [show (4 * i + c) / 4 = i by omega]; exact hw)
    · rw [if_neg hcn]
      exact (h.gg l (Nat.zero_le _) (by omega) i hw c hc4 (by unfold chn at hcn; omega)).symm
theorem relU_put {g : Nat → Option (List Int)} {n T : Nat} {F : Nat → Rf} {G : Nat → List Rf} {Kk : Nat → Nat → Rf} (h : RelU g n T 0 F G Kk) (hT1 : wd n T = 1) (l i : Nat) (hi : i < wd n l) (R : Rf) : RelU g n T 0 (Fput F (itm n l i) R) G (setK Kk l i R) := by
  have key : ∀ m j, j < wd n m → F (itm n m j) = Kk m j → Fput F (itm n l i) R (itm n m j) = setK Kk l i R m j := fun m j hj e => by
    unfold Fput setK
    by_cases hq : m = l ∧ j = i
    · rw [if_pos hq, hq.1, hq.2, if_pos rfl]
    · rw [if_neg hq, if_neg (fun e2 => hq (itm_eq hj hi e2)), e]
  refine ⟨key T 0 (by omega) h.top, fun m hm hmT j hj hw => key m j hj (h.f m hm hmT j hj hw), fun m hm hmT i' hw c hc hwd => ?_⟩
  unfold setK
  rw [if_neg (fun e => by have := e.1; subst this; omega)]
  exact h.gg m hm hmT i' hw c hc hwd
theorem wr_all (K : List Int) (g : Nat → Option (List Int)) (n T : Nat) (hT1 : wd n T = 1) (G : Nat → List Rf) (hG : ∀ m, (G m).length = 4) : ∀ (its : List (Nat × Nat)) (d : Disk.Dk) (nx : Int) (F : Nat → Rf) (Kk : Nat → Nat → Rf), (∀ p ∈ its, p.1 ≤ T ∧ wrt g n p.1 p.2 = true) → RelU g n T 0 F G Kk →
    (wrL K n g G (d, nx, 0, F) its).1 = (wrM (Yk K) Xd n g its d nx Kk).1 ∧ (wrL K n g G (d, nx, 0, F) its).2.1 = (wrM (Yk K) Xd n g its d nx Kk).2.1 ∧ (wrL K n g G (d, nx, 0, F) its).2.2.1 = (wrM (Yk K) Xd n g its d nx Kk).2.2.1 ∧
      ((wrL K n g G (d, nx, 0, F) its).2.2.1 = 0 → RelU g n T 0 (wrL K n g G (d, nx, 0, F) its).2.2.2 G (wrM (Yk K) Xd n g its d nx Kk).2.2.2)
  | [], d, nx, F, Kk, _, h => ⟨rfl, rfl, rfl, fun _ => h⟩
  | (l, i) :: its, d, nx, F, Kk, hp, h => by
    obtain ⟨hl, hw⟩ := hp (l, i) List.mem_cons_self
    have hF := relU_of h hT1 l i (Nat.zero_le _) hl hw
    have hcb := cB_wb h hG l i hl hw
    have ep : wP n F (l, i) = np n Kk l i := by unfold wP np; simp only; rw [hF]
    have eS : wS K n g G (d, nx, 0, F) (l, i) = (Yk K).sl (np n Kk l i) nx (wb g Kk l i) := by unfold wS; simp only; rw [ep, hcb]
    obtain ⟨q, hq⟩ : ∃ q, Xd.wr d (np n Kk l i) ((Yk K).sl (np n Kk l i) nx (wb g Kk l i)) = q := ⟨_, rfl⟩
    have eQ : wQ K n g G (d, nx, 0, F) (l, i) = q := by unfold wQ; simp only; rw [eS, ep, hq]
    have eR : wR K n g G (d, nx, 0, F) (l, i) = ⟨(Yk K).hs l (np n Kk l i) ((Yk K).sl (np n Kk l i) nx (wb g Kk l i)), 2 * nx + (ns (Kk l i) : Int)⟩ := by unfold wR; simp only; rw [eS, ep, hF]
    have e1 : wrL K n g G (d, nx, 0, F) ((l, i) :: its) = wrL K n g G (wrSt K n g G (d, nx, 0, F) (l, i)) its := rfl
    have e2 : wrSt K n g G (d, nx, 0, F) (l, i) = if q.2 ≠ 0 then (q.1, nx + 1, q.2, F) else (q.1, nx + 1, 0, Fput F (itm n l i) ⟨(Yk K).hs l (np n Kk l i) ((Yk K).sl (np n Kk l i) nx (wb g Kk l i)), 2 * nx + (ns (Kk l i) : Int)⟩) := by
      unfold wrSt
      rw [if_neg (by simp), eQ, eR]
    rw [e1, e2, wrM, hq]
    by_cases h0 : q.2 = 0
    · rw [if_neg (by simpa using h0), if_neg (by simpa using h0)]
      exact wr_all K g n T hT1 G hG its q.1 (nx + 1) _ _ (fun p hp' => hp p (List.mem_cons_of_mem _ hp')) (relU_put h hT1 l i (wrt_lt g n l i hw) _)
    · rw [if_pos h0, if_pos h0, wrL_err K n g G its _ h0]
      exact ⟨rfl, rfl, rfl, fun h => absurd h h0⟩
end Go.Proofs.YthbbijaikcmaeaaGreatDoor
namespace Go.Proofs.YthbbijaikcmaeaaGreatDoor
set_option maxRecDepth 100000
set_option linter.unusedVariables false
open Go.RowKit Plain Go.Proofs.YthbbijaikcmaeaaGreatDoor.Shap.Plain
theorem any_len (M : List Im) (h : ∀ m ∈ M, m.bs.length = m.bl) : (LM M).any (fun x => decide (x.2.length ≠ 160)) = M.any (fun m => decide (m.bl ≠ 160)) := by
  induction M with
  | nil => rfl
  | cons m M ih =>
    have e := ih (fun x hx => h x (List.mem_cons_of_mem _ hx))
    show (decide (m.bs.length ≠ 160) || (LM M).any _) = (decide (m.bl ≠ 160) || M.any _)
    rw [e, h m List.mem_cons_self]
theorem any_blk (n : Nat) (M : List Im) : (LM M).any (fun x => decide ((n : Int) ≤ x.1)) = M.any (fun m => decide ((n : Int) ≤ m.blk)) := by
  induction M with
  | nil => rfl
  | cons m M ih =>
    show (decide ((n : Int) ≤ m.blk) || (LM M).any _) = (decide ((n : Int) ≤ m.blk) || M.any _)
    rw [ih]
theorem updC_updM (v : Vt) (ok : v.Ok) (M : List Im) (hne : M ≠ []) (hlen : ∀ m ∈ M, m.bs.length = m.bl) (htk : tk v.n M = 0) (d : Disk.Dk) :
    updC v (itsTo (lastB (LM M)) v.n (topL v.n) (off v.n (topL v.n + 1))) (lastB (LM M)) d = updM (Yk v.key) Xd v.n (topL v.n) v.lim (LM M) d v.nx v.top := by
  have hT1 := topL_one v.n ok.lo ok.hi
  obtain ⟨g, hg⟩ : ∃ g, lastB (LM M) = g := ⟨_, rfl⟩
  have c1 : ¬ M.any (fun m => decide (m.bl ≠ 160)) = true := fun h => by
    unfold tk at htk
    rw [if_pos h] at htk
    cases htk
  have c2 : ¬ M.any (fun m => decide ((v.n : Int) ≤ m.blk)) = true := fun h => by
    unfold tk at htk
    rw [if_neg c1, if_pos h] at htk
    cases htk
  have c3 : LM M ≠ [] := fun h => hne (by simpa [LM] using h)
  unfold updM
  rw [any_len M hlen, if_neg c1, any_blk, if_neg c2, if_neg c3, hg]
  have hR0 : RelU g v.n (topL v.n) (topL v.n) (F0 v.n v.top) (fun _ => zn) (fun _ _ => v.top) := ⟨by simp [F0], fun l h1 h2 => by omega, fun l h1 h2 => by omega⟩
  obtain ⟨a1, a2, a3⟩ := gat_all v.key g v.n (topL v.n) rfl hT1 (topL v.n) (d, 0, F0 v.n v.top, fun _ => zn) (fun _ _ => v.top) (Nat.le_refl _) rfl hR0
  have hGL := gtM_len v.key v.n (dnL v.n (itsTo g v.n (topL v.n) (off v.n (topL v.n + 1))) (topL v.n)) (d, 0, F0 v.n v.top, fun _ => zn) (fun _ => rfl)
  have hgs : gtM v.key v.n (d, 0, F0 v.n v.top, fun _ => zn) (dnL v.n (itsTo g v.n (topL v.n) (off v.n (topL v.n + 1))) (topL v.n)) = gSt v (itsTo g v.n (topL v.n) (off v.n (topL v.n + 1))) d := rfl
  rw [hgs] at a1 a2 a3 hGL
  obtain ⟨z, hz⟩ : ∃ z, gat (Yk v.key) Xd v.n g (topL v.n) d (fun _ _ => v.top) = z := ⟨_, rfl⟩
  have a1' : (gSt v (itsTo g v.n (topL v.n) (off v.n (topL v.n + 1))) d).1 = z.1 := by rw [← hz]; exact a1
  have a2' : (gSt v (itsTo g v.n (topL v.n) (off v.n (topL v.n + 1))) d).2.1 = z.2.1 := by rw [← hz]; exact a2
  have a3' : (gSt v (itsTo g v.n (topL v.n) (off v.n (topL v.n + 1))) d).2.1 = 0 → RelU g v.n (topL v.n) 0 (gSt v (itsTo g v.n (topL v.n) (off v.n (topL v.n + 1))) d).2.2.1 (gSt v (itsTo g v.n (topL v.n) (off v.n (topL v.n + 1))) d).2.2.2 z.2.2 := fun h => by rw [← hz]; exact a3 h
  clear a1 a2 a3
  rw [hz]
  unfold updC wSt
  obtain ⟨s, hs⟩ : ∃ s, gSt v (itsTo g v.n (topL v.n) (off v.n (topL v.n + 1))) d = s := ⟨_, rfl⟩
  rw [hs] at a1' a2' a3' hGL
  rw [hs]
  by_cases h0 : s.2.1 = 0
  · rw [if_neg (show ¬ (s.2.1 ≠ 0) from fun h => h h0), if_neg (show ¬ (z.2.1 ≠ 0) from fun h => h (a2'.symm.trans h0))]
    have hwn : wnb v (itsTo g v.n (topL v.n) (off v.n (topL v.n + 1))).length = true ↔ v.lim < v.nx + ((itsTo g v.n (topL v.n) (off v.n (topL v.n + 1))).length : Int) := by simp [wnb]
    by_cases hw : v.lim < v.nx + ((itsTo g v.n (topL v.n) (off v.n (topL v.n + 1))).length : Int)
    · rw [if_pos (hwn.2 hw), if_pos hw, a1']
      rfl
    · rw [if_neg (fun h => hw (hwn.1 h)), if_neg hw]
      obtain ⟨b1, b2, b3, b4⟩ := wr_all v.key g v.n (topL v.n) hT1 s.2.2.2 hGL (itsTo g v.n (topL v.n) (off v.n (topL v.n + 1))) s.1 v.nx s.2.2.1 z.2.2 (fun p hp => (itsTo_mem g v.n (topL v.n) p.1 p.2).1 hp) (a3' h0)
      rw [a1'] at b1 b2 b3 b4
      rw [a1']
      by_cases hw0 : (wrL v.key v.n g s.2.2.2 (z.1, v.nx, 0, s.2.2.1) (itsTo g v.n (topL v.n) (off v.n (topL v.n + 1)))).2.2.1 = 0
      · rw [if_neg (fun h => h hw0), if_neg (fun h => h (b3.symm.trans hw0)), b1, b2, (b4 hw0).top]
      · rw [if_pos hw0, if_pos (fun h => hw0 (b3.trans h)), b1, b2, b3]
        rfl
  · rw [if_pos (show s.2.1 ≠ 0 from h0), if_pos (show z.2.1 ≠ 0 from fun h => h0 (a2'.trans h)), a1', a2']
    rfl
theorem update_v {w0 w : World} {V D : Nat} {fp : Nat → Prop} {v : Vt} {d : Disk.Dk} {sa : Option Addr} {sc : Nat} (C : VC w0 w V D fp v d sa sc) (a : Option Addr) (cap : Nat) (M : List Im) (hM : Imgs w a M) (hl : M.length ≤ 1000) (himg : ∀ m ∈ M, ∀ ad, m.ba = some ad → ¬ fp ad.block ∧ ad.block ≠ V) (hnx : 1 ≤ v.nx)
    (hdl : 0 ≤ d.left ∧ d.left ≤ 9223372036854775807) (hop : d.ops.length < 800000) (hup : d.uw.length < 800000) :
    Calls Tryz.prog 11 #[.pointer (some ⟨V, 0, none⟩), .slice a M.length cap] w fun e w' => UpV w0 w V D fp v sa sc (updM (Yk v.key) Xd v.n (topL v.n) v.lim (LM M) d v.nx v.top) e w' := by
  have hlen : ∀ m ∈ M, m.bs.length = m.bl := fun m hm => (hM.byt m hm).1.1
  by_cases htk : tk v.n M = 0
  · by_cases hne : M = []
    · subst hne
      have e : updM (Yk v.key) Xd v.n (topL v.n) v.lim (LM []) d v.nx v.top = (d, v.nx, 0, v.top) := by simp [updM, LM]
      rw [e]
      exact update_none C a cap
    · rw [← updC_updM v C.ok M hne hlen htk d]
      exact update_go C a cap M hM hl (List.length_pos_iff.2 hne) htk himg _ _ (itm_of v.n C.ok.lo C.ok.hi M (fun m hm => ⟨(hM.byt m hm).2.1, (tk_zero htk m hm).2⟩)) hnx hdl hop hup
  · have e : updM (Yk v.key) Xd v.n (topL v.n) v.lim (LM M) d v.nx v.top = (d, v.nx, tk v.n M, zr) := by
      unfold updM tk at *
      rw [any_len M hlen, any_blk]
      split
      · rfl
      · rename_i h1
        rw [if_neg h1] at htk
        split
        · rfl
        · rename_i h2
          rw [if_neg h2] at htk
          exact absurd rfl htk
    rw [e]
    exact update_bad C a cap M hM hl htk
end Go.Proofs.YthbbijaikcmaeaaGreatDoor
namespace Go.Proofs.YthbbijaikcmaeaaGreatDoor
set_option maxRecDepth 100000
set_option linter.unusedVariables false
open Go.RowKit Plain Go.Proofs.YthbbijaikcmaeaaGreatDoor.Shap.Plain
def Up (d : Disk.Dk) : Prop := d.down = false ∧ d.st = false
theorem sound_Xd (m : Nat) : Sound Xd Disk.lat Up m := by
  refine ⟨fun d p hu hp => ⟨Disk.rdOk d (p : Int), ?_, hu, fun q => rfl⟩, fun d p S hu hp => ⟨Disk.wrOk d p S, ?_, hu, fun q => ?_⟩⟩
  · simp only [Xd, hu.1, Bool.false_eq_true, if_false]
  · simp only [Xd, hu.1, hu.2, Bool.false_eq_true, false_and, if_false]
  · rw [Disk.lat_wr]
    by_cases e : p = q
    · rw [if_pos e, if_pos e.symm]
    · rw [if_neg e, if_neg (fun h => e h.symm)]
structure Good (K : List Int) (n : Nat) (d : Disk.Dk) (f : Nat → List Int) (top : Rf) : Prop where
  up : Up d
  is : ∃ Kk, Cert (Yk K) n (topL n) (Disk.lat d) f Kk ∧ Kk (topL n) 0 = top
theorem good_new (K : List Int) (n : Nat) (d : Disk.Dk) (h : Up d) : Good K n d (fun _ => y160) zr := ⟨h, fun _ _ => yr, cert_new _ _ _ _, rfl⟩
theorem good_lat {K : List Int} {n : Nat} {d d' : Disk.Dk} {f : Nat → List Int} {top : Rf} (h : Good K n d f top) (hu : Up d') (hl : ∀ q, Disk.lat d' q = Disk.lat d q) : Good K n d' f top := by
  obtain ⟨Kk, h1, h2⟩ := h.is
  exact ⟨hu, Kk, h1.same (fun l i _ _ _ => hl _), h2⟩
theorem good_read {K : List Int} {n : Nat} {d : Disk.Dk} {f : Nat → List Int} {top : Rf} (h : Good K n d f top) (h1 : 1 ≤ n) (h2 : n ≤ 1024) (j : Nat) (hj : j < n) :
    ∃ d', readM (Yk K) Xd n j (topL n) d top = (d', 0, f j) ∧ Good K n d' f top ∧ ∀ q, Disk.lat d' q = Disk.lat d q := by
  obtain ⟨Kk, c1, c2⟩ := h.is
  obtain ⟨d', e, u, l⟩ := readM_ok (sound_Xd (2 * off n (topL n + 1))) (Nat.le_refl _) j hj (topL n) (Nat.le_refl _) d h.up c1
  have h0 : j / 4 ^ topL n = 0 := by
    have := div_wd n (topL n) j hj
    rw [topL_one n h1 h2] at this
    exact Nat.lt_one_iff.1 this
  rw [h0, c2] at e
  exact ⟨d', e, good_lat h u l, l⟩
theorem good_update {K : List Int} {n : Nat} {d : Disk.Dk} {f : Nat → List Int} {top : Rf} (h : Good K n d f top) (h1 : 1 ≤ n) (h2 : n ≤ 1024) (L : List (Int × List Int)) (hL : ∀ x ∈ L, x.2.length = 160 ∧ Byt x.2 ∧ 0 ≤ x.1 ∧ x.1 < (n : Int)) (hne : L ≠ []) (nx lim : Int) (hn : 1 ≤ nx) (hlim : lim ≤ 9223372036854775807) (hw : nx + ((itsTo (lastB L) n (topL n) (off n (topL n + 1))).length : Int) ≤ lim) :
    ∃ d' R, updM (Yk K) Xd n (topL n) lim L d nx top = (d', nx + ((itsTo (lastB L) n (topL n) (off n (topL n + 1))).length : Int), 0, R) ∧ Good K n d' (newF f (lastB L)) R ∧ Good K n d' f top := by
  obtain ⟨Kk, c1, c2⟩ := h.is
  obtain ⟨d', e, u, _, _, g1, g2⟩ := updM_ok (sound_Xd (2 * off n (topL n + 1))) (Nat.le_refl _) (topL_one n h1 h2) L hL hne nx lim hn hlim hw d h.up c1
  rw [c2] at e
  exact ⟨d', _, e, ⟨u, _, g1, rfl⟩, ⟨u, Kk, g2, c2⟩⟩
end Go.Proofs.YthbbijaikcmaeaaGreatDoor
namespace Go.Proofs.YthbbijaikcmaeaaGreatDoor
set_option maxRecDepth 100000
set_option linter.unusedVariables false
open Go.RowKit Plain Go.Proofs.YthbbijaikcmaeaaGreatDoor.Shap.Plain
theorem aw_top : topL 5 = 2 := by decide
theorem aw_off : off 5 (topL 5 + 1) = 8 := by decide
def b79 : List Int := y160.set 7 9
theorem len_b79 : b79.length = 160 := by simp [b79, y160]
theorem byt_b79 : Byt b79 := fun i => by
  unfold b79
  rw [List.getD_eq_getElem?_getD]
  by_cases e : i = 7
  · subst e; decide
  · rw [List.getElem?_set_ne (by omega), ← List.getD_eq_getElem?_getD]
    exact byt_zeros 160 i
theorem aw_its (b : List Int) : (itsTo (lastB [((4 : Int), b)]) 5 (topL 5) (off 5 (topL 5 + 1))).length = 3 := by
  rw [aw_off, aw_top]
  rfl
end Go.Proofs.YthbbijaikcmaeaaGreatDoor
namespace Go.Proofs.YthbbijaikcmaeaaGreatDoor
set_option maxRecDepth 100000
set_option linter.unusedVariables false
open Go.RowKit Plain Go.Proofs.YthbbijaikcmaeaaGreatDoor.Shap.Plain
structure Gw (d : Disk.Dk) (k : Nat) (d' : Disk.Dk) : Prop where
  ops : d'.ops.length ≤ d.ops.length + k
  uw : d'.uw.length ≤ d.uw.length + k
  left : (0 ≤ d.left ∧ d.left ≤ 9223372036854775807) → (0 ≤ d'.left ∧ d'.left ≤ 9223372036854775807)
  st : d'.st = d.st
  n : d'.n = d.n
theorem Gw.refl (d : Disk.Dk) (k : Nat) : Gw d k d := ⟨by omega, by omega, fun h => h, rfl, rfl⟩
theorem Gw.trans {d d' d'' : Disk.Dk} {k l : Nat} (h : Gw d k d') (h' : Gw d' l d'') : Gw d (k + l) d'' :=
  ⟨by have := h.ops; have := h'.ops; omega, by have := h.uw; have := h'.uw; omega, fun e => h'.left (h.left e), h'.st.trans h.st, h'.n.trans h.n⟩
theorem Gw.more {d d' : Disk.Dk} {k l : Nat} (h : Gw d k d') (hl : k ≤ l) : Gw d l d' := ⟨by have := h.ops; omega, by have := h.uw; omega, h.left, h.st, h.n⟩
theorem gw_get (K : List Int) (n : Nat) (d : Disk.Dk) (l i : Nat) (r : Rf) : Gw d 1 (getM (Yk K) Xd n d l i r).1 := by
  obtain ⟨h1, h2, h3, h4, h5⟩ := getM_disk K n d l i r
  exact ⟨h3, by rw [h1]; omega, by rw [h5]; exact fun h => h, h4, h2⟩
theorem gw_read (K : List Int) (n j : Nat) : ∀ (l : Nat) (d : Disk.Dk) (r : Rf), Gw d (l + 1) (readM (Yk K) Xd n j l d r).1
  | 0, d, r => by show Gw d 1 (getM (Yk K) Xd n d 0 j r).1; exact gw_get K n d 0 j r
  | l + 1, d, r => by
    have h1 := gw_get K n d (l + 1) (j / 4 ^ (l + 1)) r
    unfold readM
    split
    · exact h1.more (by omega)
    · exact (h1.trans (gw_read K n j l _ _)).more (by omega)
theorem gw_wr (d : Disk.Dk) (p : Nat) (S : List Int) : Gw d 1 (Xd.wr d p S).1 := by
  simp only [Xd]
  split
  · exact Gw.refl _ _
  · split
    · exact ⟨Nat.le_succ _, Nat.le_succ _, fun h => h, rfl, rfl⟩
    · rename_i h4 h5
      refine ⟨by simp [Disk.wrOk], by simp [Disk.wrOk], fun h1 => ?_, rfl, rfl⟩
      simp only [Disk.wrOk]
      by_cases hs : d.st = true
      · rw [if_pos hs]
        have : d.left ≠ 0 := fun e => h5 ⟨hs, e⟩
        omega
      · rw [if_neg hs]; exact h1
theorem gw_wrSt (K : List Int) (n : Nat) (bk : Nat → Option (List Int)) (G : Nat → List Rf) (s : Wst) (x : Nat × Nat) : Gw s.1 1 (wrSt K n bk G s x).1 := by
  have h := gw_wr s.1 (wP n s.2.2.2 x) (wS K n bk G s x)
  unfold wrSt
  split
  · exact Gw.refl _ _
  · split
    · exact h
    · exact h
theorem gw_wrL (K : List Int) (n : Nat) (bk : Nat → Option (List Int)) (G : Nat → List Rf) : ∀ (l : List (Nat × Nat)) (s : Wst), Gw s.1 l.length (wrL K n bk G s l).1
  | [], s => Gw.refl _ _
  | x :: l, s => by
    show Gw s.1 (l.length + 1) (wrL K n bk G (wrSt K n bk G s x) l).1
    exact ((gw_wrSt K n bk G s x).trans (gw_wrL K n bk G l _)).more (by omega)
theorem gw_updC (v : Vt) (its : List (Nat × Nat)) (bk : Nat → Option (List Int)) (d : Disk.Dk) : Gw d ((dnL v.n its (topL v.n)).length + its.length) (updC v its bk d).1 := by
  have h1 : Gw d (dnL v.n its (topL v.n)).length (gSt v its d).1 := by
    obtain ⟨h1, h2, h3, h4, h5⟩ := gtM_disk v.key v.n (dnL v.n its (topL v.n)) (d, 0, F0 v.n v.top, fun _ => zn)
    exact ⟨h3, by rw [show (gSt v its d).1.uw = d.uw from h1]; omega, by rw [show (gSt v its d).1.left = d.left from h5]; exact fun h => h, h4, h2⟩
  have h2 : Gw d ((dnL v.n its (topL v.n)).length + its.length) (wSt v its bk d).1 := h1.trans (gw_wrL _ _ _ _ its ((gSt v its d).1, v.nx, 0, (gSt v its d).2.2.1))
  unfold updC
  split
  · exact h1.more (by omega)
  · split
    · exact h1.more (by omega)
    · split
      · exact h2
      · exact h2
theorem gw_updM (v : Vt) (ok : v.Ok) (M : List Im) (hlen : ∀ m ∈ M, m.bs.length = m.bl) (hb : ∀ m ∈ M, 0 ≤ m.blk) (d : Disk.Dk) : Gw d 20000 (updM (Yk v.key) Xd v.n (topL v.n) v.lim (LM M) d v.nx v.top).1 := by
  by_cases htk : tk v.n M = 0
  · by_cases hne : M = []
    · subst hne
      have e : updM (Yk v.key) Xd v.n (topL v.n) v.lim (LM []) d v.nx v.top = (d, v.nx, 0, v.top) := by simp [updM, LM]
      rw [e]
      exact Gw.refl _ _
    · rw [← updC_updM v ok M hne hlen htk d]
      have hit := itm_of v.n ok.lo ok.hi M (fun m hm => ⟨hb m hm, (tk_zero htk m hm).2⟩)
      have h1 := hit.len
      have h2 := hit.dln
      exact (gw_updC v _ _ d).more (by omega)
  · have e : updM (Yk v.key) Xd v.n (topL v.n) v.lim (LM M) d v.nx v.top = (d, v.nx, tk v.n M, zr) := by
      unfold updM tk at *
      rw [any_len M hlen, any_blk]
      split
      · rfl
      · rename_i h1
        rw [if_neg h1] at htk
        split
        · rfl
        · rename_i h2
          rw [if_neg h2] at htk
          exact absurd rfl htk
    rw [e]
    exact Gw.refl _ _
end Go.Proofs.YthbbijaikcmaeaaGreatDoor
