/-
  The items that an update writes, as the code has them and as the plain steps have them.
-/
import Derived.Test.YtnicgmimhgbcfaaGreatDoorWN
namespace Go.Proofs.YtnicgmimhgbcfaaGreatDoor
set_option linter.unusedVariables false
set_option maxRecDepth 100000
open Go.RowKit Plain Go.Proofs.YtnicgmimhgbcfaaGreatDoor.Shap.Plain

def LM (M : List Im) : List (Int × List Int) := M.map (fun m => (m.blk, m.bs))
/-- The last block of a number. -/
def lastI : List Im → Nat → Option Im
  | [], _ => none
  | m :: M, j => match lastI M j with
    | some x => some x
    | none => if m.blk = (j : Int) then some m else none
theorem lastI_mem : ∀ (M : List Im) (j : Nat) (m : Im), lastI M j = some m → m ∈ M ∧ m.blk = (j : Int)
  | [], j, m, h => by cases h
  | x :: M, j, m, h => by
    rw [lastI] at h
    split at h
    · rename_i y hy
      cases h
      have := lastI_mem M j m hy
      exact ⟨List.mem_cons_of_mem _ this.1, this.2⟩
    · split at h
      · rename_i hb
        cases h
        exact ⟨List.mem_cons_self, hb⟩
      · cases h
theorem lastI_some : ∀ (M : List Im) (j : Nat) (m : Im), m ∈ M → m.blk = (j : Int) → (lastI M j).isSome = true
  | [], j, m, h, _ => by cases h
  | x :: M, j, m, h, hb => by
    rw [lastI]
    split
    · rfl
    · rename_i hn
      rcases List.mem_cons.1 h with e | e
      · subst e
        rw [if_pos hb]; rfl
      · have := lastI_some M j m e hb
        rw [hn] at this
        cases this
theorem lastB_I : ∀ (M : List Im) (j : Nat), lastB (LM M) j = (lastI M j).map (·.bs)
  | [], j => rfl
  | m :: M, j => by
    have ih := lastB_I M j
    show lastB ((m.blk, m.bs) :: LM M) j = _
    rw [lastB, lastI, ih]
    cases hI : lastI M j with
    | some x => rfl
    | none =>
      simp only [Option.map_none]
      split <;> rfl
theorem fB_fold : ∀ (M : List Im) (f : Int → Option Value) (j : Nat), (M.foldl (fun f m => fput f m.blk (.slice m.ba m.bl m.bc)) f) (j : Int) = match lastI M j with
    | some m => some (.slice m.ba m.bl m.bc)
    | none => f (j : Int)
  | [], f, j => rfl
  | m :: M, f, j => by
    rw [List.foldl_cons, fB_fold M, lastI]
    cases hI : lastI M j with
    | some x => rfl
    | none =>
      simp only [fput]
      by_cases e : m.blk = (j : Int)
      · rw [if_pos e, if_pos e.symm]
      · rw [if_neg e, if_neg (fun h => e h.symm)]
theorem fB_last (M : List Im) (j : Nat) : fB M (j : Int) = (lastI M j).map (fun m => .slice m.ba m.bl m.bc) := by
  rw [fB, fB_fold]
  cases lastI M j <;> rfl
theorem its_len (g : Nat → Option (List Int)) (n T : Nat) : ∀ k, (itsTo g n T k).length ≤ k
  | 0 => by simp [itsTo]
  | k + 1 => by
    have := its_len g n T k
    rw [itsTo, List.length_append]
    split <;> simp <;> omega
theorem nds_len (n lv : Nat) : ∀ its : List (Nat × Nat), (nds n lv its).length ≤ (its.filter (fun p => decide (p.1 = lv + 1))).length
  | [] => by simp [nds]
  | p :: its => by
    have ih := nds_len n lv its
    unfold nds at ih ⊢
    rw [List.filterMap_cons, List.filter_cons]
    by_cases h : p.1 = lv + 1 ∧ Ok2 n p
    · rw [dif_pos h, if_pos (by simpa using h.1)]
      simp only [List.length_cons]
      omega
    · rw [dif_neg h]
      by_cases hq : p.1 = lv + 1
      · rw [if_pos (by simpa using hq)]
        exact Nat.le_trans ih (Nat.le_succ _)
      · rw [if_neg (by simpa using hq)]
        exact ih
theorem dnL_len (n : Nat) (its : List (Nat × Nat)) : ∀ lv, (dnL n its lv).length ≤ (its.filter (fun p => decide (p.1 ≤ lv))).length
  | 0 => by simp [dnL]
  | lv + 1 => by
    have ih := dnL_len n its lv
    have h1 := nds_len n lv its
    rw [dnL, List.length_append]
    have h2 : ∀ l : List (Nat × Nat), (l.filter (fun p => decide (p.1 = lv + 1))).length + (l.filter (fun p => decide (p.1 ≤ lv))).length ≤ (l.filter (fun p => decide (p.1 ≤ lv + 1))).length := fun l => by
      induction l with
      | nil => simp
      | cons p l ihl =>
        simp only [List.filter_cons]
        by_cases a : p.1 = lv + 1
        · rw [if_pos (by simpa using a), if_neg (by simp; omega), if_pos (by simp; omega)]
          simp only [List.length_cons]; omega
        · by_cases b : p.1 ≤ lv
          · rw [if_neg (by simpa using a), if_pos (by simpa using b), if_pos (by simp; omega)]
            simp only [List.length_cons]; omega
          · rw [if_neg (by simpa using a), if_neg (by simpa using b), if_neg (by simp; omega)]
            exact ihl
    have := h2 its
    omega
theorem div_wd (n : Nat) : ∀ (l j : Nat), j < n → j / 4 ^ l < wd n l
  | 0, j, h => by simpa [wd] using h
  | l + 1, j, h => by
    have ih := div_wd n l j h
    rw [wd, Nat.pow_succ, ← Nat.div_div_eq_div_mul]
    omega
/-- The items of an update, as the code has them. -/
theorem itm_of (n : Nat) (h1 : 1 ≤ n) (h2 : n ≤ 1024) (M : List Im) (hM : ∀ m ∈ M, 0 ≤ m.blk ∧ m.blk < (n : Int)) : Itm n M (itsTo (lastB (LM M)) n (topL n) (off n (topL n + 1))) (lastB (LM M)) := by
  have hT := topL_bd n h1 h2
  have ho := off_le n h1 h2
  have hsome : ∀ j : Nat, (lastB (LM M) j).isSome = true ↔ ∃ m ∈ M, m.blk = (j : Int) := fun j => by
    rw [lastB_I]
    constructor
    · intro h
      cases hI : lastI M j with
      | none => rw [hI] at h; cases h
      | some m => exact ⟨m, lastI_mem M j m hI⟩
    · rintro ⟨m, hm, e⟩
      have := lastI_some M j m hm e
      cases hI : lastI M j with
      | none => rw [hI] at this; cases this
      | some m => rfl
  have hok : ∀ p ∈ itsTo (lastB (LM M)) n (topL n) (off n (topL n + 1)), Ok2 n p := fun p hp => by
    obtain ⟨l, i⟩ := p
    obtain ⟨a, b⟩ := (itsTo_mem _ n (topL n) l i).1 hp
    obtain ⟨j, hj, _, e⟩ := (wrt_iff _ n l i).1 b
    exact ⟨a, by rw [← e]; exact div_wd n l j hj⟩
  have hlen := its_len (lastB (LM M)) n (topL n) (off n (topL n + 1))
  refine ⟨hok, ?_, by omega, ?_, fun p hp e => ?_, fun p hp e => ?_⟩
  · refine rise_eq _ _ (compact_rise _) ?_ (fun x => ?_)
    · unfold itI
      rw [List.pairwise_map]
      exact (itsTo_ord _ n (topL n) _ (Nat.le_refl _)).imp (fun h => by exact_mod_cast h)
    · rw [compact_mem]
      unfold pths itI
      simp only [List.mem_flatten, List.mem_map]
      constructor
      · rintro ⟨L, ⟨m, hm, rfl⟩, hx⟩
        obtain ⟨k, hk, e⟩ := List.mem_iff_getElem.1 hx
        rw [length_pth] at hk
        have hg := pth_itm n h1 h2 m.blk.toNat (wid n).length k hk (Nat.le_refl _)
        have hgx : (pth (wid n) m.blk.toNat (wid n).length).getD k 0 = x := by rw [← e]; simp [hk, length_pth]
        rw [hgx] at hg
        refine ⟨(k, m.blk.toNat / 4 ^ k), (itsTo_mem _ n (topL n) _ _).2 ⟨by omega, (wrt_iff _ n _ _).2 ⟨m.blk.toNat, ?_, (hsome _).2 ⟨m, hm, ?_⟩, rfl⟩⟩, ?_⟩
        · have := hM m hm; omega
        · have := hM m hm; omega
        · rw [hg]
      · rintro ⟨⟨l, i⟩, hp, rfl⟩
        obtain ⟨a, b⟩ := (itsTo_mem _ n (topL n) l i).1 hp
        obtain ⟨j, hj, hs, e⟩ := (wrt_iff _ n l i).1 b
        obtain ⟨m, hm, hb⟩ := (hsome j).1 hs
        refine ⟨_, ⟨m, hm, rfl⟩, ?_⟩
        have hbj : m.blk.toNat = j := by omega
        have hl : l < (wid n).length := by omega
        have hg := pth_itm n h1 h2 m.blk.toNat (wid n).length l hl (Nat.le_refl _)
        rw [hbj, e] at hg
        simp only
        rw [hbj, ← hg]
        have hl2 : l < (pth (wid n) j (wid n).length).length := by rw [length_pth]; exact hl
        have : (pth (wid n) j (wid n).length).getD l 0 = (pth (wid n) j (wid n).length)[l] := by simp [hl2]
        rw [this]
        exact List.getElem_mem hl2
  · have := dnL_len n (itsTo (lastB (LM M)) n (topL n) (off n (topL n + 1))) (topL n)
    have h3 := List.length_filter_le (fun p : Nat × Nat => decide (p.1 ≤ topL n)) (itsTo (lastB (LM M)) n (topL n) (off n (topL n + 1)))
    omega
  · obtain ⟨l, i⟩ := p
    simp only at e
    subst e
    obtain ⟨a, b⟩ := (itsTo_mem _ n (topL n) 0 i).1 hp
    obtain ⟨j, hj, hs, e⟩ := (wrt_iff _ n 0 i).1 b
    simp only [Nat.pow_zero, Nat.div_one] at e
    subst e
    have hit : itm n 0 j = j := by simp [itm, off]
    simp only [hit]
    rw [lastB_I] at hs
    cases hI : lastI M j with
    | none => rw [hI] at hs; cases hs
    | some m => exact ⟨m, (lastI_mem M j m hI).1, by rw [fB_last, hI]; rfl, by rw [lastB_I, hI]; rfl⟩
  · obtain ⟨l, i⟩ := p
    simp only at e
    have hok2 := hok (l, i) hp
    rw [fB_last]
    cases hI : lastI M (itm n l i) with
    | none => rfl
    | some m =>
      have h3 := lastI_mem M _ m hI
      have h4 := hM m h3.1
      have h5 := off_mono n 1 l (by omega)
      have h6 : off n 1 = n := by simp [off, wd]
      unfold itm at h3
      omega
end Go.Proofs.YtnicgmimhgbcfaaGreatDoor
