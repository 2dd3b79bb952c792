/-
  What Update of package vault leaves: the plain steps' update.
-/
import Derived.Test.YtnicgmimhgbcfaaGreatDoorWQ
namespace Go.Proofs.YtnicgmimhgbcfaaGreatDoor
set_option linter.unusedVariables false
set_option maxRecDepth 100000
open Go.RowKit Plain Go.Proofs.YtnicgmimhgbcfaaGreatDoor.Shap.Plain

theorem any_len (M : List Im) (h : ∀ m ∈ M, m.bs.length = m.bl) : (LM M).any (fun x => decide (x.2.length ≠ 160)) = M.any (fun m => decide (m.bl ≠ 160)) := by
  induction M with
  | nil => rfl
  | cons m M ih =>
    have e := ih (fun x hx => h x (List.mem_cons_of_mem _ hx))
    show (decide (m.bs.length ≠ 160) || (LM M).any _) = (decide (m.bl ≠ 160) || M.any _)
    rw [e, h m List.mem_cons_self]
theorem any_blk (n : Nat) (M : List Im) : (LM M).any (fun x => decide ((n : Int) ≤ x.1)) = M.any (fun m => decide ((n : Int) ≤ m.blk)) := by
  induction M with
  | nil => rfl
  | cons m M ih =>
    show (decide ((n : Int) ≤ m.blk) || (LM M).any _) = (decide ((n : Int) ≤ m.blk) || M.any _)
    rw [ih]
theorem updC_updM (v : Vt) (ok : v.Ok) (M : List Im) (hne : M ≠ []) (hlen : ∀ m ∈ M, m.bs.length = m.bl) (htk : tk v.n M = 0) (d : Disk.Dk) :
    updC v (itsTo (lastB (LM M)) v.n (topL v.n) (off v.n (topL v.n + 1))) (lastB (LM M)) d = updM (Yk v.key) Xd v.n (topL v.n) v.lim (LM M) d v.nx v.top := by
  have hT1 := topL_one v.n ok.lo ok.hi
  obtain ⟨g, hg⟩ : ∃ g, lastB (LM M) = g := ⟨_, rfl⟩
  have c1 : ¬ M.any (fun m => decide (m.bl ≠ 160)) = true := fun h => by
    unfold tk at htk
    rw [if_pos h] at htk
    cases htk
  have c2 : ¬ M.any (fun m => decide ((v.n : Int) ≤ m.blk)) = true := fun h => by
    unfold tk at htk
    rw [if_neg c1, if_pos h] at htk
    cases htk
  have c3 : LM M ≠ [] := fun h => hne (by simpa [LM] using h)
  unfold updM
  rw [any_len M hlen, if_neg c1, any_blk, if_neg c2, if_neg c3, hg]
  have hR0 : RelU g v.n (topL v.n) (topL v.n) (F0 v.n v.top) (fun _ => zn) (fun _ _ => v.top) := ⟨by simp [F0], fun l h1 h2 => by omega, fun l h1 h2 => by omega⟩
  obtain ⟨a1, a2, a3⟩ := gat_all v.key g v.n (topL v.n) rfl hT1 (topL v.n) (d, 0, F0 v.n v.top, fun _ => zn) (fun _ _ => v.top) (Nat.le_refl _) rfl hR0
  have hGL := gtM_len v.key v.n (dnL v.n (itsTo g v.n (topL v.n) (off v.n (topL v.n + 1))) (topL v.n)) (d, 0, F0 v.n v.top, fun _ => zn) (fun _ => rfl)
  have hgs : gtM v.key v.n (d, 0, F0 v.n v.top, fun _ => zn) (dnL v.n (itsTo g v.n (topL v.n) (off v.n (topL v.n + 1))) (topL v.n)) = gSt v (itsTo g v.n (topL v.n) (off v.n (topL v.n + 1))) d := rfl
  rw [hgs] at a1 a2 a3 hGL
  obtain ⟨z, hz⟩ : ∃ z, gat (Yk v.key) Xd v.n g (topL v.n) d (fun _ _ => v.top) = z := ⟨_, rfl⟩
  have a1' : (gSt v (itsTo g v.n (topL v.n) (off v.n (topL v.n + 1))) d).1 = z.1 := by rw [← hz]; exact a1
  have a2' : (gSt v (itsTo g v.n (topL v.n) (off v.n (topL v.n + 1))) d).2.1 = z.2.1 := by rw [← hz]; exact a2
  have a3' : (gSt v (itsTo g v.n (topL v.n) (off v.n (topL v.n + 1))) d).2.1 = 0 → RelU g v.n (topL v.n) 0 (gSt v (itsTo g v.n (topL v.n) (off v.n (topL v.n + 1))) d).2.2.1 (gSt v (itsTo g v.n (topL v.n) (off v.n (topL v.n + 1))) d).2.2.2 z.2.2 := fun h => by rw [← hz]; exact a3 h
  clear a1 a2 a3
  rw [hz]
  unfold updC wSt
  obtain ⟨s, hs⟩ : ∃ s, gSt v (itsTo g v.n (topL v.n) (off v.n (topL v.n + 1))) d = s := ⟨_, rfl⟩
  rw [hs] at a1' a2' a3' hGL
  rw [hs]
  by_cases h0 : s.2.1 = 0
  · rw [if_neg (show ¬ (s.2.1 ≠ 0) from fun h => h h0), if_neg (show ¬ (z.2.1 ≠ 0) from fun h => h (a2'.symm.trans h0))]
    have hwn : wnb v (itsTo g v.n (topL v.n) (off v.n (topL v.n + 1))).length = true ↔ v.lim < v.nx + ((itsTo g v.n (topL v.n) (off v.n (topL v.n + 1))).length : Int) := by simp [wnb]
    by_cases hw : v.lim < v.nx + ((itsTo g v.n (topL v.n) (off v.n (topL v.n + 1))).length : Int)
    · rw [if_pos (hwn.2 hw), if_pos hw, a1']
      rfl
    · rw [if_neg (fun h => hw (hwn.1 h)), if_neg hw]
      obtain ⟨b1, b2, b3, b4⟩ := wr_all v.key g v.n (topL v.n) hT1 s.2.2.2 hGL (itsTo g v.n (topL v.n) (off v.n (topL v.n + 1))) s.1 v.nx s.2.2.1 z.2.2 (fun p hp => (itsTo_mem g v.n (topL v.n) p.1 p.2).1 hp) (a3' h0)
      rw [a1'] at b1 b2 b3 b4
      rw [a1']
      by_cases hw0 : (wrL v.key v.n g s.2.2.2 (z.1, v.nx, 0, s.2.2.1) (itsTo g v.n (topL v.n) (off v.n (topL v.n + 1)))).2.2.1 = 0
      · rw [if_neg (fun h => h hw0), if_neg (fun h => h (b3.symm.trans hw0)), b1, b2, (b4 hw0).top]
      · rw [if_pos hw0, if_pos (fun h => hw0 (b3.trans h)), b1, b2, b3]
        rfl
  · rw [if_pos (show s.2.1 ≠ 0 from h0), if_pos (show z.2.1 ≠ 0 from fun h => h0 (a2'.trans h)), a1', a2']
    rfl
/-- What Update leaves. -/
theorem update_v {w0 w : World} {V D : Nat} {fp : Nat → Prop} {v : Vt} {d : Disk.Dk} {sa : Option Addr} {sc : Nat} (C : VC w0 w V D fp v d sa sc) (a : Option Addr) (cap : Nat) (M : List Im) (hM : Imgs w a M) (hl : M.length ≤ 1000) (himg : ∀ m ∈ M, ∀ ad, m.ba = some ad → ¬ fp ad.block ∧ ad.block ≠ V) (hnx : 1 ≤ v.nx)
    (hdl : 0 ≤ d.left ∧ d.left ≤ 9223372036854775807) (hop : d.ops.length < 800000) (hup : d.uw.length < 800000) :
    Calls Tryz.prog 19 #[.pointer (some ⟨V, 0, none⟩), .slice a M.length cap] w fun e w' => UpV w0 w V D fp v sa sc (updM (Yk v.key) Xd v.n (topL v.n) v.lim (LM M) d v.nx v.top) e w' := by
  have hlen : ∀ m ∈ M, m.bs.length = m.bl := fun m hm => (hM.byt m hm).1.1
  by_cases htk : tk v.n M = 0
  · by_cases hne : M = []
    · subst hne
      have e : updM (Yk v.key) Xd v.n (topL v.n) v.lim (LM []) d v.nx v.top = (d, v.nx, 0, v.top) := by simp [updM, LM]
      rw [e]
      exact update_none C a cap
    · rw [← updC_updM v C.ok M hne hlen htk d]
      exact update_go C a cap M hM hl (List.length_pos_iff.2 hne) htk himg _ _ (itm_of v.n C.ok.lo C.ok.hi M (fun m hm => ⟨(hM.byt m hm).2.1, (tk_zero htk m hm).2⟩)) hnx hdl hop hup
  · have e : updM (Yk v.key) Xd v.n (topL v.n) v.lim (LM M) d v.nx v.top = (d, v.nx, tk v.n M, zr) := by
      unfold updM tk at *
      rw [any_len M hlen, any_blk]
      split
      · rfl
      · rename_i h1
        rw [if_neg h1] at htk
        split
        · rfl
        · rename_i h2
          rw [if_neg h2] at htk
          exact absurd rfl htk
    rw [e]
    exact update_bad C a cap M hM hl htk
end Go.Proofs.YtnicgmimhgbcfaaGreatDoor
