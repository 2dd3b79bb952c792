/-
  Images of one's own whose blocks are set; a row of truths that is hit. And what follows it.
-/
import Derived.Test.YthbbijaikcmaeaaGreatDoorQ40
import Derived.Test.YthbbijaikcmaeaaGreatDoorQ41
import Derived.Test.YthbbijaikcmaeaaGreatDoorQ39
namespace Go.Proofs.YthbbijaikcmaeaaGreatDoor
set_option maxRecDepth 100000
set_option linter.unusedVariables false
set_option maxRecDepth 100000
open Go.RowKit Go.Shelf Plain Go.Proofs.YthbbijaikcmaeaaGreatDoor.Shap.Plain
attribute [local go_sem] Oper.semAt_some
theorem flat_set : ∀ (X : List Rec.Im) (i : Nat) (hi : i < X.length) (b : Int), ((X.map Rec.imc).flatten).set (i * 2) (.int .u64 b) = ((X.set i { X[i] with blk := b }).map Rec.imc).flatten
  | m :: X, 0, _, b => by simp [Rec.imc]
  | m :: X, i + 1, hi, b => by
    have ih := flat_set X i (by simpa using hi) b
    have e : (i + 1) * 2 = i * 2 + 1 + 1 := by omega
    simp only [List.map_cons, List.flatten_cons, Rec.imc, List.cons_append, List.nil_append, List.set_cons_succ, e, List.getElem_cons_succ]
    rw [ih]
/-- The number of a block of one's own images is set. -/
theorem oimgs_set {w : World} {B g n cap : Nat} {X : List Rec.Im} (h : Rec.OImgs w B (.slice (some ⟨g, 0, none⟩) n cap) X) (i : Nat) (hi : i < X.length) (b : Int) (hb : N64 b) : Rec.OImgs (w.setCell ⟨g, i * 2, none⟩ (.int .u64 b)) B (.slice (some ⟨g, 0, none⟩) n cap) (X.set i { X[i] with blk := b }) := by
  have hne : ∀ m ∈ X, ∀ k, (Value.slice m.ba m.bl m.bc).ownBlock = some k → k ≠ g := fun m hm k hk e => Rec.own_ne h.row (h.byt m hm).own (by decide) g rfl (by rw [hk, e])
  have hkeep : ∀ m ∈ X, Rec.OIm (w.setCell ⟨g, i * 2, none⟩ (.int .u64 b)) B m := fun m hm => ⟨Rec.own_same (h.byt m hm).own (fun k hk => heap_setCell_other w ⟨g, i * 2, none⟩ k _ (hne m hm k hk)), (h.byt m hm).byt, (h.byt m hm).num⟩
  refine ⟨?_, fun m hm => ?_⟩
  · obtain ⟨h1, h2⟩ := h.row
    refine ⟨by rw [← flat_set X i hi b, List.length_set, h1]; simp, ?_⟩
    rcases h2 with ⟨e, _⟩ | ⟨g', cap', cur, e, hB, hg, hc1, hc2, hc3, hc4⟩
    · cases e
    · simp only [Value.slice.injEq, Option.some.injEq, Addr.mk.injEq, and_true] at e
      obtain ⟨rfl, e2, rfl⟩ := e
      refine .inr ⟨g, cap, cur.setIfInBounds (i * 2) (.int .u64 b), by rw [e2, List.length_set], hB, heap_setCell_same w g (i * 2) cur _ _ hg, by rw [List.length_set]; exact hc1, hc2, by rw [Array.size_setIfInBounds]; exact hc3, ?_⟩
      rw [← flat_set X i hi b, ← hc4, List.length_set, Array.toList_setIfInBounds, List.take_set]
  · rcases List.mem_or_eq_of_mem_set hm with hm | rfl
    · exact hkeep m hm
    · have := hkeep X[i] (List.getElem_mem hi)
      exact ⟨this.own, this.byt, hb⟩
theorem oimgs_cell {w : World} {B g n cap : Nat} {X : List Rec.Im} (h : Rec.OImgs w B (.slice (some ⟨g, 0, none⟩) n cap) X) (i : Nat) (hi : i < X.length) : w.cell? ⟨g, i * 2, none⟩ = some (.int .u64 X[i].blk) ∧ w.frozen? ⟨g, i * 2, none⟩ = false := by
  have e : n = X.length := by
    rcases h.row.2 with ⟨e, _⟩ | ⟨g', cap', cur, e, _⟩
    · cases e
    · simp only [Value.slice.injEq] at e; exact e.2.1
  subst e
  obtain ⟨b, o, hae, hbl, hr⟩ := h.imgs.tb (by omega)
  simp only [Option.some.injEq, Addr.mk.injEq, and_true] at hae
  obtain ⟨rfl, rfl⟩ := hae
  obtain ⟨_, cur, hg⟩ := Rec.own_blk h.row g rfl
  refine ⟨?_, frozen_of_row _ _ _ _ _ hg⟩
  have := hr i hi 0 _ rfl
  simpa using this
theorem oimgs_form {w : World} {B n cap : Nat} {a : Option Addr} {X : List Rec.Im} (h : Rec.OImgs w B (.slice a n cap) X) (hp : 0 < X.length) : ∃ g, a = some ⟨g, 0, none⟩ ∧ B ≤ g ∧ g < w.heap.size := by
  rcases h.row.2 with ⟨_, e⟩ | ⟨g', cap', cur, e, hB, hg, _⟩
  · omega
  · simp only [Value.slice.injEq] at e
    exact ⟨g', e.1, hB, (Array.getElem?_eq_some_iff.1 hg).1⟩
/-- Images so far: the first k have small numbers. -/
structure Md (q B : Nat) (x3 wr : World) (v : Value) (n k : Nat) (X : List Rec.Im) : Prop where
  im : Rec.OImgs wr B v X
  len : X.length = n
  bl : ∀ m ∈ X, m.bl = 160
  sm : ∀ i (h : i < X.length), i < k → X[i].blk < (q : Int)
  bel : Below B x3 wr
theorem Md.step {q B : Nat} {x3 wr : World} {g n k cap : Nat} {X : List Rec.Im} (h : Md q B x3 wr (.slice (some ⟨g, 0, none⟩) n cap) n k X) (hk : k < X.length) (hg : B ≤ g) (hq : 0 < q) (hq2 : q ≤ 1000) (z : Int) (hz : X[k].blk % (q : Int) = z) : Md q B x3 (wr.setCell ⟨g, k * 2, none⟩ (.int .u64 z)) (.slice (some ⟨g, 0, none⟩) n cap) n (k + 1) (X.set k { X[k] with blk := z }) := by
  have hz0 : 0 ≤ z := by rw [← hz]; exact Int.emod_nonneg _ (by omega)
  have hz1 : z < (q : Int) := by rw [← hz]; exact Int.emod_lt_of_pos _ (by omega)
  refine ⟨oimgs_set h.im k hk _ ⟨hz0, by omega⟩, by rw [List.length_set, h.len], fun m hm => ?_, fun i hi hik => ?_, below_set h.bel hg _⟩
  · rcases List.mem_or_eq_of_mem_set hm with hm | rfl
    · exact h.bl m hm
    · exact (h.bl X[k] (List.getElem_mem hk) : X[k].bl = 160)
  · rw [List.getElem_set]
    split
    · exact hz1
    · rename_i hne
      exact h.sm i (by simpa using hi) (by omega)
/-- So many of a block's three items. -/
def htj (s : List Bool × Nat) (b : Nat) : Nat → List Bool × Nat
  | 0 => s
  | j + 1 => ht (htj s b j) (htP b j)
theorem htj_three (s : List Bool × Nat) (b : Nat) : htj s b 3 = htB s b := rfl
theorem ht_len (s : List Bool × Nat) (p : Nat) : (ht s p).1.length = s.1.length := by unfold ht; split <;> simp
theorem htj_len (s : List Bool × Nat) (b : Nat) : ∀ j, (htj s b j).1.length = s.1.length
  | 0 => rfl
  | j + 1 => (ht_len _ _).trans (htj_len s b j)
theorem htB_len (s : List Bool × Nat) (b : Nat) : (htB s b).1.length = s.1.length := htj_len s b 3
theorem htL_len (l : List Nat) : (htL l).1.length = 8 := by
  have : ∀ (l : List Nat) (s : List Bool × Nat), (l.foldl htB s).1.length = s.1.length := by
    intro l
    induction l with
    | nil => intro s; rfl
    | cons b l ih => intro s; exact (ih _).trans (htB_len s b)
  exact (this l _).trans rfl
theorem ht_le (s : List Bool × Nat) (p : Nat) : (ht s p).2 ≤ s.2 + 1 := by unfold ht; split <;> simp
theorem htj_le (s : List Bool × Nat) (b : Nat) : ∀ j, (htj s b j).2 ≤ s.2 + j
  | 0 => Nat.le_refl _
  | j + 1 => by have := ht_le (htj s b j) (htP b j); have := htj_le s b j; show (ht _ _).2 ≤ _; omega
theorem htL_le : ∀ (l : List Nat) (s : List Bool × Nat), (l.foldl htB s).2 ≤ s.2 + 3 * l.length
  | [], s => by simp
  | b :: l, s => by have := htL_le l (htB s b); have := htj_le s b 3; rw [htj_three] at this; simp only [List.foldl_cons, List.length_cons]; omega
theorem htP_lt (b j : Nat) (h : b < 5) : htP b j < 8 := by unfold htP; split <;> omega
/-- What a row of truths is, behind one more item. -/
theorem ht_true (s : List Bool × Nat) (p : Nat) (h : s.1.getD p false = true) : ht s p = s := by unfold ht; rw [if_pos h]
theorem ht_false (s : List Bool × Nat) (p : Nat) (h : s.1.getD p false = false) : ht s p = (s.1.set p true, s.2 + 1) := by unfold ht; rw [if_neg (by rw [h]; decide)]
theorem set_bools (l : List Bool) (p : Nat) : ((l.map Value.bool).toArray).setIfInBounds p (.bool true) = ((l.set p true).map Value.bool).toArray := by rw [List.setIfInBounds_toArray, List.map_set]
theorem get_bools (l : List Bool) (p : Nat) (h : p < l.length) : ((l.map Value.bool).toArray)[p]? = some (.bool (l.getD p false)) := by simp [List.getD, h]
end Go.Proofs.YthbbijaikcmaeaaGreatDoor
namespace Go.Proofs.YthbbijaikcmaeaaGreatDoor
set_option maxRecDepth 100000
set_option linter.unusedVariables false
open Go.RowKit Go.Shelf Plain Go.Proofs.YthbbijaikcmaeaaGreatDoor.Shap.Plain
theorem worn_upd (K : List Int) (fr q lm : Nat) (ok : (⟨K, 5, zr, (fr : Int), (lm : Int)⟩ : Vt).Ok) (X : List Rec.Im) (hbl : ∀ m ∈ X, m.bl = 160) (hby : ∀ m ∈ X, m.bs.length = m.bl ∧ Byt m.bs ∧ 0 ≤ m.blk) (hsm : ∀ m ∈ X, m.blk < 5) (d0 : Disk.Dk) (hup : Up d0) (huw : d0.uw.length = 0) (hlm : fr + q = lm) (h1 : 1 ≤ fr) (h2 : lm ≤ 1000000) (N : Nat) (hN : (htL (X.map (fun m => m.blk.toNat))).2 = N) :
    ∃ d' R, updM (Yk K) Xd 5 (topL 5) (lm : Int) (LM (X.map toIm)) d0 (fr : Int) zr = (d', ((if q < N then fr else fr + N : Nat) : Int), (if q < N then 15 else 0), R) ∧ OkR R ∧ d'.uw.length = (if q < N then 0 else N) := by
  by_cases hne : X = []
  · subst hne
    have hN0 : N = 0 := by rw [← hN]; rfl
    subst hN0
    refine ⟨d0, zr, ?_, okR_zr, by rw [huw]; simp⟩
    simp [updM, LM]
  have hX2 : X.map toIm ≠ [] := by simpa using hne
  have hlen : ∀ m ∈ X.map toIm, m.bs.length = m.bl := fun m hm => by
    obtain ⟨x, hx, rfl⟩ := List.mem_map.1 hm
    exact (hby x hx).1
  have hL : ∀ x ∈ LM (X.map toIm), x.2.length = 160 ∧ Byt x.2 ∧ 0 ≤ x.1 ∧ x.1 < ((5 : Nat) : Int) := fun x hx => by
    rw [LM_to] at hx
    obtain ⟨m, hm, rfl⟩ := List.mem_map.1 hx
    have := hby m hm
    exact ⟨this.1.trans (hbl m hm), this.2.1, this.2.2, hsm m hm⟩
  have hLne : LM (X.map toIm) ≠ [] := by rw [LM_to]; simpa using hne
  have hits := hits_its (LM (X.map toIm)) (fun x hx => (hL x hx).2.2)
  have hm : (LM (X.map toIm)).map (fun x => x.1.toNat) = X.map (fun m => m.blk.toNat) := by rw [LM_to, List.map_map]; rfl
  rw [hm, hN] at hits
  have htk : tk 5 (X.map toIm) = 0 := by
    have a1 : ¬ (X.map toIm).any (fun m => decide (m.bl ≠ 160)) = true := by
      rw [← any_len _ hlen]
      simp only [List.any_eq_true, not_exists, not_and, decide_eq_true_eq]
      exact fun x hx h => h (hL x hx).1
    have a2 : ¬ (X.map toIm).any (fun m => decide (((5 : Nat) : Int) ≤ m.blk)) = true := by
      rw [← any_blk 5]
      simp only [List.any_eq_true, not_exists, not_and, decide_eq_true_eq]
      exact fun x hx h => by have := (hL x hx).2.2.2; omega
    unfold tk
    rw [if_neg a1, if_neg a2]
  by_cases hw : q < N
  · obtain ⟨d', R, e, u, o⟩ := updM_worn ⟨K, 5, zr, (fr : Int), (lm : Int)⟩ ok (X.map toIm) hX2 hlen htk d0 _ (good_new K 5 d0 hup) (by
      show (lm : Int) < (fr : Int) + ((itsTo (lastB (LM (X.map toIm))) 5 (topL 5) (off 5 (topL 5 + 1))).length : Int)
      rw [hits]; omega)
    refine ⟨d', R, ?_, o, by rw [u, huw, if_pos hw]⟩
    rw [if_pos hw, if_pos hw]
    exact e
  · obtain ⟨d', R, e, g, _⟩ := good_update (good_new K 5 d0 hup) (by omega) (by omega) (LM (X.map toIm)) hL hLne (fr : Int) (lm : Int) (by omega) (by omega) (by rw [hits]; omega)
    have e2 := e
    rw [hits] at e
    have hu := uw_updM ⟨K, 5, zr, (fr : Int), (lm : Int)⟩ ok (X.map toIm) hX2 hlen htk d0 d' _ R e2
    rw [show (⟨K, 5, zr, (fr : Int), (lm : Int)⟩ : Vt).n = 5 from rfl, hits, huw] at hu
    refine ⟨d', R, ?_, g.okr, by rw [hu, if_neg hw]; omega⟩
    rw [if_neg hw, if_neg hw, e]
    simp
end Go.Proofs.YthbbijaikcmaeaaGreatDoor
