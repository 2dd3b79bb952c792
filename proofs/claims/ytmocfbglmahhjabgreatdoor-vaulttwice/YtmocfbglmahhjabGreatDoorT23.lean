/-
  An update of a vault, told plainly: where all that is known holds and the disk tells no error, its items are written one by one, and what is known then holds with the new leaves, and ahead of that what was known still does. And what follows it.
-/
import Derived.Test.YtmocfbglmahhjabGreatDoorT22
import Derived.Test.YtmocfbglmahhjabGreatDoorT16
import Derived.MapKept
import Derived.Test.YtmocfbglmahhjabGreatDoorT00
namespace Go.Proofs.YtmocfbglmahhjabGreatDoor.Plain
set_option maxRecDepth 100000
set_option linter.unusedVariables false
set_option maxRecDepth 100000
open Go.RowKit
/-- Which refs an update looks at. -/
def Rel (g : Nat → Option (List Int)) (n T l i : Nat) : Prop := wrt g n l i = true ∨ (l < T ∧ wrt g n (l + 1) (i / 4) = true)
/-- How far the writing of items has come: those of dn are written. -/
structure Wd {D : Type} (Y : Sys) (lat : D → Nat → List Int) (up : D → Prop) (n T : Nat) (f : Nat → List Int) (K : Nat → Nat → Rf) (g : Nat → Option (List Int)) (ver : Nat → Nat → Int) (d0 : D) (dn : List (Nat × Nat)) (d : D) (Kc : Nat → Nat → Rf) : Prop where
  up : up d
  kn : ∀ l i, l ≤ T → Rel g n T l i → Kc l i = if (l, i) ∈ dn then newK Y n K g ver l i else K l i
  new : ∀ l i, (l, i) ∈ dn → lat d (np n K l i) = Y.sl (np n K l i) (ver l i) (body (newF f g) (newK Y n K g ver) l i)
  old : ∀ q, (∀ l i, (l, i) ∈ dn → q ≠ np n K l i) → lat d q = lat d0 q
theorem pair_mid {α : Type} {R : α → α → Prop} {A B : List α} {x : α} (h : (A ++ x :: B).Pairwise R) : (∀ a ∈ A, R a x) ∧ ∀ b ∈ B, R x b := by
  rw [List.pairwise_append] at h
  obtain ⟨_, h2, h3⟩ := h
  rw [List.pairwise_cons] at h2
  exact ⟨fun a ha => h3 a ha x List.mem_cons_self, h2.1⟩
theorem wrM_ok {D : Type} {Y : Sys} {X : Dsk D} {lat : D → Nat → List Int} {up : D → Prop} {n T m : Nat} {f : Nat → List Int} {K : Nat → Nat → Rf} (g : Nat → Option (List Int)) (ver : Nat → Nat → Int) (nx0 : Int) (d0 : D) (hX : Sound X lat up m) (hm : 2 * off n (T + 1) ≤ m)
    (its : List (Nat × Nat)) (hmem : ∀ l i, (l, i) ∈ its ↔ l ≤ T ∧ wrt g n l i = true) (hord : its.Pairwise fun a b => itm n a.1 a.2 < itm n b.1 b.2) (hver : ∀ dn t l i, its = dn ++ (l, i) :: t → ver l i = nx0 + (dn.length : Int)) :
    ∀ (t dn : List (Nat × Nat)) (d : D) (Kc : Nat → Nat → Rf), its = dn ++ t → Wd Y lat up n T f K g ver d0 dn d Kc →
      ∃ d' K', wrM Y X n g t d (nx0 + (dn.length : Int)) Kc = (d', nx0 + (its.length : Int), 0, K') ∧ Wd Y lat up n T f K g ver d0 its d' K'
  | [], dn, d, Kc, e, h => by
    rw [List.append_nil] at e
    subst e
    exact ⟨d, Kc, rfl, h⟩
  | (l, i) :: t, dn, d, Kc, e, h => by
    obtain ⟨o1, o2⟩ := pair_mid (e ▸ hord)
    have hin : (l, i) ∈ its := by rw [e]; exact List.mem_append_right _ List.mem_cons_self
    obtain ⟨hl, hw⟩ := (hmem l i).1 hin
    have hi := wrt_lt g n l i hw
    have hnd : (l, i) ∉ dn := fun hc => Nat.lt_irrefl _ (o1 _ hc)
    have hkc : Kc l i = K l i := by rw [h.kn l i hl (.inl hw), if_neg hnd]
    have hnp : np n Kc l i = np n K l i := by unfold np; rw [hkc]
    have hv := hver dn t l i e
    have hb : wb g Kc l i = body (newF f g) (newK Y n K g ver) l i := by
      cases l with
      | zero =>
        obtain ⟨j, _, hg, he⟩ := (wrt_iff g n 0 i).1 hw
        have he' : j = i := by simpa using he
        subst he'
        obtain ⟨b, hb⟩ := Option.isSome_iff_exists.1 hg
        simp [wb, body, newF, hb]
      | succ p =>
        have key : ∀ k, k < 4 → Kc p (4 * i + k) = newK Y n K g ver p (4 * i + k) := by
          intro k hk
          have hdiv : (4 * i + k) / 4 = i := by omega
          rw [h.kn p (4 * i + k) (by omega) (.inr ⟨by omega, by rw [hdiv]; exact hw⟩)]
          cases hwk : wrt g n p (4 * i + k) with
          | false =>
            rw [newK_no Y n K g ver p _ hwk]
            split <;> rfl
          | true =>
            have hc := wrt_lt g n p _ hwk
            have hlt : itm n p (4 * i + k) < itm n (p + 1) i := by unfold itm; rw [off]; omega
            have hmm : (p, 4 * i + k) ∈ dn ++ (p + 1, i) :: t := by rw [← e]; exact (hmem p _).2 ⟨by omega, hwk⟩
            rcases List.mem_append.1 hmm with q | q
            · rw [if_pos q]
            · rcases List.mem_cons.1 q with q | q
              · simp only [Prod.mk.injEq] at q; omega
              · have := o2 _ q; simp only at this; omega
        have k0 := key 0 (by omega)
        rw [Nat.add_zero] at k0
        simp only [wb, body, chd, k0, key 1 (by omega), key 2 (by omega), key 3 (by omega)]
    have hp : np n K l i < m := by
      have := itm_lt n T l i hl hi
      have := ns_lt (K l i)
      unfold np
      omega
    obtain ⟨d1, e1, u1, l1⟩ := hX.wr d (np n K l i) (Y.sl (np n K l i) (ver l i) (body (newF f g) (newK Y n K g ver) l i)) h.up hp
    have hr : newK Y n K g ver l i = ⟨Y.hs l (np n K l i) (Y.sl (np n K l i) (ver l i) (body (newF f g) (newK Y n K g ver) l i)), 2 * ver l i + (ns (K l i) : Int)⟩ := newK_yes Y n K f g ver l i hw
    have h' : Wd Y lat up n T f K g ver d0 (dn ++ [(l, i)]) d1 (setK Kc l i (newK Y n K g ver l i)) := by
      refine ⟨u1, fun p j hp' hrel => ?_, fun p j hpj => ?_, fun q hq => ?_⟩
      · unfold setK
        by_cases hpj : p = l ∧ j = i
        · obtain ⟨rfl, rfl⟩ := hpj
          rw [if_pos ⟨rfl, rfl⟩, if_pos (by simp)]
        · rw [if_neg hpj, h.kn p j hp' hrel]
          have : (p, j) ∈ dn ++ [(l, i)] ↔ (p, j) ∈ dn := by
            simp only [List.mem_append, List.mem_singleton, Prod.mk.injEq]
            exact ⟨fun hh => hh.resolve_right hpj, .inl⟩
          simp only [this]
      · rw [l1]
        rcases List.mem_append.1 hpj with q | q
        · have hne : np n K p j ≠ np n K l i := by
            intro ee
            have hpi : (p, j) ∈ its := by rw [e]; exact List.mem_append_left _ q
            obtain ⟨hp1, hp2⟩ := (hmem p j).1 hpi
            obtain ⟨rfl, rfl⟩ := np_inj n K p l j i (wrt_lt g n p j hp2) hi ee
            exact hnd q
          rw [if_neg hne]
          exact h.new p j q
        · simp only [List.mem_singleton, Prod.mk.injEq] at q
          obtain ⟨rfl, rfl⟩ := q
          rw [if_pos rfl]
      · rw [l1, if_neg (hq l i (by simp))]
        exact h.old q (fun p j hpj => hq p j (List.mem_append_left _ hpj))
    obtain ⟨d', K', e', hW⟩ := wrM_ok g ver nx0 d0 hX hm its hmem hord hver t (dn ++ [(l, i)]) d1 _ (by rw [e]; simp) h'
    refine ⟨d', K', ?_, hW⟩
    rw [wrM, hnp, hb, hkc, ← hv, e1]
    simp only [ne_eq, not_true_eq_false, if_false]
    rw [← hr]
    rw [show nx0 + ((dn ++ [(l, i)]).length : Int) = ver l i + 1 by rw [hv]; simp; omega] at e'
    exact e'
/-- The versions of an update's items, in their order. -/
def verOf (its : List (Nat × Nat)) (nx : Int) (l i : Nat) : Int := nx + (its.idxOf (l, i) : Int)
theorem verOf_at (n : Nat) (its : List (Nat × Nat)) (nx : Int) (hord : its.Pairwise fun a b => itm n a.1 a.2 < itm n b.1 b.2) (dn t : List (Nat × Nat)) (l i : Nat) (e : its = dn ++ (l, i) :: t) : verOf its nx l i = nx + (dn.length : Int) := by
  obtain ⟨o1, _⟩ := pair_mid (e ▸ hord)
  have hnd : (l, i) ∉ dn := fun hc => Nat.lt_irrefl _ (o1 _ hc)
  unfold verOf
  rw [e, List.idxOf_append, if_neg hnd, List.idxOf_cons_self]
  omega
theorem verOf_bd (its : List (Nat × Nat)) (nx : Int) (h1 : 1 ≤ nx) (h2 : nx + (its.length : Int) ≤ 9223372036854775807) (l i : Nat) : 1 ≤ verOf its nx l i ∧ verOf its nx l i ≤ 9223372036854775807 := by
  have := List.idxOf_le_length (a := (l, i)) (l := its)
  unfold verOf
  omega
/-- An update: all nodes got, then all items written. What it comes to. -/
theorem update_ok {D : Type} {Y : Sys} {X : Dsk D} {lat : D → Nat → List Int} {up : D → Prop} {n T m : Nat} {f : Nat → List Int} {K : Nat → Nat → Rf} (g : Nat → Option (List Int)) (nx : Int) (hX : Sound X lat up m) (hm : 2 * off n (T + 1) ≤ m) (hT : wd n T = 1)
    (its : List (Nat × Nat)) (hmem : ∀ l i, (l, i) ∈ its ↔ l ≤ T ∧ wrt g n l i = true) (hord : its.Pairwise fun a b => itm n a.1 a.2 < itm n b.1 b.2) (hg : ∀ j b, g j = some b → b.length = 160 ∧ Byt b) (h1 : 1 ≤ nx) (h2 : nx + (its.length : Int) ≤ 9223372036854775807)
    (d : D) (hu : up d) (hC : Cert Y n T (lat d) f K) (K0 : Nat → Nat → Rf) (hK0 : K0 T 0 = K T 0) :
    ∃ d1 K1 d' K', gat Y X n g T d K0 = (d1, 0, K1) ∧ wrM Y X n g its d1 nx K1 = (d', nx + (its.length : Int), 0, K') ∧ up d' ∧ (∀ q, lat d1 q = lat d q) ∧
      (its ≠ [] → K' T 0 = newK Y n K g (verOf its nx) T 0) ∧ (its = [] → K' T 0 = K T 0) ∧
      (∀ l i, l ≤ T → wrt g n l i = true → lat d' (np n K l i) = Y.sl (np n K l i) (verOf its nx l i) (body (newF f g) (newK Y n K g (verOf its nx)) l i)) ∧
      (∀ q, (∀ l i, l ≤ T → wrt g n l i = true → q ≠ np n K l i) → lat d' q = lat d q) ∧
      Cert Y n T (lat d') (newF f g) (newK Y n K g (verOf its nx)) ∧ Cert Y n T (lat d') f K := by
  have top0 : ∀ i, wrt g n T i = true → i = 0 := fun i hi => by have := wrt_lt g n T i hi; omega
  obtain ⟨d1, K1, e1, u1, l1, k1, k2⟩ := gat_ok g hX hm T (Nat.le_refl _) d K0 hu hC (fun i hi => by rw [top0 i hi]; exact hK0)
  have hW : Wd Y lat up n T f K g (verOf its nx) d1 [] d1 K1 := by
    refine ⟨u1, fun l i hl hr => ?_, fun _ _ hh => (by cases hh), fun _ _ => rfl⟩
    rw [if_neg (by simp)]
    by_cases hlT : l = T
    · subst hlT
      rcases hr with hr | hr
      · rw [top0 i hr, k1 l 0 (Nat.le_refl _)]; exact hK0
      · omega
    · refine k2 l i (by omega) ?_
      rcases hr with hr | hr
      · exact wrt_par g n l i hr
      · exact hr.2
  obtain ⟨d', K', e', hw'⟩ := wrM_ok g (verOf its nx) nx d1 hX hm its hmem hord (fun dn t l i e => verOf_at n its nx hord dn t l i e) its [] d1 K1 rfl hW
  have hnew : ∀ l i, l ≤ T → wrt g n l i = true → lat d' (np n K l i) = Y.sl (np n K l i) (verOf its nx l i) (body (newF f g) (newK Y n K g (verOf its nx)) l i) := fun l i hl hw => hw'.new l i ((hmem l i).2 ⟨hl, hw⟩)
  have hold : ∀ q, (∀ l i, l ≤ T → wrt g n l i = true → q ≠ np n K l i) → lat d' q = lat d q := fun q hq => (hw'.old q (fun l i hli => hq l i ((hmem l i).1 hli).1 ((hmem l i).1 hli).2)).trans (l1 q)
  have hcount : ∀ l i, l ≤ T → i < wd n l → (K l i).s ≠ 0 → lat d' (pc n l i (K l i)) = lat d (pc n l i (K l i)) := fun l i hl hi h0 => hold _ (fun p j hp hw => (np_ne n K p l j i (wrt_lt g n p j hw) hi h0).symm)
  refine ⟨d1, K1, d', K', e1, ?_, hw'.up, l1, fun hne => ?_, fun he => ?_, hnew, hold, hC.update g _ hg (fun l i => verOf_bd its nx h1 h2 l i) (fun l i hl _ hw => hnew l i hl hw) hcount, hC.same hcount⟩
  · have hz : nx + (([] : List (Nat × Nat)).length : Int) = nx := by simp
    rw [hz] at e'
    exact e'
  · obtain ⟨x, hx⟩ := List.exists_mem_of_ne_nil its hne
    obtain ⟨hl, hw⟩ := (hmem x.1 x.2).1 hx
    obtain ⟨j, hj, hgj, _⟩ := (wrt_iff g n x.1 x.2).1 hw
    have hwT : wrt g n T 0 = true := (wrt_iff g n T 0).2 ⟨j, hj, hgj, by have := quart_lt n j hj T; rw [hT] at this; exact Nat.lt_one_iff.1 this⟩
    rw [hw'.kn T 0 (Nat.le_refl _) (.inl hwT), if_pos ((hmem T 0).2 ⟨Nat.le_refl _, hwT⟩)]
  · subst he
    simp only [wrM, Prod.mk.injEq] at e'
    rw [← e'.2.2.2, k1 T 0 (Nat.le_refl _)]
    exact hK0
end Go.Proofs.YtmocfbglmahhjabGreatDoor.Plain
namespace Go.Proofs.YtmocfbglmahhjabGreatDoor.Plain
set_option maxRecDepth 100000
set_option linter.unusedVariables false
open Go.RowKit
/-- An item's level, and its number there. -/
def dec (n : Nat) : Nat → Nat → Nat → Nat × Nat
  | 0, l, x => (l, x)
  | f + 1, l, x => if x < wd n l then (l, x) else dec n f (l + 1) (x - wd n l)
theorem dec_spec (n : Nat) : ∀ f l x, off n l + x < off n (l + f + 1) → l ≤ (dec n f l x).1 ∧ (dec n f l x).1 ≤ l + f ∧ (dec n f l x).2 < wd n (dec n f l x).1 ∧ itm n (dec n f l x).1 (dec n f l x).2 = off n l + x
  | 0, l, x, h => by
    rw [Nat.add_zero, off] at h
    exact ⟨Nat.le_refl _, Nat.le_refl _, by rw [dec]; show x < wd n l; omega, rfl⟩
  | f + 1, l, x, h => by
    rw [dec]
    by_cases hx : x < wd n l
    · rw [if_pos hx]
      exact ⟨Nat.le_refl _, by omega, hx, rfl⟩
    · rw [if_neg hx]
      have e : off n (l + 1) + (x - wd n l) = off n l + x := by rw [off]; omega
      obtain ⟨h1, h2, h3, h4⟩ := dec_spec n f (l + 1) (x - wd n l) (by rw [e, show l + 1 + f + 1 = l + (f + 1) + 1 by omega]; exact h)
      exact ⟨by omega, by omega, h3, h4.trans e⟩
def lvi (n T x : Nat) : Nat × Nat := dec n T 0 x
theorem lvi_spec (n T x : Nat) (h : x < off n (T + 1)) : (lvi n T x).1 ≤ T ∧ (lvi n T x).2 < wd n (lvi n T x).1 ∧ itm n (lvi n T x).1 (lvi n T x).2 = x := by
  obtain ⟨_, h2, h3, h4⟩ := dec_spec n T 0 x (by simpa [off] using h)
  exact ⟨by simpa [lvi] using h2, h3, h4.trans (by simp [off])⟩
theorem lvi_itm (n T l i : Nat) (hl : l ≤ T) (hi : i < wd n l) : lvi n T (itm n l i) = (l, i) := by
  obtain ⟨h1, h2, h3⟩ := lvi_spec n T _ (itm_lt n T l i hl hi)
  obtain ⟨e1, e2⟩ := itm_inj n _ l _ i h2 hi h3
  exact Prod.ext e1 e2
/-- The items that are written among the first k, by rising numbers. -/
def itsTo (g : Nat → Option (List Int)) (n T : Nat) : Nat → List (Nat × Nat)
  | 0 => []
  | k + 1 => itsTo g n T k ++ if wrt g n (lvi n T k).1 (lvi n T k).2 = true then [lvi n T k] else []
theorem mem_itsTo (g : Nat → Option (List Int)) (n T : Nat) (x : Nat × Nat) : ∀ k, x ∈ itsTo g n T k ↔ ∃ y, y < k ∧ lvi n T y = x ∧ wrt g n x.1 x.2 = true
  | 0 => by simp [itsTo]
  | k + 1 => by
    rw [itsTo, List.mem_append, mem_itsTo g n T x k]
    constructor
    · rintro (⟨y, h1, h2, h3⟩ | h)
      · exact ⟨y, by omega, h2, h3⟩
      · split at h
        · rename_i hw
          simp only [List.mem_singleton] at h
          subst h
          exact ⟨k, by omega, rfl, hw⟩
        · cases h
    · rintro ⟨y, h1, h2, h3⟩
      by_cases hy : y < k
      · exact .inl ⟨y, hy, h2, h3⟩
      · obtain rfl : y = k := by omega
        rw [h2, if_pos h3]
        exact .inr (by simp)
theorem itsTo_mem (g : Nat → Option (List Int)) (n T l i : Nat) : (l, i) ∈ itsTo g n T (off n (T + 1)) ↔ l ≤ T ∧ wrt g n l i = true := by
  rw [mem_itsTo]
  constructor
  · rintro ⟨y, hy, h2, h3⟩
    have := lvi_spec n T y hy
    rw [h2] at this
    exact ⟨this.1, h3⟩
  · rintro ⟨hl, hw⟩
    have hi := wrt_lt g n l i hw
    exact ⟨itm n l i, itm_lt n T l i hl hi, lvi_itm n T l i hl hi, hw⟩
theorem itsTo_ord (g : Nat → Option (List Int)) (n T : Nat) : ∀ k, k ≤ off n (T + 1) → (itsTo g n T k).Pairwise fun a b => itm n a.1 a.2 < itm n b.1 b.2
  | 0, _ => by simp [itsTo]
  | k + 1, hk => by
    rw [itsTo, List.pairwise_append]
    refine ⟨itsTo_ord g n T k (by omega), by split <;> simp, fun a ha b hb => ?_⟩
    split at hb
    · simp only [List.mem_singleton] at hb
      subst hb
      obtain ⟨y, hy, h2, _⟩ := (mem_itsTo g n T a k).1 ha
      have e1 := (lvi_spec n T y (by omega)).2.2
      have e2 := (lvi_spec n T k (by omega)).2.2
      rw [← h2, e1, e2]
      exact hy
    · cases hb
/-- The last bytes of a block among those handed in. -/
def lastB : List (Int × List Int) → Nat → Option (List Int)
  | [], _ => none
  | x :: L, j => match lastB L j with
    | some b => some b
    | none => if x.1 = (j : Int) then some x.2 else none
theorem lastB_mem : ∀ (L : List (Int × List Int)) (j : Nat) (b : List Int), lastB L j = some b → ((j : Int), b) ∈ L
  | [], j, b, h => by cases h
  | x :: L, j, b, h => by
    rw [lastB] at h
    cases hq : lastB L j with
    | some c =>
      rw [hq] at h
      cases h
      exact List.mem_cons_of_mem _ (lastB_mem L j _ hq)
    | none =>
      rw [hq] at h
      simp only at h
      split at h
      · rename_i e
        cases h
        rw [← e]
        exact List.mem_cons_self
      · cases h
theorem lastB_some : ∀ (L : List (Int × List Int)) (j : Nat) (b : List Int), ((j : Int), b) ∈ L → (lastB L j).isSome = true
  | [], j, b, h => by cases h
  | x :: L, j, b, h => by
    rw [lastB]
    cases hq : lastB L j with
    | some c => rfl
    | none =>
      rcases List.mem_cons.1 h with h | h
      · rw [← h]; simp
      · have := lastB_some L j b h
        rw [hq] at this
        cases this
/-- Is an item a block handed in, or above one? -/
theorem wrt_last (L : List (Int × List Int)) (n l i : Nat) (hL : ∀ x ∈ L, 0 ≤ x.1 ∧ x.1 < (n : Int)) : wrt (lastB L) n l i = true ↔ ∃ x ∈ L, x.1.toNat / 4 ^ l = i := by
  rw [wrt_iff]
  constructor
  · rintro ⟨j, hj, hs, he⟩
    obtain ⟨b, hb⟩ := Option.isSome_iff_exists.1 hs
    exact ⟨_, lastB_mem L j b hb, by simpa using he⟩
  · rintro ⟨x, hx, he⟩
    have := hL x hx
    have e : ((x.1.toNat : Nat) : Int) = x.1 := by omega
    exact ⟨x.1.toNat, by omega, lastB_some L _ x.2 (by rw [e]; exact hx), he⟩
/-- A whole update: the disk, the next version, an error, the top's ref. -/
def updM {D : Type} (Y : Sys) (X : Dsk D) (n T : Nat) (lim : Int) (L : List (Int × List Int)) (d : D) (nx : Int) (top : Rf) : D × Int × Int × Rf :=
  if L.any (fun x => decide (x.2.length ≠ 160)) = true then (d, nx, 1, yr) else
  if L.any (fun x => decide ((n : Int) ≤ x.1)) = true then (d, nx, 12, yr) else
  if L = [] then (d, nx, 0, top) else
  if (gat Y X n (lastB L) T d (fun _ _ => top)).2.1 ≠ 0 then ((gat Y X n (lastB L) T d (fun _ _ => top)).1, nx, (gat Y X n (lastB L) T d (fun _ _ => top)).2.1, yr) else
  if lim < nx + ((itsTo (lastB L) n T (off n (T + 1))).length : Int) then ((gat Y X n (lastB L) T d (fun _ _ => top)).1, nx, 15, yr) else
  if (wrM Y X n (lastB L) (itsTo (lastB L) n T (off n (T + 1))) (gat Y X n (lastB L) T d (fun _ _ => top)).1 nx (gat Y X n (lastB L) T d (fun _ _ => top)).2.2).2.2.1 ≠ 0 then
    ((wrM Y X n (lastB L) (itsTo (lastB L) n T (off n (T + 1))) (gat Y X n (lastB L) T d (fun _ _ => top)).1 nx (gat Y X n (lastB L) T d (fun _ _ => top)).2.2).1, (wrM Y X n (lastB L) (itsTo (lastB L) n T (off n (T + 1))) (gat Y X n (lastB L) T d (fun _ _ => top)).1 nx (gat Y X n (lastB L) T d (fun _ _ => top)).2.2).2.1, (wrM Y X n (lastB L) (itsTo (lastB L) n T (off n (T + 1))) (gat Y X n (lastB L) T d (fun _ _ => top)).1 nx (gat Y X n (lastB L) T d (fun _ _ => top)).2.2).2.2.1, yr) else
  ((wrM Y X n (lastB L) (itsTo (lastB L) n T (off n (T + 1))) (gat Y X n (lastB L) T d (fun _ _ => top)).1 nx (gat Y X n (lastB L) T d (fun _ _ => top)).2.2).1, (wrM Y X n (lastB L) (itsTo (lastB L) n T (off n (T + 1))) (gat Y X n (lastB L) T d (fun _ _ => top)).1 nx (gat Y X n (lastB L) T d (fun _ _ => top)).2.2).2.1, 0, (wrM Y X n (lastB L) (itsTo (lastB L) n T (off n (T + 1))) (gat Y X n (lastB L) T d (fun _ _ => top)).1 nx (gat Y X n (lastB L) T d (fun _ _ => top)).2.2).2.2.2 T 0)
/-- What an update comes to where all that is known holds, and the disk tells no error. -/
theorem updM_ok {D : Type} {Y : Sys} {X : Dsk D} {lat : D → Nat → List Int} {up : D → Prop} {n T m : Nat} {f : Nat → List Int} {K : Nat → Nat → Rf} (hX : Sound X lat up m) (hm : 2 * off n (T + 1) ≤ m) (hT : wd n T = 1) (L : List (Int × List Int)) (hL : ∀ x ∈ L, x.2.length = 160 ∧ Byt x.2 ∧ 0 ≤ x.1 ∧ x.1 < (n : Int)) (hne : L ≠ []) (nx lim : Int) (h1 : 1 ≤ nx) (hlim : lim ≤ 9223372036854775807) (hw : nx + ((itsTo (lastB L) n T (off n (T + 1))).length : Int) ≤ lim)
    (d : D) (hu : up d) (hC : Cert Y n T (lat d) f K) :
    ∃ d', updM Y X n T lim L d nx (K T 0) = (d', nx + ((itsTo (lastB L) n T (off n (T + 1))).length : Int), 0, newK Y n K (lastB L) (verOf (itsTo (lastB L) n T (off n (T + 1))) nx) T 0) ∧ up d' ∧
      (∀ l i, l ≤ T → wrt (lastB L) n l i = true → lat d' (np n K l i) = Y.sl (np n K l i) (verOf (itsTo (lastB L) n T (off n (T + 1))) nx l i) (body (newF f (lastB L)) (newK Y n K (lastB L) (verOf (itsTo (lastB L) n T (off n (T + 1))) nx)) l i)) ∧
      (∀ q, (∀ l i, l ≤ T → wrt (lastB L) n l i = true → q ≠ np n K l i) → lat d' q = lat d q) ∧
      Cert Y n T (lat d') (newF f (lastB L)) (newK Y n K (lastB L) (verOf (itsTo (lastB L) n T (off n (T + 1))) nx)) ∧ Cert Y n T (lat d') f K := by
  have hg : ∀ j b, lastB L j = some b → b.length = 160 ∧ Byt b := fun j b hb => by
    have := hL _ (lastB_mem L j b hb)
    exact ⟨this.1, this.2.1⟩
  obtain ⟨d1, K1, d', K', e1, e2, u, l1, k1, k2, hnew, hold, c1, c2⟩ := update_ok (lastB L) nx hX hm hT (itsTo (lastB L) n T (off n (T + 1))) (itsTo_mem (lastB L) n T) (itsTo_ord (lastB L) n T _ (Nat.le_refl _)) hg h1 (by omega) d hu hC (fun _ _ => K T 0) rfl
  have hits : itsTo (lastB L) n T (off n (T + 1)) ≠ [] := by
    intro h0
    obtain ⟨x, hx⟩ := List.exists_mem_of_ne_nil L hne
    have hwx : wrt (lastB L) n 0 (x.1.toNat / 4 ^ 0) = true := (wrt_last L n 0 _ (fun y hy => (hL y hy).2.2)).2 ⟨x, hx, rfl⟩
    have := (itsTo_mem (lastB L) n T 0 _).2 ⟨Nat.zero_le _, hwx⟩
    rw [h0] at this
    cases this
  refine ⟨d', ?_, u, hnew, hold, c1, c2⟩
  have a1 : L.any (fun x => decide (x.2.length ≠ 160)) = false := by
    rw [List.any_eq_false]
    intro x hx
    simp [(hL x hx).1]
  have a2 : L.any (fun x => decide ((n : Int) ≤ x.1)) = false := by
    rw [List.any_eq_false]
    intro x hx
    have := (hL x hx).2.2.2
    simp; omega
  rw [updM, a1, a2, e1]
  simp only [Bool.false_eq_true, if_false, if_neg hne, ne_eq, not_true_eq_false]
  rw [e2]
  simp only [not_true_eq_false, if_false]
  rw [if_neg (by omega), k1 hits]
end Go.Proofs.YtmocfbglmahhjabGreatDoor.Plain
namespace Go.Proofs.YtmocfbglmahhjabGreatDoor.Plain
set_option maxRecDepth 100000
set_option linter.unusedVariables false
open Go.RowKit Go.Proofs.YtmocfbglmahhjabGreatDoor.Shap.Plain
theorem wid_wd (n : Nat) (h1 : 1 ≤ n) (h2 : n ≤ 1024) : ∀ l, l < (wid n).length → (wid n).getD l 0 = (wd n l : Int)
  | 0, _ => by rw [wid_zero]; rfl
  | l + 1, h => by
    rw [(shp_wid n h1 h2).st l h, wid_wd n h1 h2 l (by omega), wd]
    omega
theorem wid_off (n : Nat) (h1 : 1 ≤ n) (h2 : n ≤ 1024) : ∀ l, l ≤ (wid n).length → sumTo (wid n) l = (off n l : Int)
  | 0, _ => rfl
  | l + 1, h => by
    rw [sumTo, wid_off n h1 h2 l (by omega), wid_wd n h1 h2 l (by omega), off]
    omega
/-- The top's level. -/
def topL (n : Nat) : Nat := (wid n).length - 1
theorem topL_one (n : Nat) (h1 : 1 ≤ n) (h2 : n ≤ 1024) : wd n (topL n) = 1 := by
  have h := shp_wid n h1 h2
  have hlo := h.lo
  have := wid_wd n h1 h2 (topL n) (by unfold topL; omega)
  unfold topL at this ⊢
  rw [h.top] at this
  omega
theorem topL_bd (n : Nat) (h1 : 1 ≤ n) (h2 : n ≤ 1024) : 1 ≤ topL n ∧ topL n ≤ 5 ∧ topL n + 1 = (wid n).length := by
  have h := shp_wid n h1 h2
  have := h.lo
  have := h.hi
  unfold topL
  omega
/-- All items. -/
theorem wid_items (n : Nat) (h1 : 1 ≤ n) (h2 : n ≤ 1024) : sumTo (wid n) (wid n).length = (off n (topL n + 1) : Int) := by
  rw [(topL_bd n h1 h2).2.2]
  exact wid_off n h1 h2 _ (Nat.le_refl _)
/-- The item of a leaf's path on a level. -/
theorem pth_itm (n : Nat) (h1 : 1 ≤ n) (h2 : n ≤ 1024) (q m k : Nat) (hk : k < m) (hm : m ≤ (wid n).length) : (pth (wid n) q m).getD k 0 = (itm n k (q / 4 ^ k) : Int) := by
  rw [pth_get (wid n) q m k hk, wid_off n h1 h2 k (by omega), itm]
  omega
end Go.Proofs.YtmocfbglmahhjabGreatDoor.Plain
namespace Go.Proofs.YtmocfbglmahhjabGreatDoor
set_option maxRecDepth 100000
set_option linter.unusedVariables false
open Go.RowKit Go.MapKept Plain
/-- What a list of pairs holds for a key. -/
def mget (m : List (Int × Value)) (i : Int) : Option Value := (m.find? (fun p => p.1 == i)).map (·.2)
/-- A key put. -/
def fput (f : Int → Option Value) (i : Int) (v : Value) : Int → Option Value := fun j => if j = i then some v else f j
/-- Block b is a map of ints that holds just this. -/
def Mp (w : World) (b : Nat) (f : Int → Option Value) : Prop :=
  ∃ es clock m, w.heap[b]? = some (.map es clock) ∧ es.toList.map (fun e => (e.key, e.val)) = m.map (fun p : Int × Value => (Value.int .i64 p.1, p.2)) ∧ f = mget m
theorem Mp.lt {w : World} {b : Nat} {f : Int → Option Value} (h : Mp w b f) : b < w.heap.size := by
  obtain ⟨es, c, m, h1, _⟩ := h
  exact (Array.getElem?_eq_some_iff.1 h1).1
theorem Mp.same {w w' : World} {b : Nat} {f : Int → Option Value} (h : Mp w b f) (hs : w'.heap[b]? = w.heap[b]?) : Mp w' b f := by
  obtain ⟨es, c, m, h1, h2, h3⟩ := h
  exact ⟨es, c, m, hs.trans h1, h2, h3⟩
theorem mp_new (w : World) : Mp (w.alloc (.map #[] 0)) w.heap.size (fun _ => none) := ⟨#[], 0, [], (heap_alloc w _).1, rfl, rfl⟩
/-- A key's place in the list, or none. -/
theorem mp_find (i : Int) : ∀ (l : List MapEntry) (m : List (Int × Value)) (k : Nat), l.map (fun e => (e.key, e.val)) = m.map (fun p : Int × Value => (Value.int .i64 p.1, p.2)) →
    (Instr.findNow (.int .i64) (.int .i64 i) l k = some none ∧ mget m i = none ∧ ∀ p ∈ m, p.1 ≠ i) ∨
    ∃ A v B, m = A ++ (i, v) :: B ∧ (∀ p ∈ A, p.1 ≠ i) ∧ Instr.findNow (.int .i64) (.int .i64 i) l k = some (some (k + A.length, v)) ∧ mget m i = some v
  | [], [], k, _ => .inl ⟨rfl, rfl, fun p hp => by cases hp⟩
  | [], p :: m, k, h => by simp at h
  | e :: l, [], k, h => by simp at h
  | e :: l, p :: m, k, h => by
    simp only [List.map_cons, List.cons.injEq, Prod.mk.injEq] at h
    obtain ⟨⟨h1, h2⟩, h3⟩ := h
    by_cases hp : p.1 = i
    · refine .inr ⟨[], p.2, m, by rw [← hp]; rfl, ⟨(fun q hq => absurd hq List.not_mem_nil), ?_, ?_⟩⟩
      · simp [Instr.findNow, Instr.sameNow, h1, hp, h2]
      · simp [mget, hp]
    · have hn : Instr.findNow (.int .i64) (.int .i64 i) (e :: l) k = Instr.findNow (.int .i64) (.int .i64 i) l (k + 1) := by
        have hb : (i == p.1) = false := by simpa using (fun e => hp e.symm : ¬ i = p.1)
        simp [Instr.findNow, Instr.sameNow, h1, hb]
      have hm : mget (p :: m) i = mget m i := by simp [mget, hp]
      rcases mp_find i l m (k + 1) h3 with ⟨a, b, c⟩ | ⟨A, v, B, a, b, c, d⟩
      · refine .inl ⟨by rw [hn, a], by rw [hm, b], fun q hq => ?_⟩
        rcases List.mem_cons.1 hq with rfl | hq
        · exact hp
        · exact c q hq
      · refine .inr ⟨p :: A, v, B, by rw [a]; rfl, fun q hq => ?_, ?_, by rw [hm, d]⟩
        · rcases List.mem_cons.1 hq with rfl | hq
          · exact hp
          · exact b q hq
        · rw [hn, c]
          simp only [List.length_cons, Nat.add_assoc, Nat.add_comm 1]
theorem mget_app_no (m : List (Int × Value)) (i j : Int) (v : Value) (h : ∀ p ∈ m, p.1 ≠ i) : mget (m ++ [(i, v)]) j = fput (mget m) i v j := by
  unfold mget fput
  rw [List.find?_append]
  by_cases hj : j = i
  · subst hj
    have : m.find? (fun p => p.1 == j) = none := by
      rw [List.find?_eq_none]
      intro p hp
      simpa using h p hp
    simp [this]
  · rw [if_neg hj]
    have : ¬ i = j := fun e => hj e.symm
    cases hq : m.find? (fun p => p.1 == j) <;> simp [this, hq]
theorem mget_mid (A B : List (Int × Value)) (i j : Int) (u v : Value) (h : ∀ p ∈ A, p.1 ≠ i) : mget (A ++ (i, v) :: B) j = fput (mget (A ++ (i, u) :: B)) i v j := by
  unfold fput
  simp only [mget, List.find?_append]
  by_cases hj : j = i
  · subst hj
    have : A.find? (fun p => p.1 == j) = none := by
      rw [List.find?_eq_none]
      intro p hp
      simpa using h p hp
    simp [this]
  · rw [if_neg hj]
    have : ¬ i = j := fun e => hj e.symm
    cases hq : A.find? (fun p => p.1 == j) <;> simp [this]
section
variable {P : Program} {t k e : TypeId}
/-- 'm[i]', and 'v, ok := m[i]'. -/
theorem Mp.look {w : World} {b : Nat} {f : Int → Option Value} (h : Mp w b f) (ht : P.underlying t = some (.map k e)) (hk : P.underlying k = some (.int .i64)) (z : Value) (hz : (zeroValue e).run P w = .ok z w) (i : Int) (c : Bool) :
    (Instr.lookup t (.map (some b)) (.int .i64 i) c).run P w = .ok (if c then .tuple #[(f i).getD z, .bool (f i).isSome] else (f i).getD z) w := by
  obtain ⟨es, clock, m, h1, h2, rfl⟩ := h
  have hkey : IsKey (.int .i64) (.int .i64 i) := by simp [IsKey]
  rcases mp_find i es.toList m 0 h2 with ⟨a, b', _⟩ | ⟨A, v, B, _, _, c', d⟩
  · simp only [Instr.lookup, Sem.run_bind, run_underlying ht, Result.andThen_ok, MapKept.run_getObj_map h1, Sem.run_pure, run_checkKey hk hkey, run_findKey hk a, hz, b']
    cases c <;> rfl
  · simp only [Instr.lookup, Sem.run_bind, run_underlying ht, Result.andThen_ok, MapKept.run_getObj_map h1, Sem.run_pure, run_checkKey hk hkey, run_findKey hk c', d]
    cases c <;> rfl
/-- 'm[i] = v'. -/
theorem Mp.put {w : World} {b : Nat} {f : Int → Option Value} (h : Mp w b f) (ht : P.underlying t = some (.map k e)) (hk : P.underlying k = some (.int .i64)) (i : Int) (v : Value) :
    ∃ w', (Instr.mapUpdate t (.map (some b)) (.int .i64 i) v).run P w = .ok () w' ∧ Mp w' b (fput f i v) ∧ But b w w' ∧ w'.heap.size = w.heap.size := by
  obtain ⟨es, clock, m, h1, h2, rfl⟩ := h
  have hkey : IsKey (.int .i64) (.int .i64 i) := by simp [IsKey]
  have hlt := (Array.getElem?_eq_some_iff.1 h1).1
  have hbut : ∀ o, But b w { w with heap := w.heap.setIfInBounds b o } := fun o => ⟨rfl, rfl, rfl, by simp, fun j hj hne => (heap_set h1).2 j hne⟩
  rcases mp_find i es.toList m 0 h2 with ⟨a, _, c'⟩ | ⟨A, u, B, hm, hA, c', d⟩
  · refine ⟨{ w with heap := w.heap.setIfInBounds b (.map (es.push { key := .int .i64 i, val := v, born := clock }) (clock + 1)) }, ?_, ⟨_, _, m ++ [(i, v)], (heap_set h1).1, ?_, ?_⟩, hbut _, by simp⟩
    · simp only [Instr.mapUpdate, Sem.run_bind, run_underlying ht, Result.andThen_ok, MapKept.run_getObj_map h1, run_checkKey hk hkey, run_findKey hk a, MapKept.run_setObj_map _ h1]
    · simp [h2]
    · funext j
      exact (mget_app_no m i j v c').symm
  · have hl := congrArg List.length h2
    have hlen : A.length < es.size := by
      simp only [List.length_map, Array.length_toList] at hl
      rw [hl, hm]
      simp
    have hj : es[A.length]? = some es[A.length] := by simp [hlen]
    have hkv : es[A.length].key = .int .i64 i := by
      have := congrArg (fun l : List (Value × Value) => l[A.length]?) h2
      simp only [List.getElem?_map, hm] at this
      simp [hlen] at this
      exact this.1
    have hst : (Instr.keyThatStays (.int .i64 i) (.int .i64 i)).run P w = .ok (.int .i64 i) w := by simp [Instr.keyThatStays, Instr.sameBits]
    refine ⟨{ w with heap := w.heap.setIfInBounds b (.map (es.modify A.length fun e => { e with key := .int .i64 i, val := v }) clock) }, ?_, ⟨_, _, A ++ (i, v) :: B, (heap_set h1).1, ?_, ?_⟩, hbut _, by simp⟩
    · have c2 : Instr.findNow (.int .i64) (.int .i64 i) es.toList 0 = some (some (A.length, u)) := by rw [c', Nat.zero_add]
      simp only [Instr.mapUpdate, Sem.run_bind, run_underlying ht, Result.andThen_ok, MapKept.run_getObj_map h1, run_checkKey hk hkey, run_findKey hk c2, hj, Option.map_some, Option.getD_some, hkv, hst, MapKept.run_setObj_map _ h1]
    · have e1 : (es.modify A.length fun e => { e with key := .int .i64 i, val := v }).toList = es.toList.modify A.length (fun e => { e with key := .int .i64 i, val := v }) := by simp
      rw [e1]
      apply List.ext_getElem?
      intro q
      have hq := congrArg (fun l : List (Value × Value) => l[q]?) h2
      simp only [List.getElem?_map, hm] at hq
      simp only [List.getElem?_map, List.getElem?_modify]
      by_cases hqa : A.length = q
      · subst hqa
        simp [hlen]
      · simp only [hqa, if_false]
        rw [show ((fun a : MapEntry => a) <$> es.toList[q]?) = es.toList[q]? from by cases es.toList[q]? <;> rfl, hq]
        congr 1
        rw [List.getElem?_append, List.getElem?_append]
        split
        · rfl
        · have : ∃ r, q - A.length = r + 1 := ⟨q - A.length - 1, by omega⟩
          obtain ⟨r, hr⟩ := this
          rw [hr]
          simp
    · funext j
      rw [hm]
      exact (mget_mid A B i j u v hA).symm
end
end Go.Proofs.YtmocfbglmahhjabGreatDoor
