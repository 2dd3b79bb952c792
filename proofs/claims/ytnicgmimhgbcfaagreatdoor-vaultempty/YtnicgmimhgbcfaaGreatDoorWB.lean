/-
  slices.Sort and slices.Compact over ints of the call's own, as the library's contracts have them; what a sorted row without repeats is.
-/
import Derived.Test.YtnicgmimhgbcfaaGreatDoorWA
import Derived.Ground.NamesProg
import Derived.Ground.Names2Prog
import Derived.Shelf.Lay
import Derived.Shelf.Sort.Plain
import Derived.Shelf.Slices.CompactI
import Derived.Sort.OwnSortedInts
import Derived.Lib.OwnBridge
namespace Go.Proofs.YtnicgmimhgbcfaaGreatDoor
set_option linter.unusedVariables false
set_option maxRecDepth 100000
open Go.RowKit Go.Shelf Go.Sort Plain Go.Proofs.YtnicgmimhgbcfaaGreatDoor.Shap.Plain
shelf_lay Lays.n189 Nm 189 at Tryz as laysSort
shelf_lay Lays2.n20 Nm2 20 at Tryz as laysCompact
theorem renSort : laysSort_ren.f 189 = 89 := by kernel_rfl
theorem renCompact : laysCompact_ren.f 20 = 90 := by kernel_rfl
def srt (zs : List Int) : List Int := zs.mergeSort fun x y => decide (x ≤ y)
theorem sort_v (w : World) (base : Nat) (v : Value) (n : Nat) (zs : List Int) (h : w.ownsRow base 3 1 v n (zs.map (Value.int .i64))) (hv : v ≠ .slice none 0 0) (hn : n < 4611686018427387904) :
    Calls Tryz.prog 89 #[v] w fun e w' => e = .returned (.tuple #[]) ∧ w'.ownsRow base 3 1 v n ((srt zs).map (Value.int .i64)) ∧ w.grownBy w' v.ownBlock := by
  obtain ⟨g, cap, rfl, hbg, hlt, hnc, hcm, hl, hH⟩ := Lib.holds_of_ownsRow h hv
  subst hl
  have hc := Any.slices_Sort_int laysSort g 0 cap zs w hH hlt hn
  rw [renSort] at hc
  refine hc.mono ?_
  rintro e w' ⟨rfl, m, os, rfl⟩
  rcases h.2 with ⟨e0, _⟩ | ⟨g', cap', cur, e0, hb, hg, h1, h2, h3, h4⟩
  · cases e0
  · injection e0 with e1 _ e3
    injection e1 with e1
    injection e1 with e1
    subst e1
    subst e3
    exact ⟨rfl, ownsRow_sortedI (ss := zs) (ts := srt zs) (List.length_mergeSort zs) hb hg h1 h2 h3, grownBy_sortedI _⟩
theorem compact_v (w : World) (base : Nat) (v : Value) (n : Nat) (zs : List Int) (h : w.ownsRow base 3 1 v n (zs.map (Value.int .i64))) (hv : v ≠ .slice none 0 0) :
    Calls Tryz.prog 90 #[v] w fun e w' => ∃ g cap, v = .slice (some ⟨g, 0, none⟩) n cap ∧ e = .returned (.slice (some ⟨g, 0, none⟩) (Lib.compact zs).length cap) ∧ w'.ownsRow base 3 1 (.slice (some ⟨g, 0, none⟩) (Lib.compact zs).length cap) (Lib.compact zs).length ((Lib.compact zs).map (Value.int .i64)) ∧ w.grownBy w' v.ownBlock := by
  obtain ⟨g, cap, rfl, hbg, hlt, hnc, hcm, hl, hH⟩ := Lib.holds_of_ownsRow h hv
  subst hl
  unfold maxLen at hcm
  have hc := Any.slices_Compact_int laysCompact g 0 cap zs w hH (by omega) hnc
  rw [renCompact] at hc
  refine hc.mono ?_
  rintro e w' ⟨rfl, q, rfl⟩
  have hle := Lib.compact_length_le zs
  have ho := Lib.ownsRow_putRow (q := q) (k := (Lib.compact zs).length) (ys := Lib.compact zs ++ List.replicate (zs.length - (Lib.compact zs).length) 0) h (by simp; omega) hle
  rw [List.take_left] at ho
  refine ⟨g, cap, rfl, rfl, ho, ?_⟩
  refine ⟨rfl, rfl, rfl, by simp [putRow, mapBlock, Sort.ahead], fun k hk hne => ?_⟩
  have : g ≠ k := fun e => hne (by rw [e]; rfl)
  simp [putRow, mapBlock, Sort.ahead, Array.getElem?_modify, this]
/-- Rising rows with the same members are the same. -/
theorem rise_eq : ∀ (A B : List Int), A.Pairwise (· < ·) → B.Pairwise (· < ·) → (∀ x, x ∈ A ↔ x ∈ B) → A = B
  | [], [], _, _, _ => rfl
  | [], b :: B, _, _, h => by have := (h b).2 List.mem_cons_self; cases this
  | a :: A, [], _, _, h => by have := (h a).1 List.mem_cons_self; cases this
  | a :: A, b :: B, hA, hB, h => by
    obtain ⟨a1, a2⟩ := List.pairwise_cons.1 hA
    obtain ⟨b1, b2⟩ := List.pairwise_cons.1 hB
    have e : a = b := by
      rcases List.mem_cons.1 ((h a).1 List.mem_cons_self) with e | e
      · exact e
      · rcases List.mem_cons.1 ((h b).2 List.mem_cons_self) with e2 | e2
        · exact e2.symm
        · have h1 := b1 a e
          have h2 := a1 b e2
          omega
    subst e
    congr 1
    refine rise_eq A B a2 b2 (fun x => ⟨fun hx => ?_, fun hx => ?_⟩)
    · rcases List.mem_cons.1 ((h x).1 (List.mem_cons_of_mem _ hx)) with e | e
      · have := a1 x hx; omega
      · exact e
    · rcases List.mem_cons.1 ((h x).2 (List.mem_cons_of_mem _ hx)) with e | e
      · have := b1 x hx; omega
      · exact e
theorem srt_pair (zs : List Int) : (srt zs).Pairwise (· ≤ ·) := by
  have := List.pairwise_mergeSort (le := fun x y : Int => decide (x ≤ y)) (by intro a b c; simp; omega) (by intro a b; simp; omega) zs
  exact this.imp (fun h => by simpa using h)
theorem srt_get (zs : List Int) (i j : Nat) (hij : i ≤ j) (hj : j < (srt zs).length) : (srt zs)[i]'(by omega) ≤ (srt zs)[j] := by
  rcases Nat.lt_or_ge i j with h | h
  · exact List.pairwise_iff_getElem.1 (srt_pair zs) i j (by omega) hj h
  · have : i = j := by omega
    subst this
    exact Int.le_refl _
theorem compact_mem (zs : List Int) (x : Int) : x ∈ Lib.compact (srt zs) ↔ x ∈ zs := by
  have hp : ∀ x, x ∈ srt zs ↔ x ∈ zs := fun x => (List.mergeSort_perm zs _).mem_iff
  rw [← hp]
  unfold Lib.compact Lib.compactUpTo
  constructor
  · intro h
    obtain ⟨i, hi, rfl⟩ := List.mem_map.1 h
    have hi' : i < (srt zs).length := List.mem_range.1 (List.mem_filter.1 hi).1
    simp [getElem!_pos, hi']
  · intro h
    obtain ⟨i, hi, e⟩ := List.getElem_of_mem h
    -- the least place that holds x
    have hex : ∃ j, j ≤ i ∧ ∃ hj : j < (srt zs).length, (srt zs)[j] = x ∧ ∀ k, k < j → ∀ hk : k < (srt zs).length, (srt zs)[k] ≠ x := by
      clear h
      induction i using Nat.strongRecOn with
      | _ i ih =>
        by_cases hk : ∃ k, ∃ hk : k < (srt zs).length, k < i ∧ (srt zs)[k] = x
        · obtain ⟨k, hk1, hk2, hk3⟩ := hk
          obtain ⟨j, h1, h2⟩ := ih k hk2 hk1 hk3
          exact ⟨j, by omega, h2⟩
        · exact ⟨i, Nat.le_refl _, hi, e, fun k hk1 hk2 he => hk ⟨k, hk2, hk1, he⟩⟩
    obtain ⟨j, _, hj, hjx, hmin⟩ := hex
    refine List.mem_map.2 ⟨j, List.mem_filter.2 ⟨List.mem_range.2 hj, ?_⟩, by simp [getElem!_pos, hj, hjx]⟩
    unfold Lib.keeps
    simp only [decide_eq_true_eq]
    by_cases h0 : j = 0
    · exact .inl h0
    · refine .inr ?_
      have h1 := hmin (j - 1) (by omega) (by omega)
      have hj1 : j - 1 < (srt zs).length := by omega
      rw [getElem!_pos _ j (by simpa using hj), getElem!_pos _ (j - 1) (by simpa using hj1)]
      simp only [List.getElem_toArray]
      rw [hjx]
      exact fun e => h1 e.symm
theorem compact_rise (zs : List Int) : (Lib.compact (srt zs)).Pairwise (· < ·) := by
  unfold Lib.compact Lib.compactUpTo
  rw [List.pairwise_map]
  have hr : ((List.range (srt zs).length).filter (Lib.keeps (srt zs).toArray)).Pairwise (· < ·) := List.pairwise_lt_range.filter _
  refine hr.imp_of_mem (fun {i j} hi hj hij => ?_)
  obtain ⟨hi1, _⟩ := List.mem_filter.1 hi
  obtain ⟨hj1, hj2⟩ := List.mem_filter.1 hj
  have hi' := List.mem_range.1 hi1
  have hj' := List.mem_range.1 hj1
  unfold Lib.keeps at hj2
  simp only [decide_eq_true_eq] at hj2
  have hjj : j - 1 < (srt zs).length := by omega
  rcases hj2 with h | h
  · omega
  · rw [getElem!_pos _ j (by simpa using hj'), getElem!_pos _ (j - 1) (by simpa using hjj)] at h
    rw [getElem!_pos _ i (by simpa using hi'), getElem!_pos _ j (by simpa using hj')]
    simp only [List.getElem_toArray] at h ⊢
    have h1 := srt_get zs i (j - 1) (by omega) hjj
    have h2 := srt_get zs (j - 1) j (by omega) hj'
    omega
end Go.Proofs.YtnicgmimhgbcfaaGreatDoor
