/-
  The walk of InodeKinds: another kind, another length, or anything where noughts must stand, is no inode.
-/
import Derived.Test.YtpdggopkalbbeaaNE
namespace Go.Proofs.Ytpdggopkalbbeaa
set_option linter.unusedVariables false
open Go.RowKit Plain

theorem u8_and3 (n : Int) (h0 : 0 ≤ n) (h1 : n ≤ 255) : bits .and .u8 n 3 = n % 4 := by
  have key : ∀ k : Fin 256, bits .and .u8 (k.val : Int) 3 = (k.val : Int) % 4 := by decide +kernel
  obtain ⟨m, rfl⟩ : ∃ m : Nat, n = m := ⟨n.toNat, by omega⟩
  exact key ⟨m, by omega⟩
/-- The places that the law asks for. -/
def kAt : List Nat := [0, 1, 18, 19, 25, 31]
theorem kAt_lt : ∀ j : Fin 6, kAt.getD j.val 0 < 32 ∧ (kAt.getD j.val 0 = 0 ∨ kAt.getD j.val 0 = 1 ∨ 18 ≤ kAt.getD j.val 0) := by decide +kernel
theorem getD_set (L : List Int) (k i : Nat) (c : Int) (hk : k < L.length) : (L.set k c).getD i 0 = if i = k then c else L.getD i 0 := by
  simp only [List.getD, List.getElem?_set]
  by_cases e : k = i
  · subst e; simp [hk]
  · simp [e, Ne.symm e]
theorem fit_set {N : Nd} (hk : N.k ≤ 3) (k : Nat) (c : Int) (h : k < 32) (hp : k = 0 ∨ k = 1 ∨ 18 ≤ k) : Fit ((nb N).set k c) ↔ (if k = 0 then c ≤ 3 else c = 0) := by
  have hl := length_nb N
  have g := fun i => getD_set (nb N) k i c (by omega)
  have k0 : (nb N).getD 0 0 = N.k := by rw [nb_parts]; rfl
  unfold Fit
  rw [g 0, g 1, nb_one, k0, List.length_set, hl]
  constructor
  · rintro ⟨_, h0, h1, h2⟩
    split
    · rename_i e
      subst e
      simpa using h0
    · rename_i e
      rcases hp with e2 | e2 | e2
      · omega
      · subst e2; simpa using h1
      · have := h2 k e2 h
        rw [g k] at this
        simpa using this
  · intro hh
    by_cases e : k = 0
    · rw [if_pos e] at hh
      subst e
      refine ⟨rfl, by simpa using hh, by simp, fun i h1 h2 => ?_⟩
      rw [g i, if_neg (by omega)]
      exact nb_tail N i h1
    · rw [if_neg e] at hh
      subst hh
      refine ⟨rfl, by rw [if_neg (by omega)]; exact hk, by split <;> rfl, fun i h1 h2 => ?_⟩
      rw [g i]
      split
      · rfl
      · exact nb_tail N i h1

set_option maxRecDepth 20000 in
set_option maxHeartbeats 4000000 in
theorem kinds_core (N : Nd) (at' c cut : Int) (w : World) (hN : OkN N) (ha : 0 ≤ at' ∧ at' ≤ 255) (hc : 0 ≤ c ∧ c ≤ 255) (hu : 0 ≤ cut ∧ cut ≤ 255)
    (x : Int) (hx : N.k % 4 = x) (j m K : Nat) (hj : at' % 6 = j) (hm : cut % 32 = m) (hK : kAt.getD j 0 = K) (hK2 : K < 32 ∧ (K = 0 ∨ K = 1 ∨ 18 ≤ K)) :
    Calls Try.prog 7 #[.agg (nc N), .int .u8 at', .int .u8 c, .int .u8 cut] w fun e w' => e = .returned (.bool true) ∧ Below w.heap.size w w' := by
  obtain ⟨S, hS⟩ : ∃ S, w.heap.size = S := ⟨_, rfl⟩
  have HS : Box (w.heap.size = S) := ⟨hS⟩
  have H1 : Box (Lies (w.alloc (.cells (nc N) 26)) S N ∧ Below S w (w.alloc (.cells (nc N) 26))) := ⟨al_at hS, (Below.refl _ _).alloc (by omega) _⟩
  have HN : Box (OkN N) := ⟨hN⟩
  clear hS hN
  go_enter Try.func7, Try.ntmps7
  go_upto_region 1 with fail
  rw [HS.out]
  change Code.wp _ _ _ _ (w.alloc (.cells (nc N) 26))
  generalize w.alloc (.cells (nc N) 26) = w1 at H1 ⊢
  go_upto_region 4 with (go_at_call 8; refine Calls.mono (awake_any w1) ?_; rintro e w2 ⟨rfl, hb⟩; have H2 : Box (Lies w2 S N ∧ Below S w w2) := ⟨H1.out.1.below hb, H1.out.2.trans (hb.mono (Nat.le_of_lt H1.out.1.lt))⟩; clear hb)
  clear H1
  have c0 : w2.cell? ⟨S, 0, none⟩ = some (.int .u8 N.k) := H2.out.1.cell 0
  have f0 : w2.frozen? ⟨S, 0, none⟩ = false := H2.out.1.froz 0
  have W1 : bits .and .u8 N.k 3 = x := by rw [u8_and3 N.k HN.out.hk.1 HN.out.hk.2]; exact hx
  obtain ⟨M, hM⟩ : ∃ M : Nd, Box (M = { N with k := x } ∧ OkN M ∧ M.k ≤ 3) := ⟨_, ⟨rfl, okN_of (show 0 ≤ x ∧ x ≤ 255 by omega) HN.out.hl HN.out.hz (HN.out.hn 0) (HN.out.hn 1) (HN.out.hn 2) (HN.out.hn 3) (HN.out.hn 4), by show x ≤ 3; omega⟩⟩
  have H3 : Box (Lies (w2.setCell ⟨S, 0, none⟩ (.int .u8 x)) S M ∧ Below S w (w2.setCell ⟨S, 0, none⟩ (.int .u8 x))) := ⟨by unfold Lies; rw [heap_setCell_same w2 S 0 _ _ _ H2.out.1, hM.out.1]; rfl, below_set H2.out.2 (Nat.le_refl _) _⟩
  go_upto_region 5 with fail
  generalize w2.setCell ⟨S, 0, none⟩ (.int .u8 x) = w3 at H3 ⊢
  clear c0 f0 W1 H2 hx
  go_upto_region 6 with (first
    | (refine wpList_run rfl _ _ (exec_ldN _ rfl S M rfl H3.out.1) ?_)
    | (go_at_call 9; refine Calls.mono (nput_any M w3 hM.out.2.1) ?_; rintro e w4 ⟨g, rfl, hO⟩; have H4 : Box (Out w3 w4 (some ⟨g, 0, none⟩) 32 32 (nb M) ∧ Below S w w4 ∧ S < w3.heap.size) := ⟨hO, H3.out.2.trans (hO.2.2.mono (Nat.le_of_lt H3.out.1.lt)), H3.out.1.lt⟩; clear hO))
  clear H3
  have d1 : at'.tmod 6 = (j : Int) := by rw [Int.tmod_eq_emod_of_nonneg (by omega)]; exact hj
  have d2 : cut.tmod 32 = (m : Int) := by rw [Int.tmod_eq_emod_of_nonneg (by omega)]; exact hm
  have V1 : IntKind.i64.wrap at' = at' := by rw [IntKind.wrap_i64]; omega
  have V2 : IntKind.i64.wrap cut = cut := by rw [IntKind.wrap_i64]; omega
  have hj6 : j < 6 := by omega
  have hm32 : m < 32 := by omega
  have ck : ∀ v : World, (v.alloc (.cells #[.int .i64 0, .int .i64 1, .int .i64 18, .int .i64 19, .int .i64 25, .int .i64 31] 3)).cell? ⟨v.heap.size, j, none⟩ = some (.int .i64 (K : Int)) := fun v => by
    rw [cell_of_row _ _ _ _ _ _ (al_at rfl)]
    match j, hj6, hK with
    | 0, _, h => rw [← h]; rfl
    | 1, _, h => rw [← h]; rfl
    | 2, _, h => rw [← h]; rfl
    | 3, _, h => rw [← h]; rfl
    | 4, _, h => rw [← h]; rfl
    | 5, _, h => rw [← h]; rfl
  have ck4 := ck w4
  clear ck hj hm hu ha
  go_upto_region 9 with fail
  have H5 : Box (Out w3 (w4.alloc (.cells #[.int .i64 0, .int .i64 1, .int .i64 18, .int .i64 19, .int .i64 25, .int .i64 31] 3)) (some ⟨g, 0, none⟩) 32 32 (nb M) ∧ Below S w (w4.alloc (.cells #[.int .i64 0, .int .i64 1, .int .i64 18, .int .i64 19, .int .i64 25, .int .i64 31] 3)) ∧ S < w3.heap.size) := ⟨H4.out.1.later (box_below _ _), H4.out.2.1.trans ((box_below _ _).mono (Nat.le_trans (Nat.le_of_lt H4.out.2.2) H4.out.1.2.2.size)), H4.out.2.2⟩
  generalize w4.alloc (.cells #[.int .i64 0, .int .i64 1, .int .i64 18, .int .i64 19, .int .i64 25, .int .i64 31] 3) = w5 at H5 ck4 ⊢
  clear ck4 H4
  obtain ⟨g', cap', cur, eg, hbg, hgr, hcs, _, _, hcc⟩ := own_block H5.out.1.2.1 (by omega)
  simp only [Value.slice.injEq, Option.some.injEq, Addr.mk.injEq, and_true, true_and] at eg
  obtain ⟨rfl, rfl⟩ := eg
  have k5 : w5.cell? ⟨g, K, none⟩ = some (.int .u8 ((nb M).getD K 0)) := by rw [cell_of_row _ _ _ _ _ _ hgr]; exact hcc K hK2.1
  have f5 := frozen_of_row w5 g K cur 5 hgr
  have H6 : Box (Bytes (w5.setCell ⟨g, K, none⟩ (.int .u8 c)) (some ⟨g, 0, none⟩) 32 ((nb M).set K c) ∧ Below S w (w5.setCell ⟨g, K, none⟩ (.int .u8 c))) := ⟨own_set hgr hcs hcc (length_nb M) (byt_nb hM.out.2.1) hc hK2.1, below_set H5.out.2.1 (by have := H5.out.2.2; omega) _⟩
  have hK32 : (K : Int) < 32 := by have := hK2.1; omega
  generalize (nb M).getD K 0 = y5 at k5
  go_upto_region 10 with fail
  generalize w5.setCell ⟨g, K, none⟩ (.int .u8 c) = w6 at H6 ⊢
  clear k5 f5 H5 hbg hgr hcs hcc
  have key : ∃ (P : Nd) (ee : Int), Box (getN ((nb M).set K c) = .tuple #[.agg (nc P), .int .i64 ee]) ∧ Box ((K = 0 ∧ c ≤ 3 ∧ ee = 0) ∨ (K = 0 ∧ 3 < c ∧ ee = 11) ∨ (0 < K ∧ c = 0 ∧ ee = 0) ∨ (0 < K ∧ c ≠ 0 ∧ ee = 11)) := by
    have hf := fit_set (N := M) hM.out.2.2 K c hK2.1 hK2.2
    by_cases e : Fit ((nb M).set K c)
    · refine ⟨_, _, ⟨getN_ok e⟩, ⟨?_⟩⟩
      have := hf.1 e
      split at this <;> omega
    · refine ⟨_, _, ⟨getN_no e⟩, ⟨?_⟩⟩
      have : ¬ (if K = 0 then c ≤ 3 else c = 0) := fun h => e (hf.2 h)
      split at this <;> omega
  obtain ⟨P, ee, hP, HC⟩ := key
  have CG : Box (Calls Try.prog 10 #[.slice (some ⟨g, 0, none⟩) 32 32] w6 fun e w' => e = .returned (.tuple #[.agg (nc P), .int .i64 ee]) ∧ Below w6.heap.size w6 w') := ⟨by have := nget_any (some ⟨g, 0, none⟩) 32 32 _ w6 H6.out.1; rwa [hP.out] at this⟩
  go_upto_region 11 with (first
    | (refine wpList_newN w7 P rfl _ _ rfl rfl rfl rfl ?_; intro w8 hz hb; have H8 : Box (Bytes w8 (some ⟨g, 0, none⟩) 32 ((nb M).set K c) ∧ Below S w w8) := ⟨H7.out.1.below hb, H7.out.2.1.trans (hb.mono H7.out.2.2)⟩; clear hz hb H7)
    | (refine wpList_run rfl _ _ (exec_alloc 26 rfl _ zeroN) ?_)
    | (go_at_call 10; refine Calls.mono CG.out ?_; rintro e w7 ⟨rfl, hb⟩; have H7 : Box (Bytes w7 (some ⟨g, 0, none⟩) 32 ((nb M).set K c) ∧ Below S w w7 ∧ S ≤ w7.heap.size) := ⟨H6.out.1.below hb, H6.out.2.trans (hb.mono (by have := H6.out.2.size; have := HS.out; omega)), by have := H6.out.2.size; have := hb.size; have := HS.out; omega⟩; clear hb H6))
  generalize w7.heap.size = g8
  obtain ⟨a9, e9, b9⟩ := slice_hi (some ⟨g, 0, none⟩) 32 32 m (by omega) (by omega)
  have H9 : Box (Bytes w8 a9 m (((nb M).set K c).take m) ∧ Below S w w8 ∧ S ≤ w8.heap.size) := ⟨b9 _ _ H8.out.1, H8.out.2, by have := H8.out.2.size; have := HS.out; omega⟩
  have CL : Box (Calls Try.prog 10 #[.slice a9 m 32] w8 fun e w' => e = .returned (.tuple #[.agg (nc zn), .int .i64 11]) ∧ Below w8.heap.size w8 w') := ⟨nget_len a9 m 32 _ w8 H9.out.1 (by omega)⟩
  clear b9 CG
  go_upto_region 12 with (first
    | (refine wpList_newN w9 zn rfl _ _ rfl rfl rfl rfl ?_; intro w10 hz hb; have H10 : Box (Below S w w10) := ⟨B9.out.1.trans (hb.mono B9.out.2)⟩; clear hz hb B9)
    | (refine wpList_run rfl _ _ (exec_alloc 26 rfl _ zeroN) ?_)
    | (refine wpList_run rfl _ _ (exec_slice 27 _ none (some _) rfl _ (by go_simp; (try rw [V2]); (try rw [d2]); exact e9 _)) ?_)
    | (go_at_call 10; refine Calls.mono CL.out ?_; rintro e w9 ⟨rfl, hb⟩; have B9 : Box (Below S w w9 ∧ S ≤ w9.heap.size) := ⟨H9.out.2.1.trans (hb.mono H9.out.2.2), Nat.le_trans H9.out.2.2 hb.size⟩; clear hb H9))
  clear CL e9 H8 hP
  rcases HC.out with ⟨h1, h2, rfl⟩ | ⟨h1, h2, rfl⟩ | ⟨h1, h2, rfl⟩ | ⟨h1, h2, rfl⟩
  · have g1 : ((K : Int) == 0) = true := by simp [h1]
    clear HC h1
    go_wp2
    go_ret
    exact ⟨rfl, by rw [HS.out]; exact H10.out⟩
  · have g1 : ((K : Int) == 0) = true := by simp [h1]
    have g2 : ¬ c ≤ 3 := by omega
    have g3 : ¬ 0 < (K : Int) := by omega
    clear HC h1 h2
    go_wp2
    go_ret
    exact ⟨rfl, by rw [HS.out]; exact H10.out⟩
  · have g1 : ((K : Int) == 0) = false := by simp; omega
    have g3 : 0 < (K : Int) := by omega
    have g4 : (c == 0) = true := by simp [h2]
    clear HC h1 h2
    go_wp2
    go_ret
    exact ⟨rfl, by rw [HS.out]; exact H10.out⟩
  · have g1 : ((K : Int) == 0) = false := by simp; omega
    have g3 : 0 < (K : Int) := by omega
    have g4 : (c == 0) = false := by simpa using h2
    clear HC h1 h2
    go_wp2
    go_ret
    exact ⟨rfl, by rw [HS.out]; exact H10.out⟩
theorem inodeKinds_walk (N : Nd) (at' c cut : Int) (w : World) (hN : OkN N) (h1 : (Lit.int .u8 at').wf = true) (h2 : (Lit.int .u8 c).wf = true) (h3 : (Lit.int .u8 cut).wf = true) :
    Calls Try.prog 7 #[.agg (nc N), .int .u8 at', .int .u8 c, .int .u8 cut] w fun e w' => e = .returned (.bool true) ∧ Below w.heap.size w w' := by
  have b1 := bounds_u8 h1
  have b2 := bounds_u8 h2
  have b3 := bounds_u8 h3
  have hj : (at' % 6).toNat < 6 := by omega
  exact kinds_core N at' c cut w hN b1 b2 b3 _ rfl (at' % 6).toNat (cut % 32).toNat _ (by omega) (by omega) rfl (kAt_lt ⟨(at' % 6).toNat, hj⟩)
end Go.Proofs.Ytpdggopkalbbeaa
