/-
  The walk of LayoutApart.
-/
import Derived.Test.YtniminalkjhfbaaLF
namespace Go.Proofs.Ytniminalkjhfbaa
set_option linter.unusedVariables false
open Go.RowKit Plain

theorem u16_wf {x : Int} (h : (Lit.int .u16 x).wf = true) : 0 ≤ x ∧ x ≤ 65535 := bounds_u16 h

set_option maxRecDepth 20000 in
set_option maxHeartbeats 4000000 in
theorem apart_no (bl il a c b i t d e : Int) (w : World) (hbl : 0 ≤ bl ∧ bl ≤ 65535) (hil : 0 ≤ il ∧ il ≤ 65535) (h1 : Box (e = 1))
    (CN : Box (∀ x, Calls Try.prog 9 #[.int .i64 bl, .int .i64 il] x fun r w' => r = .returned (.tuple #[.agg (lc b i t d), .int .i64 e]) ∧ Below x.heap.size x w')) :
    Calls Try.prog 5 #[.int .u16 bl, .int .u16 il, .int .u16 a, .int .u16 c] w fun e w' => e = .returned (.bool true) ∧ Below w.heap.size w w' := by
  have CA : Box (∀ x, Calls Try.prog 8 #[] x fun e w' => e = .returned (.bool true) ∧ Below x.heap.size x w') := ⟨awake_any⟩
  go_enter Try.func5, Try.ntmps5
  go_upto_region 5 with (first
    | (refine wpList_newL w2 b i t d rfl _ _ rfl rfl rfl rfl ?_; intro z2 hz hb3; have H2 : Box (Lay z2 w2.heap.size b i t d ∧ Below w.heap.size w z2) := ⟨hz, below_to (below_to H1.out hb2) hb3⟩; clear hz hb3 hb2)
    | (go_at_call 9; refine Calls.mono (CN.out w1) ?_; rintro e0 w2 ⟨rfl, hb2⟩)
    | (go_at_call 8; refine Calls.mono (CA.out w) ?_; rintro e0 w1 ⟨rfl, hb1⟩; have H1 : Box (Below w.heap.size w w1) := ⟨hb1⟩; clear hb1))
  generalize w2.heap.size = S at H2 ⊢
  clear CA CN H1
  have g1 : (e != 0) = true := by simp [h1.out]
  go_wp2
  go_ret
  exact ⟨rfl, H2.out.2⟩

set_option maxRecDepth 20000 in
set_option maxHeartbeats 4000000 in
theorem apart_same (bl il a c b i t d e im xa ya x p q : Int) (w : World) (hbl : 0 ≤ bl ∧ bl ≤ 65535) (hil : 0 ≤ il ∧ il ≤ 65535) (ha : 0 ≤ a ∧ a ≤ 65535) (hc : 0 ≤ c ∧ c ≤ 65535) (h1 : Box (e = 0)) (hi : 2 ≤ i ∧ i ≤ 500)
    (hm : i - 1 = im) (zm : (im == 0) = false) (ta : a.tmod im = xa) (tc : c.tmod im = ya) (hx : 1 + xa = x) (hy : 1 + ya = x) (bx : 0 ≤ xa ∧ xa ≤ 500) (bY : 0 ≤ ya ∧ ya ≤ 500)
    (hp : t ≤ p) (hpd : p < d) (hq : 0 ≤ q) (hq2 : q + 32 ≤ 160) (tq : q.tmod 32 = 0) (hdb : d < b) 
    (CN : Box (∀ x, Calls Try.prog 9 #[.int .i64 bl, .int .i64 il] x fun r w' => r = .returned (.tuple #[.agg (lc b i t d), .int .i64 e]) ∧ Below x.heap.size x w'))
    (C1 : Box (∀ z, Calls Try.prog 12 #[.agg (lc b i t d), .int .i64 x] z fun rr w' => rr = .returned (.tuple #[.int .i64 p, .int .i64 q, .int .i64 0]) ∧ Below z.heap.size z w'))
    (C2 : Box (∀ z, Calls Try.prog 12 #[.agg (lc b i t d), .int .i64 x] z fun rr w' => rr = .returned (.tuple #[.int .i64 p, .int .i64 q, .int .i64 0]) ∧ Below z.heap.size z w'))
    (C3 : Box (∀ z, Calls Try.prog 12 #[.agg (lc b i t d), .int .i64 0] z fun rr w' => rr = .returned (.tuple #[.int .i64 0, .int .i64 0, .int .i64 12]) ∧ Below z.heap.size z w')) :
    Calls Try.prog 5 #[.int .u16 bl, .int .u16 il, .int .u16 a, .int .u16 c] w fun e w' => e = .returned (.bool true) ∧ Below w.heap.size w w' := by
  have CA : Box (∀ x, Calls Try.prog 8 #[] x fun e w' => e = .returned (.bool true) ∧ Below x.heap.size x w') := ⟨awake_any⟩
  go_enter Try.func5, Try.ntmps5
  go_upto_region 5 with (first
    | (refine wpList_newL w2 b i t d rfl _ _ rfl rfl rfl rfl ?_; intro z2 hz hb3; have H2 : Box (Lay z2 w2.heap.size b i t d ∧ Below w.heap.size w z2) := ⟨hz, below_to (below_to H1.out hb2) hb3⟩; clear hz hb3 hb2)
    | (go_at_call 9; refine Calls.mono (CN.out w1) ?_; rintro e0 w2 ⟨rfl, hb2⟩)
    | (go_at_call 8; refine Calls.mono (CA.out w) ?_; rintro e0 w1 ⟨rfl, hb1⟩; have H1 : Box (Below w.heap.size w w1) := ⟨hb1⟩; clear hb1))
  generalize w2.heap.size = S at H2 ⊢
  clear CA CN H1
  have g1 : (e != 0) = false := by simp [h1.out]
  obtain ⟨k0, k1, k2, k3⟩ := H2.out.1.cells
  go_upto_region 9 with fail
  clear k0 k1 k2 k3 g1 ta tc hx hy hm zm h1 bx bY
  go_upto_region 10 with (first
    | (refine wpList_ldL rfl _ rfl S b i t d rfl H2.out.1 ?_)
    | (go_at_call 12; refine Calls.mono (C1.out z2) ?_; rintro e0 w3 ⟨rfl, hb⟩; have H3 : Box (Lay w3 S b i t d ∧ Below w.heap.size w w3) := ⟨H2.out.1.below hb, below_to H2.out.2 hb⟩; clear hb))
  clear H2 C1
  go_upto_region 11 with (first
    | (refine wpList_ldL rfl _ rfl S b i t d rfl H3.out.1 ?_)
    | (go_at_call 12; refine Calls.mono (C2.out w3) ?_; rintro e0 w4 ⟨rfl, hb⟩; have H4 : Box (Lay w4 S b i t d ∧ Below w.heap.size w w4) := ⟨H3.out.1.below hb, below_to H3.out.2 hb⟩; clear hb))
  clear H3 C2
  go_upto_region 12 with (first
    | (refine wpList_ldL rfl _ rfl S b i t d rfl H4.out.1 ?_)
    | (go_at_call 12; refine Calls.mono (C3.out w4) ?_; rintro e0 w5 ⟨rfl, hb⟩; have H5 : Box (Lay w5 S b i t d ∧ Below w.heap.size w w5) := ⟨H4.out.1.below hb, below_to H4.out.2 hb⟩; clear hb))
  clear H4 C3
  obtain ⟨k0, k1, k2, k3⟩ := H5.out.1.cells
  go_wp2
  go_ret
  exact ⟨rfl, H5.out.2⟩

set_option maxRecDepth 20000 in
set_option maxHeartbeats 4000000 in
theorem apart_block (bl il a c b i t d e im xa ya x y p q r s : Int) (w : World) (hbl : 0 ≤ bl ∧ bl ≤ 65535) (hil : 0 ≤ il ∧ il ≤ 65535) (ha : 0 ≤ a ∧ a ≤ 65535) (hc : 0 ≤ c ∧ c ≤ 65535) (h1 : Box (e = 0)) (hi : 2 ≤ i ∧ i ≤ 500)
    (hm : i - 1 = im) (zm : (im == 0) = false) (ta : a.tmod im = xa) (tc : c.tmod im = ya) (hx : 1 + xa = x) (hy : 1 + ya = y) (bx : 0 ≤ xa ∧ xa ≤ 500) (bY : 0 ≤ ya ∧ ya ≤ 500)
    (hp : t ≤ p) (hpd : p < d) (hq : 0 ≤ q) (hq2 : q + 32 ≤ 160) (tq : q.tmod 32 = 0) (hdb : d < b) (hpr : (p == r) = false) (hxy : (x == y) = false)
    (CN : Box (∀ x, Calls Try.prog 9 #[.int .i64 bl, .int .i64 il] x fun r w' => r = .returned (.tuple #[.agg (lc b i t d), .int .i64 e]) ∧ Below x.heap.size x w'))
    (C1 : Box (∀ z, Calls Try.prog 12 #[.agg (lc b i t d), .int .i64 x] z fun rr w' => rr = .returned (.tuple #[.int .i64 p, .int .i64 q, .int .i64 0]) ∧ Below z.heap.size z w'))
    (C2 : Box (∀ z, Calls Try.prog 12 #[.agg (lc b i t d), .int .i64 y] z fun rr w' => rr = .returned (.tuple #[.int .i64 r, .int .i64 s, .int .i64 0]) ∧ Below z.heap.size z w'))
    (C3 : Box (∀ z, Calls Try.prog 12 #[.agg (lc b i t d), .int .i64 0] z fun rr w' => rr = .returned (.tuple #[.int .i64 0, .int .i64 0, .int .i64 12]) ∧ Below z.heap.size z w')) :
    Calls Try.prog 5 #[.int .u16 bl, .int .u16 il, .int .u16 a, .int .u16 c] w fun e w' => e = .returned (.bool true) ∧ Below w.heap.size w w' := by
  have CA : Box (∀ x, Calls Try.prog 8 #[] x fun e w' => e = .returned (.bool true) ∧ Below x.heap.size x w') := ⟨awake_any⟩
  go_enter Try.func5, Try.ntmps5
  go_upto_region 5 with (first
    | (refine wpList_newL w2 b i t d rfl _ _ rfl rfl rfl rfl ?_; intro z2 hz hb3; have H2 : Box (Lay z2 w2.heap.size b i t d ∧ Below w.heap.size w z2) := ⟨hz, below_to (below_to H1.out hb2) hb3⟩; clear hz hb3 hb2)
    | (go_at_call 9; refine Calls.mono (CN.out w1) ?_; rintro e0 w2 ⟨rfl, hb2⟩)
    | (go_at_call 8; refine Calls.mono (CA.out w) ?_; rintro e0 w1 ⟨rfl, hb1⟩; have H1 : Box (Below w.heap.size w w1) := ⟨hb1⟩; clear hb1))
  generalize w2.heap.size = S at H2 ⊢
  clear CA CN H1
  have g1 : (e != 0) = false := by simp [h1.out]
  obtain ⟨k0, k1, k2, k3⟩ := H2.out.1.cells
  go_upto_region 9 with fail
  clear k0 k1 k2 k3 g1 ta tc hx hy hm zm h1 bx bY
  go_upto_region 10 with (first
    | (refine wpList_ldL rfl _ rfl S b i t d rfl H2.out.1 ?_)
    | (go_at_call 12; refine Calls.mono (C1.out z2) ?_; rintro e0 w3 ⟨rfl, hb⟩; have H3 : Box (Lay w3 S b i t d ∧ Below w.heap.size w w3) := ⟨H2.out.1.below hb, below_to H2.out.2 hb⟩; clear hb))
  clear H2 C1
  go_upto_region 11 with (first
    | (refine wpList_ldL rfl _ rfl S b i t d rfl H3.out.1 ?_)
    | (go_at_call 12; refine Calls.mono (C2.out w3) ?_; rintro e0 w4 ⟨rfl, hb⟩; have H4 : Box (Lay w4 S b i t d ∧ Below w.heap.size w w4) := ⟨H3.out.1.below hb, below_to H3.out.2 hb⟩; clear hb))
  clear H3 C2
  go_upto_region 12 with (first
    | (refine wpList_ldL rfl _ rfl S b i t d rfl H4.out.1 ?_)
    | (go_at_call 12; refine Calls.mono (C3.out w4) ?_; rintro e0 w5 ⟨rfl, hb⟩; have H5 : Box (Lay w5 S b i t d ∧ Below w.heap.size w w5) := ⟨H4.out.1.below hb, below_to H4.out.2 hb⟩; clear hb))
  clear H4 C3
  obtain ⟨k0, k1, k2, k3⟩ := H5.out.1.cells
  go_wp2
  go_ret
  exact ⟨rfl, H5.out.2⟩

set_option maxRecDepth 20000 in
set_option maxHeartbeats 4000000 in
theorem apart_place (bl il a c b i t d e im xa ya x y p q s : Int) (w : World) (hbl : 0 ≤ bl ∧ bl ≤ 65535) (hil : 0 ≤ il ∧ il ≤ 65535) (ha : 0 ≤ a ∧ a ≤ 65535) (hc : 0 ≤ c ∧ c ≤ 65535) (h1 : Box (e = 0)) (hi : 2 ≤ i ∧ i ≤ 500)
    (hm : i - 1 = im) (zm : (im == 0) = false) (ta : a.tmod im = xa) (tc : c.tmod im = ya) (hx : 1 + xa = x) (hy : 1 + ya = y) (bx : 0 ≤ xa ∧ xa ≤ 500) (bY : 0 ≤ ya ∧ ya ≤ 500)
    (hp : t ≤ p) (hpd : p < d) (hq : 0 ≤ q) (hq2 : q + 32 ≤ 160) (tq : q.tmod 32 = 0) (hdb : d < b) (hqs : (q == s) = false) (hxy : (x == y) = false)
    (CN : Box (∀ x, Calls Try.prog 9 #[.int .i64 bl, .int .i64 il] x fun r w' => r = .returned (.tuple #[.agg (lc b i t d), .int .i64 e]) ∧ Below x.heap.size x w'))
    (C1 : Box (∀ z, Calls Try.prog 12 #[.agg (lc b i t d), .int .i64 x] z fun rr w' => rr = .returned (.tuple #[.int .i64 p, .int .i64 q, .int .i64 0]) ∧ Below z.heap.size z w'))
    (C2 : Box (∀ z, Calls Try.prog 12 #[.agg (lc b i t d), .int .i64 y] z fun rr w' => rr = .returned (.tuple #[.int .i64 p, .int .i64 s, .int .i64 0]) ∧ Below z.heap.size z w'))
    (C3 : Box (∀ z, Calls Try.prog 12 #[.agg (lc b i t d), .int .i64 0] z fun rr w' => rr = .returned (.tuple #[.int .i64 0, .int .i64 0, .int .i64 12]) ∧ Below z.heap.size z w')) :
    Calls Try.prog 5 #[.int .u16 bl, .int .u16 il, .int .u16 a, .int .u16 c] w fun e w' => e = .returned (.bool true) ∧ Below w.heap.size w w' := by
  have CA : Box (∀ x, Calls Try.prog 8 #[] x fun e w' => e = .returned (.bool true) ∧ Below x.heap.size x w') := ⟨awake_any⟩
  go_enter Try.func5, Try.ntmps5
  go_upto_region 5 with (first
    | (refine wpList_newL w2 b i t d rfl _ _ rfl rfl rfl rfl ?_; intro z2 hz hb3; have H2 : Box (Lay z2 w2.heap.size b i t d ∧ Below w.heap.size w z2) := ⟨hz, below_to (below_to H1.out hb2) hb3⟩; clear hz hb3 hb2)
    | (go_at_call 9; refine Calls.mono (CN.out w1) ?_; rintro e0 w2 ⟨rfl, hb2⟩)
    | (go_at_call 8; refine Calls.mono (CA.out w) ?_; rintro e0 w1 ⟨rfl, hb1⟩; have H1 : Box (Below w.heap.size w w1) := ⟨hb1⟩; clear hb1))
  generalize w2.heap.size = S at H2 ⊢
  clear CA CN H1
  have g1 : (e != 0) = false := by simp [h1.out]
  obtain ⟨k0, k1, k2, k3⟩ := H2.out.1.cells
  go_upto_region 9 with fail
  clear k0 k1 k2 k3 g1 ta tc hx hy hm zm h1 bx bY
  go_upto_region 10 with (first
    | (refine wpList_ldL rfl _ rfl S b i t d rfl H2.out.1 ?_)
    | (go_at_call 12; refine Calls.mono (C1.out z2) ?_; rintro e0 w3 ⟨rfl, hb⟩; have H3 : Box (Lay w3 S b i t d ∧ Below w.heap.size w w3) := ⟨H2.out.1.below hb, below_to H2.out.2 hb⟩; clear hb))
  clear H2 C1
  go_upto_region 11 with (first
    | (refine wpList_ldL rfl _ rfl S b i t d rfl H3.out.1 ?_)
    | (go_at_call 12; refine Calls.mono (C2.out w3) ?_; rintro e0 w4 ⟨rfl, hb⟩; have H4 : Box (Lay w4 S b i t d ∧ Below w.heap.size w w4) := ⟨H3.out.1.below hb, below_to H3.out.2 hb⟩; clear hb))
  clear H3 C2
  go_upto_region 12 with (first
    | (refine wpList_ldL rfl _ rfl S b i t d rfl H4.out.1 ?_)
    | (go_at_call 12; refine Calls.mono (C3.out w4) ?_; rintro e0 w5 ⟨rfl, hb⟩; have H5 : Box (Lay w5 S b i t d ∧ Below w.heap.size w w5) := ⟨H4.out.1.below hb, below_to H4.out.2 hb⟩; clear hb))
  clear H4 C3
  obtain ⟨k0, k1, k2, k3⟩ := H5.out.1.cells
  go_wp2
  go_ret
  exact ⟨rfl, H5.out.2⟩

theorem layoutApart_walk (bl il a c : Int) (w : World) (h1 : (Lit.int .u16 bl).wf = true) (h2 : (Lit.int .u16 il).wf = true) (h3 : (Lit.int .u16 a).wf = true) (h4 : (Lit.int .u16 c).wf = true) :
    Calls Try.prog 5 #[.int .u16 bl, .int .u16 il, .int .u16 a, .int .u16 c] w fun e w' => e = .returned (.bool true) ∧ Below w.heap.size w w' := by
  have b1 := u16_wf h1
  have b2 := u16_wf h2
  have b3 := u16_wf h3
  have b4 := u16_wf h4
  by_cases h : okL bl il
  · have h' := h
    unfold okL at h'
    have CN : Box (∀ x, Calls Try.prog 9 #[.int .i64 bl, .int .i64 il] x fun r w' => r = .returned (.tuple #[.agg (lc bl il 3 (3 + (il + 4) / 5)), .int .i64 0]) ∧ Below x.heap.size x w') := ⟨fun z => by have := new_any bl il z; rwa [newV_ok h] at this⟩
    have e1 : a.tmod (il - 1) = a % (il - 1) := Int.tmod_eq_emod_of_nonneg (by omega)
    have e2 : c.tmod (il - 1) = c % (il - 1) := Int.tmod_eq_emod_of_nonneg (by omega)
    have m1 := Int.emod_nonneg a (show il - 1 ≠ 0 by omega)
    have m2 := Int.emod_nonneg c (show il - 1 ≠ 0 by omega)
    have m3 := Int.emod_lt_of_pos a (show 0 < il - 1 by omega)
    have m4 := Int.emod_lt_of_pos c (show 0 < il - 1 by omega)
    have zm : (il - 1 == 0) = false := by simp; omega
    generalize a % (il - 1) = xa at e1 m1 m3
    generalize c % (il - 1) = ya at e2 m2 m4
    have key : ∀ n, 1 ≤ n → n < il → Box (∀ z, Calls Try.prog 12 #[.agg (lc bl il 3 (3 + (il + 4) / 5)), .int .i64 n] z fun rr w' => rr = .returned (.tuple #[.int .i64 (3 + n / 5), .int .i64 (n % 5 * 32), .int .i64 0]) ∧ Below z.heap.size z w') := fun n n1 n2 => ⟨fun z => by have := inode_any bl il (3 + (il + 4) / 5) n z (by omega); rwa [inoV_ok n1 n2] at this⟩
    have C3 : Box (∀ z, Calls Try.prog 12 #[.agg (lc bl il 3 (3 + (il + 4) / 5)), .int .i64 0] z fun rr w' => rr = .returned (.tuple #[.int .i64 0, .int .i64 0, .int .i64 12]) ∧ Below z.heap.size z w') := ⟨fun z => by have := inode_any bl il (3 + (il + 4) / 5) 0 z (by omega); rwa [inoV_no (.inl (by omega))] at this⟩
    have C1 := key (1 + xa) (by omega) (by omega)
    have C2 := key (1 + ya) (by omega) (by omega)
    have t1 : ((1 + xa) % 5 * 32).tmod 32 = 0 := by rw [Int.tmod_eq_emod_of_nonneg (by omega)]; omega
    by_cases hxy : xa = ya
    · subst hxy
      exact apart_same bl il a c bl il 3 _ 0 _ xa xa _ _ _ w b1 b2 b3 b4 ⟨rfl⟩ (by omega) rfl zm e1 e2 rfl rfl (by omega) (by omega) (by omega) (by omega) (by omega) (by omega) t1 (by omega) CN C1 C2 C3
    · by_cases hpr : 3 + (1 + xa) / 5 = 3 + (1 + ya) / 5
      · have hqs : ((1 + xa) % 5 * 32 == (1 + ya) % 5 * 32) = false := by simp; omega
        rw [← hpr] at C2
        exact apart_place bl il a c bl il 3 _ 0 _ xa ya _ _ _ _ _ w b1 b2 b3 b4 ⟨rfl⟩ (by omega) rfl zm e1 e2 rfl rfl (by omega) (by omega) (by omega) (by omega) (by omega) (by omega) t1 (by omega) hqs (by simp; omega) CN C1 C2 C3
      · exact apart_block bl il a c bl il 3 _ 0 _ xa ya _ _ _ _ _ _ w b1 b2 b3 b4 ⟨rfl⟩ (by omega) rfl zm e1 e2 rfl rfl (by omega) (by omega) (by omega) (by omega) (by omega) (by omega) t1 (by omega) (by simp; omega) (by simp; omega) CN C1 C2 C3
  · refine apart_no bl il a c 0 0 0 0 1 w b1 b2 ⟨rfl⟩ ⟨fun z => ?_⟩
    have := new_any bl il z; rwa [newV_no h] at this
end Go.Proofs.Ytniminalkjhfbaa
