/-
  TreeFields, walked.
-/
import Derived.Test.YtlbapcpcabieaaaDoorGE
namespace Go.Proofs.YtlbapcpcabieaaaDoor
set_option linter.unusedVariables false
open Go.RowKit Plain

theorem LiesR.range {w : World} {g : Nat} {r : Rf} (h : LiesR w g r) : w.rangeAt g 0 (rc r) := range_arr h (rc r) (fun j v hv => by rw [Nat.zero_add, ra, List.getElem?_toArray]; exact hv)
theorem nc_put_ref {N : List Rf} (h : OkN N) (k : Nat) (hk : k < N.length) {r : Rf} (hr : OkR r) : splice (nc N) (k * 33) (rc r) = nc (N.set k r) := by
  have hl := len_nc (okN_take h k)
  have h1 := len_rc (h.get k hk)
  have h2 := len_rc hr
  rw [List.length_take, Nat.min_eq_left (Nat.le_of_lt hk)] at hl
  rw [nc_set k hk, nc_split k hk]
  simp only [splice, h2]
  rw [List.take_append_of_le_length (by omega), List.take_of_length_le (by omega), List.drop_append, List.drop_of_length_le (by omega), List.nil_append, show k * 33 + 33 - (nc (N.take k)).length = 33 by omega, List.drop_append, List.drop_of_length_le (by omega), List.nil_append, h1]
  simp
theorem LiesN.putRef {w : World} {g : Nat} {t : TypeId} {N : List Rf} (h : LiesN w g t N) (hN : OkN N) (k : Nat) (hk : k < N.length) {r : Rf} (hr : OkR r) : LiesN (w.setCells g (k * 33) (ra r).toList) g t (N.set k r) := by
  have hl := len_nc hN
  have := setCells_row g t (rc r) (k * 33) (nc N) w h (by rw [len_rc hr, hl]; omega)
  unfold LiesN na
  rw [show (ra r).toList = rc r by simp [ra], this, nc_put_ref hN k hk hr]
theorem and3 (k : Int) (hk : 0 ≤ k ∧ k ≤ 255) : bits .and .u8 k 3 = k % 4 := by
  obtain ⟨K, rfl⟩ := Int.eq_ofNat_of_zero_le hk.1
  have := u8_and_nat K 3 (by omega) (by omega)
  rw [show ((3 : Nat) : Int) = 3 from rfl] at this
  rw [this, show K &&& 3 = K % 2 ^ 2 from Nat.and_two_pow_sub_one_eq_mod K 2]
  omega
set_option maxRecDepth 20000 in
set_option maxHeartbeats 8000000 in
theorem treeFields_walk (N : List Rf) (k : Int) (r : Rf) (w : World) (hT : Dig.Tabs w) (hN : OkN N) (h4 : N.length = 4) (hk : (Lit.int .u8 k).wf = true) (hr : OkR r) :
    Calls Tryd.prog 7 #[.agg (na N), .int .u8 k, .agg (ra r)] w fun e w' => e = .returned (.bool true) ∧ Below w.heap.size w w' := by
  have bk := bounds_u8 hk
  obtain ⟨j, hj⟩ : ∃ j : Nat, k % 4 = (j : Int) := ⟨(k % 4).toNat, by omega⟩
  have hand : bits .and .u8 k 3 = (j : Int) := by rw [and3 k bk, hj]
  have hj4 : j < 4 := by omega
  obtain ⟨S, hS⟩ : ∃ S, w.heap.size = S := ⟨_, rfl⟩
  have HS : Box (w.heap.size = S) := ⟨hS⟩
  have HN : Box (OkN N ∧ N.length = 4 ∧ OkN (N.set j r) ∧ (N.set j r).length = 4 ∧ OkR r) := ⟨hN, h4, okN_set hN j r hr, by rw [List.length_set, h4], hr⟩
  have H1 : Box (Below w.heap.size w ((w.alloc (.cells (na N) 28)).alloc (.cells (ra r) 26)) ∧ LiesN ((w.alloc (.cells (na N) 28)).alloc (.cells (ra r) 26)) S 28 N ∧ LiesR ((w.alloc (.cells (na N) 28)).alloc (.cells (ra r) 26)) (S + 1) r) := ⟨((Below.refl _ _).alloc (Nat.le_refl _) _).alloc (by simp) _, al_old (al_at hS), al_at (by simp [hS])⟩
  have HT : Box (∀ x, Below w.heap.size w x → Dig.Tabs x) := ⟨fun x hx => hT.below hx⟩
  clear hT hN h4 hr hS hk
  go_enter Tryd.func7, Tryd.ntmps7
  go_upto_region 1 with fail
  have hs2 : (w.alloc (.cells (na N) 28)).heap.size = S + 1 := by simp [HS.out]
  (try rw [hs2])
  (try simp only [HS.out])
  generalize (w.alloc (.cells (na N) 28)).alloc (.cells (ra r) 26) = w1 at H1 ⊢
  clear hs2
  go_upto_region 4 with (go_at_call 8; refine Calls.mono (awake_any w1 (HT.out w1 H1.out.1)) ?_; rintro e w2 ⟨rfl, hb⟩; have H2 : Box (Below w.heap.size w w2 ∧ LiesN w2 S 28 N ∧ LiesR w2 (S + 1) r) := ⟨below_to H1.out.1 hb, H1.out.2.1.below hb, H1.out.2.2.below hb⟩; clear hb)
  clear H1 HT
  go_upto_region 5 with fail
  clear hand hj bk
  have HQ2 : Box ((na N).size = 132 ∧ (na zn).size = 132 ∧ (ra r).size = 33 ∧ (rc r).length = 33) := ⟨size_na HN.out.1 HN.out.2.1, size_na okN_zn rfl, size_ra HN.out.2.2.2.2, len_rc HN.out.2.2.2.2⟩
  go_upto_region 6 with (first
    | (refine atLoad _ ?_; refine wpList_run rfl _ _ (exec_node Tryd.underlying28 infoN (.tmp 3) rfl S rfl N HN.out.1 HN.out.2.1 H2.out.2.1) ?_)
    | (refine wpList_run rfl _ _ (exec_alloc 28 rfl _ zeroN) ?_)
    | (refine wpList_newN infoN w2 N HN.out.1 HN.out.2.1 rfl _ _ rfl rfl rfl rfl ?_; intro w3 hl hb; have H3 : Box (Below w.heap.size w w3 ∧ LiesN w3 S 28 N ∧ LiesR w3 (S + 1) r ∧ LiesN w3 w2.heap.size 28 N ∧ S + 1 < w2.heap.size) := ⟨below_to H2.out.1 hb, H2.out.2.1.below hb, H2.out.2.2.below hb, hl, H2.out.2.2.lt⟩; clear hl hb))
  generalize w2.heap.size = G at H3 ⊢
  clear H2
  have HG : Box (Below w.heap.size w (w3.setCells G (j * 33) (ra r).toList) ∧ LiesN (w3.setCells G (j * 33) (ra r).toList) S 28 N ∧ LiesR (w3.setCells G (j * 33) (ra r).toList) (S + 1) r ∧ LiesN (w3.setCells G (j * 33) (ra r).toList) G 28 (N.set j r) ∧ w3.there G (j * 33) (ra r).size) := by
    obtain ⟨t1, t2, t3, t4, t5⟩ := H3.out
    refine ⟨below_setCells (by rw [HS.out]; omega) _ _ t1, (setCells_other G S (by omega) _ _ _).trans t2, (setCells_other G (S + 1) (by omega) _ _ _).trans t3, t4.putRef HN.out.1 j (by rw [HN.out.2.1]; exact hj4) HN.out.2.2.2.2, there_row t4 (by rw [HQ2.out.2.2.1, HQ2.out.1]; omega)⟩
  simp only [Act.put, List.setIfInBounds_toArray, List.set_cons_zero, List.set_cons_succ]
  go_upto_region 7 with (first
    | (refine atLoad _ ?_; refine wpList_run rfl _ _ (exec_load_mid 26 _ (.tmp 5) rfl Tryd.underlying26 rfl (S + 1) 0 rfl (rc r) (by rw [HQ2.out.2.2.2]; exact infoR) H3.out.2.2.1.range) ?_)
    | (refine atStore _ ?_; refine wpList_store_mid rfl 26 (.tmp 21) (.tmp 20) rfl G (j * 33) (ra r) rfl rfl HG.out.2.2.2.2 (by rw [HQ2.out.2.2.1]; exact infoR) (all_ra r) ?_))
  generalize w3.setCells G (j * 33) (ra r).toList = w4 at HG ⊢
  clear H3 HQ2
  simp only [Act.put]
  go_upto_region 8 with (first
    | (refine atLoad _ ?_; refine wpList_run rfl _ _ (exec_node Tryd.underlying28 infoN (.tmp 3) rfl S rfl N HN.out.1 HN.out.2.1 HG.out.2.1) ?_)
    | (go_at_call 9; refine Calls.mono (tput_any N w4 HN.out.1 HN.out.2.1) ?_; rintro e w5 ⟨ax, cx, rfl, hB, hc1, hc2, hb⟩; have H5 : Box (Below w.heap.size w w5 ∧ LiesN w5 S 28 N ∧ LiesR w5 (S + 1) r ∧ LiesN w5 G 28 (N.set j r) ∧ Bytes w5 ax 160 (nb N) ∧ 160 ≤ cx) := ⟨below_to HG.out.1 hb, HG.out.2.1.below hb, HG.out.2.2.1.below hb, HG.out.2.2.2.1.below hb, hB, hc1⟩; clear hB hc1 hc2 hb))
  clear HG
  go_upto_region 9 with (first
    | (refine atLoad _ ?_; refine wpList_run rfl _ _ (exec_node Tryd.underlying28 infoN (.tmp 9) rfl G rfl (N.set j r) HN.out.2.2.1 HN.out.2.2.2.1 H5.out.2.2.2.1) ?_)
    | (go_at_call 9; refine Calls.mono (tput_any (N.set j r) w5 HN.out.2.2.1 HN.out.2.2.2.1) ?_; rintro e w6 ⟨ay, cy, rfl, hB, hc1, hc2, hb⟩; have H6 : Box (Below w.heap.size w w6 ∧ LiesN w6 S 28 N ∧ LiesR w6 (S + 1) r ∧ Bytes w6 ax 160 (nb N) ∧ 160 ≤ cx ∧ Bytes w6 ay 160 (nb (N.set j r)) ∧ 160 ≤ cy) := ⟨below_to H5.out.1 hb, H5.out.2.1.below hb, H5.out.2.2.1.below hb, H5.out.2.2.2.2.1.below hb, H5.out.2.2.2.2.2, hB, hc1⟩; clear hB hc1 hc2 hb))
  clear H5
  obtain ⟨z1, z2, z3, z4, z5, z6, z7⟩ := H6.out
  obtain ⟨n1, n2, n3, n4, n5⟩ := HN.out
  obtain ⟨m0, hm0⟩ : ∃ m0 : Nat, 40 * j = m0 := ⟨_, rfl⟩
  obtain ⟨m32, hm32⟩ : ∃ m32 : Nat, m0 + 32 = m32 := ⟨_, rfl⟩
  obtain ⟨m40, hm40⟩ : ∃ m40 : Nat, m0 + 40 = m40 := ⟨_, rfl⟩
  have HM : Box (40 * (j : Int) = (m0 : Int) ∧ (m0 : Int) + 32 = (m32 : Int) ∧ (m0 : Int) + 40 = (m40 : Int) ∧ j < 4) := ⟨by omega, by omega, by omega, hj4⟩
  obtain ⟨q, hq⟩ : ∃ q, N[j]'(by omega) = q := ⟨_, rfl⟩
  have hq2 : (N.set j r)[j]'(by omega) = r := by simp
  have kq : OkR q := by rw [← hq]; exact n1.get j _
  have HK : Box (OkR q ∧ OkR r) := ⟨kq, n5⟩
  have HQ : Box (decide (bytesOf q.s 8 = bytesOf r.s 8) = (q.s == r.s)) := ⟨by
    rw [Bool.eq_iff_iff, decide_eq_true_iff, bytesOf_inj _ _ kq.hs n5.hs, beq_iff_eq]⟩
  have HL : Box (∀ x, Below w6.heap.size w6 x → Bytes x (some ⟨S, j * 33, none⟩) 32 q.d ∧ Bytes x (some ⟨S + 1, 0, none⟩) 32 r.d ∧ x.cell? ⟨S, j * 33 + 32, none⟩ = some (.int .u64 q.s) ∧ x.cell? ⟨S + 1, 32, none⟩ = some (.int .u64 r.s)) := ⟨fun x hx => by
    have a1 := (z2.below hx).sum n1 j (by omega)
    have a3 := (z2.below hx).stamp n1 j (by omega)
    rw [hq] at a1 a3
    exact ⟨a1, (z3.below hx).sum n5, a3, (z3.below hx).stamp n5⟩⟩
  have hx5 : ∀ {A : List Int} {a : Option Addr} {l : Nat}, Bytes w6 a l A → ∀ x, Below w6.heap.size w6 x → Bytes x a l A := fun h x hx => h.below hx
  obtain ⟨A1, hA1⟩ : ∃ A, (nb N).take m0 = A := ⟨_, rfl⟩
  obtain ⟨A2, hA2⟩ : ∃ A, (nb N).drop m40 = A := ⟨_, rfl⟩
  have hA1' : (nb (N.set j r)).take m0 = A1 := by rw [← hA1, ← hm0]; exact nb_set_take n1 j r n5
  have hA2' : (nb (N.set j r)).drop m40 = A2 := by rw [← hA2, show m40 = 40 * (j + 1) by omega]; exact nb_set_drop n1 j r n5
  have HY : Box (Byt A1 ∧ Byt A2) := ⟨by rw [← hA1]; exact byt_take _ _ z4.2.1, by rw [← hA2]; exact byt_drop _ _ z4.2.1⟩
  have cut : ∀ (L : List Int) (p n : Nat), (L.take (p + n)).drop p = (L.drop p).take n := fun L p n => by rw [List.drop_take, Nat.add_sub_cancel_left]
  have hd5 : ((nb N).take m32).drop m0 = q.d := by rw [← hm32, cut, ← hm0, nb_sum n1 j (by omega), hq]
  have hd6 : ((nb (N.set j r)).take m32).drop m0 = r.d := by rw [← hm32, cut, ← hm0, nb_sum n3 j (by omega), hq2]
  have hd7 : ((nb N).take m40).drop m32 = bytesOf q.s 8 := by rw [show m40 = m32 + 8 by omega, cut, show m32 = 40 * j + 32 by omega, nb_stamp n1 j (by omega), hq]
  have hd8 : ((nb (N.set j r)).take m40).drop m32 = bytesOf r.s 8 := by rw [show m40 = m32 + 8 by omega, cut, show m32 = 40 * j + 32 by omega, nb_stamp n3 j (by omega), hq2]
  obtain ⟨b1, e1, f1⟩ := slice_hi ax 160 cx m0 (by omega) z5
  obtain ⟨b2, e2, f2⟩ := slice_hi ay 160 cy m0 (by omega) z7
  obtain ⟨b3, e3, f3⟩ := slice_lo ax 160 cx m40 (by omega) z5
  obtain ⟨b4, e4, f4⟩ := slice_lo ay 160 cy m40 (by omega) z7
  obtain ⟨b5, e5, f5⟩ := slice_mid ax 160 cx m0 m32 (by omega) (by omega) z5
  obtain ⟨b6, e6, f6⟩ := slice_mid ay 160 cy m0 m32 (by omega) (by omega) z7
  obtain ⟨b7, e7, f7⟩ := slice_mid ax 160 cx m32 m40 (by omega) (by omega) z5
  obtain ⟨b8, e8, f8⟩ := slice_mid ay 160 cy m32 m40 (by omega) (by omega) z7
  have g1 := f1 w6 _ z4
  have g2 := f2 w6 _ z6
  have g3 := f3 w6 _ z4
  have g4 := f4 w6 _ z6
  have g5 := f5 w6 _ z4
  have g6 := f6 w6 _ z6
  have g7 := f7 w6 _ z4
  have g8 := f8 w6 _ z6
  rw [hA1] at g1
  rw [hA1'] at g2
  rw [hA2] at g3
  rw [hA2'] at g4
  rw [show m32 - m0 = 32 by omega] at e5 e6 g5 g6
  rw [show m40 - m32 = 8 by omega] at e7 e8 g7 g8
  rw [hd5] at g5
  rw [hd6] at g6
  rw [hd7] at g7
  rw [hd8] at g8
  have F1 : Box (_ ∧ _) := ⟨e1, hx5 g1⟩
  have F2 : Box (_ ∧ _) := ⟨e2, hx5 g2⟩
  have F3 : Box (_ ∧ _) := ⟨e3, hx5 g3⟩
  have F4 : Box (_ ∧ _) := ⟨e4, hx5 g4⟩
  have F5 : Box (_ ∧ _) := ⟨e5, hx5 g5⟩
  have F6 : Box (_ ∧ _) := ⟨e6, hx5 g6⟩
  have F7 : Box (_ ∧ _) := ⟨e7, hx5 g7⟩
  have F8 : Box (_ ∧ _) := ⟨e8, hx5 g8⟩
  have HE : Box (Below w.heap.size w w6) := ⟨z1⟩
  clear f1 f2 f3 f4 f5 f6 f7 f8 e1 e2 e3 e4 e5 e6 e7 e8 g1 g2 g3 g4 g5 g6 g7 g8 hd5 hd6 hd7 hd8 cut hA1 hA2 hA1' hA2' hx5 kq hq2 hm0 hm32 hm40 z1 z2 z3 z4 z5 z6 z7 H6 HN n5 n3 n4
  clear hq n1 n2 hj4
  refine Seq.begin_any (by kernel_rfl) (fun wd hd => ?_)
  have HX0 : Box (Below w6.heap.size w6 wd) := ⟨hd⟩
  clear hd
  refine Seq.take_lat (i := 0) (v := ?_) rfl (by kernel_rfl) (by kernel_rfl) (by kernel_rfl) (fun _ _ _ h => h) (by rfl) ?_ ?_
  rotate_left
  · intro w' hLat; change Below _ _ _ at hLat; go_simp <;> with_reducible rfl
  try simp only [Act.put, List.setIfInBounds_toArray, List.set_cons_zero, List.set_cons_succ, List.getElem_toArray, List.getElem_cons_zero]
  refine Seq.take_lat (i := 1) (v := .int .i64 160) rfl (by kernel_rfl) (by kernel_rfl) (by kernel_rfl) (fun _ _ _ h => h) (by rfl) (fun w' hLat => exec_lenE (.tmp 26) rfl _ 160 _ rfl) ?_
  try simp only [Act.put, List.setIfInBounds_toArray, List.set_cons_zero, List.set_cons_succ, List.getElem_toArray, List.getElem_cons_zero, List.getElem_cons_succ]
  refine Seq.take_lat (i := 2) (v := .bool false) rfl (by kernel_rfl) (by kernel_rfl) (by kernel_rfl) (fun _ _ _ h => h) (by rfl) (fun w' hLat => exec_nen _ _ _ rfl 160 rfl rfl) ?_
  try simp only [Act.put, List.setIfInBounds_toArray, List.set_cons_zero, List.set_cons_succ, List.getElem_toArray, List.getElem_cons_zero, List.getElem_cons_succ]
  refine Seq.take_lat (i := 3) (v := ?_) rfl (by kernel_rfl) (by kernel_rfl) (by kernel_rfl) (fun _ _ _ h => h) (by rfl) ?_ ?_
  rotate_left
  · intro w' hLat; change Below _ _ _ at hLat; go_simp <;> with_reducible rfl
  try simp only [Act.put, List.setIfInBounds_toArray, List.set_cons_zero, List.set_cons_succ, List.getElem_toArray, List.getElem_cons_zero, List.getElem_cons_succ]
  refine Seq.take_lat (i := 4) (v := ?_) rfl (by kernel_rfl) (by kernel_rfl) (by kernel_rfl) (fun _ _ _ h => h) (by rfl) ?_ ?_
  rotate_left
  · intro w' hLat; change Below _ _ _ at hLat; go_simp <;> with_reducible rfl
  try simp only [Act.put, List.setIfInBounds_toArray, List.set_cons_zero, List.set_cons_succ, List.getElem_toArray, List.getElem_cons_zero, List.getElem_cons_succ]
  refine Seq.take_lat (i := 5) (v := .int .i64 160) rfl (by kernel_rfl) (by kernel_rfl) (by kernel_rfl) (fun _ _ _ h => h) (by rfl) (fun w' hLat => exec_lenE (.tmp 30) rfl _ 160 _ rfl) ?_
  try simp only [Act.put, List.setIfInBounds_toArray, List.set_cons_zero, List.set_cons_succ, List.getElem_toArray, List.getElem_cons_zero, List.getElem_cons_succ]
  refine Seq.take_lat (i := 6) (v := .bool false) rfl (by kernel_rfl) (by kernel_rfl) (by kernel_rfl) (fun _ _ _ h => h) (by rfl) (fun w' hLat => exec_nen _ _ _ rfl 160 rfl rfl) ?_
  try simp only [Act.put, List.setIfInBounds_toArray, List.set_cons_zero, List.set_cons_succ, List.getElem_toArray, List.getElem_cons_zero, List.getElem_cons_succ]
  refine Seq.take_lat (i := 7) (v := ?_) rfl (by kernel_rfl) (by kernel_rfl) (by kernel_rfl) (fun _ _ _ h => h) (by rfl) ?_ ?_
  rotate_left
  · intro w' hLat; change Below _ _ _ at hLat; go_simp <;> with_reducible rfl
  try simp only [Act.put, List.setIfInBounds_toArray, List.set_cons_zero, List.set_cons_succ, List.getElem_toArray, List.getElem_cons_zero, List.getElem_cons_succ]
  refine Seq.take_lat (i := 8) (v := ?_) rfl (by kernel_rfl) (by kernel_rfl) (by kernel_rfl) (fun _ _ _ h => h) (by rfl) ?_ ?_
  rotate_left
  · intro w' hLat; change Below _ _ _ at hLat; go_simp <;> with_reducible rfl
  try simp only [Act.put, List.setIfInBounds_toArray, List.set_cons_zero, List.set_cons_succ, List.getElem_toArray, List.getElem_cons_zero, List.getElem_cons_succ]
  refine Seq.take_lat (i := 9) (v := ?_) rfl (by kernel_rfl) (by kernel_rfl) (by kernel_rfl) (fun _ _ _ h => h) (by rfl) ?_ ?_
  rotate_left
  · intro w' hLat; change Below _ _ _ at hLat; go_simp <;> with_reducible rfl
  try simp only [Act.put, List.setIfInBounds_toArray, List.set_cons_zero, List.set_cons_succ, List.getElem_toArray, List.getElem_cons_zero, List.getElem_cons_succ]
  refine Seq.take_lat (i := 10) (v := ?_) rfl (by kernel_rfl) (by kernel_rfl) (by kernel_rfl) (fun _ _ _ h => h) (by rfl) ?_ ?_
  rotate_left
  · intro w' hLat; change Below _ _ _ at hLat; go_simp <;> with_reducible rfl
  try simp only [Act.put, List.setIfInBounds_toArray, List.set_cons_zero, List.set_cons_succ, List.getElem_toArray, List.getElem_cons_zero, List.getElem_cons_succ]
  refine Seq.take_lat (i := 11) (v := .int .i64 (m0 : Int)) rfl (by kernel_rfl) (by kernel_rfl) (by kernel_rfl) (fun _ _ _ h => h) (by rfl) (fun w' hLat => exec_mulE _ _ _ rfl 40 (j : Int) (m0 : Int) HM.out.1 (by have := HM.out; omega) rfl rfl) ?_
  try simp only [Act.put, List.setIfInBounds_toArray, List.set_cons_zero, List.set_cons_succ, List.getElem_toArray, List.getElem_cons_zero, List.getElem_cons_succ]
  refine Seq.take_lat (i := 12) (v := .slice b1 m0 cx) rfl (by kernel_rfl) (by kernel_rfl) (by kernel_rfl) (fun _ _ _ h => h) (by rfl) (fun w' hLat => exec_slice 29 (.tmp 35) none (some (.tmp 37)) rfl _ (F1.out.1 w')) ?_
  try simp only [Act.put, List.setIfInBounds_toArray, List.set_cons_zero, List.set_cons_succ, List.getElem_toArray, List.getElem_cons_zero, List.getElem_cons_succ]
  refine Seq.take_lat (i := 13) (v := .string (strOfNums A1)) rfl (by kernel_rfl) (by kernel_rfl) (by kernel_rfl) (fun _ _ _ h => h) (by rfl) (fun w' hLat => exec_conv (.tmp 38) rfl rfl (F1.out.2 w' (below_to HX0.out hLat))) ?_
  try simp only [Act.put, List.setIfInBounds_toArray, List.set_cons_zero, List.set_cons_succ, List.getElem_toArray, List.getElem_cons_zero, List.getElem_cons_succ]
  refine Seq.take_lat (i := 14) (v := ?_) rfl (by kernel_rfl) (by kernel_rfl) (by kernel_rfl) (fun _ _ _ h => h) (by rfl) ?_ ?_
  rotate_left
  · intro w' hLat; change Below _ _ _ at hLat; go_simp <;> with_reducible rfl
  try simp only [Act.put, List.setIfInBounds_toArray, List.set_cons_zero, List.set_cons_succ, List.getElem_toArray, List.getElem_cons_zero, List.getElem_cons_succ]
  refine Seq.take_lat (i := 15) (v := ?_) rfl (by kernel_rfl) (by kernel_rfl) (by kernel_rfl) (fun _ _ _ h => h) (by rfl) ?_ ?_
  rotate_left
  · intro w' hLat; change Below _ _ _ at hLat; go_simp <;> with_reducible rfl
  try simp only [Act.put, List.setIfInBounds_toArray, List.set_cons_zero, List.set_cons_succ, List.getElem_toArray, List.getElem_cons_zero, List.getElem_cons_succ]
  refine Seq.take_lat (i := 16) (v := .int .i64 (m0 : Int)) rfl (by kernel_rfl) (by kernel_rfl) (by kernel_rfl) (fun _ _ _ h => h) (by rfl) (fun w' hLat => exec_mulE _ _ _ rfl 40 (j : Int) (m0 : Int) HM.out.1 (by have := HM.out; omega) rfl rfl) ?_
  try simp only [Act.put, List.setIfInBounds_toArray, List.set_cons_zero, List.set_cons_succ, List.getElem_toArray, List.getElem_cons_zero, List.getElem_cons_succ]
  refine Seq.take_lat (i := 17) (v := .slice b2 m0 cy) rfl (by kernel_rfl) (by kernel_rfl) (by kernel_rfl) (fun _ _ _ h => h) (by rfl) (fun w' hLat => exec_slice 29 (.tmp 40) none (some (.tmp 42)) rfl _ (F2.out.1 w')) ?_
  try simp only [Act.put, List.setIfInBounds_toArray, List.set_cons_zero, List.set_cons_succ, List.getElem_toArray, List.getElem_cons_zero, List.getElem_cons_succ]
  refine Seq.take_lat (i := 18) (v := .string (strOfNums A1)) rfl (by kernel_rfl) (by kernel_rfl) (by kernel_rfl) (fun _ _ _ h => h) (by rfl) (fun w' hLat => exec_conv (.tmp 43) rfl rfl (F2.out.2 w' (below_to HX0.out hLat))) ?_
  try simp only [Act.put, List.setIfInBounds_toArray, List.set_cons_zero, List.set_cons_succ, List.getElem_toArray, List.getElem_cons_zero, List.getElem_cons_succ]
  refine Seq.take_lat (i := 19) (v := .bool false) rfl (by kernel_rfl) (by kernel_rfl) (by kernel_rfl) (fun _ _ _ h => h) (by rfl) (fun w' hLat => exec_neT (.tmp 39) (.tmp 44) _ rfl A1 A1 HY.out.1 HY.out.1 false (by simp) rfl rfl) ?_
  try simp only [Act.put, List.setIfInBounds_toArray, List.set_cons_zero, List.set_cons_succ, List.getElem_toArray, List.getElem_cons_zero, List.getElem_cons_succ]
  refine Seq.take_lat (i := 20) (v := ?_) rfl (by kernel_rfl) (by kernel_rfl) (by kernel_rfl) (fun _ _ _ h => h) (by rfl) ?_ ?_
  rotate_left
  · intro w' hLat; change Below _ _ _ at hLat; go_simp <;> with_reducible rfl
  try simp only [Act.put, List.setIfInBounds_toArray, List.set_cons_zero, List.set_cons_succ, List.getElem_toArray, List.getElem_cons_zero, List.getElem_cons_succ]
  refine Seq.take_lat (i := 21) (v := ?_) rfl (by kernel_rfl) (by kernel_rfl) (by kernel_rfl) (fun _ _ _ h => h) (by rfl) ?_ ?_
  rotate_left
  · intro w' hLat; change Below _ _ _ at hLat; go_simp <;> with_reducible rfl
  try simp only [Act.put, List.setIfInBounds_toArray, List.set_cons_zero, List.set_cons_succ, List.getElem_toArray, List.getElem_cons_zero, List.getElem_cons_succ]
  refine Seq.take_lat (i := 22) (v := ?_) rfl (by kernel_rfl) (by kernel_rfl) (by kernel_rfl) (fun _ _ _ h => h) (by rfl) ?_ ?_
  rotate_left
  · intro w' hLat; change Below _ _ _ at hLat; go_simp <;> with_reducible rfl
  try simp only [Act.put, List.setIfInBounds_toArray, List.set_cons_zero, List.set_cons_succ, List.getElem_toArray, List.getElem_cons_zero, List.getElem_cons_succ]
  refine Seq.take_lat (i := 23) (v := ?_) rfl (by kernel_rfl) (by kernel_rfl) (by kernel_rfl) (fun _ _ _ h => h) (by rfl) ?_ ?_
  rotate_left
  · intro w' hLat; change Below _ _ _ at hLat; go_simp <;> with_reducible rfl
  try simp only [Act.put, List.setIfInBounds_toArray, List.set_cons_zero, List.set_cons_succ, List.getElem_toArray, List.getElem_cons_zero, List.getElem_cons_succ]
  refine Seq.take_lat (i := 24) (v := .int .i64 (m0 : Int)) rfl (by kernel_rfl) (by kernel_rfl) (by kernel_rfl) (fun _ _ _ h => h) (by rfl) (fun w' hLat => exec_mulE _ _ _ rfl 40 (j : Int) (m0 : Int) HM.out.1 (by have := HM.out; omega) rfl rfl) ?_
  try simp only [Act.put, List.setIfInBounds_toArray, List.set_cons_zero, List.set_cons_succ, List.getElem_toArray, List.getElem_cons_zero, List.getElem_cons_succ]
  refine Seq.take_lat (i := 25) (v := .int .i64 (m40 : Int)) rfl (by kernel_rfl) (by kernel_rfl) (by kernel_rfl) (fun _ _ _ h => h) (by rfl) (fun w' hLat => exec_addE _ _ _ rfl (m0 : Int) 40 (m40 : Int) HM.out.2.2.1 (by have := HM.out; omega) rfl rfl) ?_
  try simp only [Act.put, List.setIfInBounds_toArray, List.set_cons_zero, List.set_cons_succ, List.getElem_toArray, List.getElem_cons_zero, List.getElem_cons_succ]
  refine Seq.take_lat (i := 26) (v := .slice b3 (160 - m40) (cx - m40)) rfl (by kernel_rfl) (by kernel_rfl) (by kernel_rfl) (fun _ _ _ h => h) (by rfl) (fun w' hLat => exec_slice 29 (.tmp 48) (some (.tmp 51)) none rfl _ (F3.out.1 w')) ?_
  try simp only [Act.put, List.setIfInBounds_toArray, List.set_cons_zero, List.set_cons_succ, List.getElem_toArray, List.getElem_cons_zero, List.getElem_cons_succ]
  refine Seq.take_lat (i := 27) (v := .string (strOfNums A2)) rfl (by kernel_rfl) (by kernel_rfl) (by kernel_rfl) (fun _ _ _ h => h) (by rfl) (fun w' hLat => exec_conv (.tmp 52) rfl rfl (F3.out.2 w' (below_to HX0.out hLat))) ?_
  try simp only [Act.put, List.setIfInBounds_toArray, List.set_cons_zero, List.set_cons_succ, List.getElem_toArray, List.getElem_cons_zero, List.getElem_cons_succ]
  refine Seq.take_lat (i := 28) (v := ?_) rfl (by kernel_rfl) (by kernel_rfl) (by kernel_rfl) (fun _ _ _ h => h) (by rfl) ?_ ?_
  rotate_left
  · intro w' hLat; change Below _ _ _ at hLat; go_simp <;> with_reducible rfl
  try simp only [Act.put, List.setIfInBounds_toArray, List.set_cons_zero, List.set_cons_succ, List.getElem_toArray, List.getElem_cons_zero, List.getElem_cons_succ]
  refine Seq.take_lat (i := 29) (v := ?_) rfl (by kernel_rfl) (by kernel_rfl) (by kernel_rfl) (fun _ _ _ h => h) (by rfl) ?_ ?_
  rotate_left
  · intro w' hLat; change Below _ _ _ at hLat; go_simp <;> with_reducible rfl
  try simp only [Act.put, List.setIfInBounds_toArray, List.set_cons_zero, List.set_cons_succ, List.getElem_toArray, List.getElem_cons_zero, List.getElem_cons_succ]
  refine Seq.take_lat (i := 30) (v := .int .i64 (m0 : Int)) rfl (by kernel_rfl) (by kernel_rfl) (by kernel_rfl) (fun _ _ _ h => h) (by rfl) (fun w' hLat => exec_mulE _ _ _ rfl 40 (j : Int) (m0 : Int) HM.out.1 (by have := HM.out; omega) rfl rfl) ?_
  try simp only [Act.put, List.setIfInBounds_toArray, List.set_cons_zero, List.set_cons_succ, List.getElem_toArray, List.getElem_cons_zero, List.getElem_cons_succ]
  refine Seq.take_lat (i := 31) (v := .int .i64 (m40 : Int)) rfl (by kernel_rfl) (by kernel_rfl) (by kernel_rfl) (fun _ _ _ h => h) (by rfl) (fun w' hLat => exec_addE _ _ _ rfl (m0 : Int) 40 (m40 : Int) HM.out.2.2.1 (by have := HM.out; omega) rfl rfl) ?_
  try simp only [Act.put, List.setIfInBounds_toArray, List.set_cons_zero, List.set_cons_succ, List.getElem_toArray, List.getElem_cons_zero, List.getElem_cons_succ]
  refine Seq.take_lat (i := 32) (v := .slice b4 (160 - m40) (cy - m40)) rfl (by kernel_rfl) (by kernel_rfl) (by kernel_rfl) (fun _ _ _ h => h) (by rfl) (fun w' hLat => exec_slice 29 (.tmp 54) (some (.tmp 57)) none rfl _ (F4.out.1 w')) ?_
  try simp only [Act.put, List.setIfInBounds_toArray, List.set_cons_zero, List.set_cons_succ, List.getElem_toArray, List.getElem_cons_zero, List.getElem_cons_succ]
  refine Seq.take_lat (i := 33) (v := .string (strOfNums A2)) rfl (by kernel_rfl) (by kernel_rfl) (by kernel_rfl) (fun _ _ _ h => h) (by rfl) (fun w' hLat => exec_conv (.tmp 58) rfl rfl (F4.out.2 w' (below_to HX0.out hLat))) ?_
  try simp only [Act.put, List.setIfInBounds_toArray, List.set_cons_zero, List.set_cons_succ, List.getElem_toArray, List.getElem_cons_zero, List.getElem_cons_succ]
  refine Seq.take_lat (i := 34) (v := .bool false) rfl (by kernel_rfl) (by kernel_rfl) (by kernel_rfl) (fun _ _ _ h => h) (by rfl) (fun w' hLat => exec_neT (.tmp 53) (.tmp 59) _ rfl A2 A2 HY.out.2 HY.out.2 false (by simp) rfl rfl) ?_
  try simp only [Act.put, List.setIfInBounds_toArray, List.set_cons_zero, List.set_cons_succ, List.getElem_toArray, List.getElem_cons_zero, List.getElem_cons_succ]
  refine Seq.take_lat (i := 35) (v := ?_) rfl (by kernel_rfl) (by kernel_rfl) (by kernel_rfl) (fun _ _ _ h => h) (by rfl) ?_ ?_
  rotate_left
  · intro w' hLat; change Below _ _ _ at hLat; go_simp <;> with_reducible rfl
  try simp only [Act.put, List.setIfInBounds_toArray, List.set_cons_zero, List.set_cons_succ, List.getElem_toArray, List.getElem_cons_zero, List.getElem_cons_succ]
  refine wpAnyH_done (by kernel_rfl) ?_ _
  have HX1 := HX0
  clear HX0
  go_upto_region 11 with fail
  (try dsimp only [List.append])
  refine Seq.begin_any (by kernel_rfl) (fun wd hd => ?_)
  have HX0 : Box (Below w6.heap.size w6 wd) := ⟨below_to HX1.out hd⟩
  clear hd
  refine Seq.take_lat (i := 0) (v := ?_) rfl (by kernel_rfl) (by kernel_rfl) (by kernel_rfl) (fun _ _ _ h => h) (by rfl) ?_ ?_
  rotate_left
  · intro w' hLat; change Below _ _ _ at hLat; go_simp <;> with_reducible rfl
  try simp only [Act.put, List.setIfInBounds_toArray, List.set_cons_zero, List.set_cons_succ, List.getElem_toArray, List.getElem_cons_zero]
  refine Seq.take_lat (i := 1) (v := ?_) rfl (by kernel_rfl) (by kernel_rfl) (by kernel_rfl) (fun _ _ _ h => h) (by rfl) ?_ ?_
  rotate_left
  · intro w' hLat; change Below _ _ _ at hLat; go_simp <;> with_reducible rfl
  try simp only [Act.put, List.setIfInBounds_toArray, List.set_cons_zero, List.set_cons_succ, List.getElem_toArray, List.getElem_cons_zero, List.getElem_cons_succ]
  refine Seq.take_lat (i := 2) (v := .int .i64 (m0 : Int)) rfl (by kernel_rfl) (by kernel_rfl) (by kernel_rfl) (fun _ _ _ h => h) (by rfl) (fun w' hLat => exec_mulE _ _ _ rfl 40 (j : Int) (m0 : Int) HM.out.1 (by have := HM.out; omega) rfl rfl) ?_
  try simp only [Act.put, List.setIfInBounds_toArray, List.set_cons_zero, List.set_cons_succ, List.getElem_toArray, List.getElem_cons_zero, List.getElem_cons_succ]
  refine Seq.take_lat (i := 3) (v := ?_) rfl (by kernel_rfl) (by kernel_rfl) (by kernel_rfl) (fun _ _ _ h => h) (by rfl) ?_ ?_
  rotate_left
  · intro w' hLat; change Below _ _ _ at hLat; go_simp <;> with_reducible rfl
  try simp only [Act.put, List.setIfInBounds_toArray, List.set_cons_zero, List.set_cons_succ, List.getElem_toArray, List.getElem_cons_zero, List.getElem_cons_succ]
  refine Seq.take_lat (i := 4) (v := .int .i64 (m0 : Int)) rfl (by kernel_rfl) (by kernel_rfl) (by kernel_rfl) (fun _ _ _ h => h) (by rfl) (fun w' hLat => exec_mulE _ _ _ rfl 40 (j : Int) (m0 : Int) HM.out.1 (by have := HM.out; omega) rfl rfl) ?_
  try simp only [Act.put, List.setIfInBounds_toArray, List.set_cons_zero, List.set_cons_succ, List.getElem_toArray, List.getElem_cons_zero, List.getElem_cons_succ]
  refine Seq.take_lat (i := 5) (v := .int .i64 (m32 : Int)) rfl (by kernel_rfl) (by kernel_rfl) (by kernel_rfl) (fun _ _ _ h => h) (by rfl) (fun w' hLat => exec_addE _ _ _ rfl (m0 : Int) 32 (m32 : Int) HM.out.2.1 (by have := HM.out; omega) rfl rfl) ?_
  try simp only [Act.put, List.setIfInBounds_toArray, List.set_cons_zero, List.set_cons_succ, List.getElem_toArray, List.getElem_cons_zero, List.getElem_cons_succ]
  refine Seq.take_lat (i := 6) (v := .slice b5 32 (cx - m0)) rfl (by kernel_rfl) (by kernel_rfl) (by kernel_rfl) (fun _ _ _ h => h) (by rfl) (fun w' hLat => exec_slice 29 (.tmp 62) (some (.tmp 64)) (some (.tmp 67)) rfl _ (F5.out.1 w')) ?_
  try simp only [Act.put, List.setIfInBounds_toArray, List.set_cons_zero, List.set_cons_succ, List.getElem_toArray, List.getElem_cons_zero, List.getElem_cons_succ]
  refine Seq.take_lat (i := 7) (v := .string (strOfNums q.d)) rfl (by kernel_rfl) (by kernel_rfl) (by kernel_rfl) (fun _ _ _ h => h) (by rfl) (fun w' hLat => exec_conv (.tmp 68) rfl rfl (F5.out.2 w' (below_to HX0.out hLat))) ?_
  try simp only [Act.put, List.setIfInBounds_toArray, List.set_cons_zero, List.set_cons_succ, List.getElem_toArray, List.getElem_cons_zero, List.getElem_cons_succ]
  refine Seq.take_lat (i := 8) (v := ?_) rfl (by kernel_rfl) (by kernel_rfl) (by kernel_rfl) (fun _ _ _ h => h) (by rfl) ?_ ?_
  rotate_left
  · intro w' hLat; change Below _ _ _ at hLat; go_simp <;> with_reducible rfl
  try simp only [Act.put, List.setIfInBounds_toArray, List.set_cons_zero, List.set_cons_succ, List.getElem_toArray, List.getElem_cons_zero, List.getElem_cons_succ]
  refine Seq.take_lat (i := 9) (v := ?_) rfl (by kernel_rfl) (by kernel_rfl) (by kernel_rfl) (fun _ _ _ h => h) (by rfl) ?_ ?_
  rotate_left
  · intro w' hLat; change Below _ _ _ at hLat; go_simp <;> with_reducible rfl
  try simp only [Act.put, List.setIfInBounds_toArray, List.set_cons_zero, List.set_cons_succ, List.getElem_toArray, List.getElem_cons_zero, List.getElem_cons_succ]
  refine Seq.take_lat (i := 10) (v := .int .i64 (m0 : Int)) rfl (by kernel_rfl) (by kernel_rfl) (by kernel_rfl) (fun _ _ _ h => h) (by rfl) (fun w' hLat => exec_mulE _ _ _ rfl 40 (j : Int) (m0 : Int) HM.out.1 (by have := HM.out; omega) rfl rfl) ?_
  try simp only [Act.put, List.setIfInBounds_toArray, List.set_cons_zero, List.set_cons_succ, List.getElem_toArray, List.getElem_cons_zero, List.getElem_cons_succ]
  refine Seq.take_lat (i := 11) (v := ?_) rfl (by kernel_rfl) (by kernel_rfl) (by kernel_rfl) (fun _ _ _ h => h) (by rfl) ?_ ?_
  rotate_left
  · intro w' hLat; change Below _ _ _ at hLat; go_simp <;> with_reducible rfl
  try simp only [Act.put, List.setIfInBounds_toArray, List.set_cons_zero, List.set_cons_succ, List.getElem_toArray, List.getElem_cons_zero, List.getElem_cons_succ]
  refine Seq.take_lat (i := 12) (v := .int .i64 (m0 : Int)) rfl (by kernel_rfl) (by kernel_rfl) (by kernel_rfl) (fun _ _ _ h => h) (by rfl) (fun w' hLat => exec_mulE _ _ _ rfl 40 (j : Int) (m0 : Int) HM.out.1 (by have := HM.out; omega) rfl rfl) ?_
  try simp only [Act.put, List.setIfInBounds_toArray, List.set_cons_zero, List.set_cons_succ, List.getElem_toArray, List.getElem_cons_zero, List.getElem_cons_succ]
  refine Seq.take_lat (i := 13) (v := .int .i64 (m32 : Int)) rfl (by kernel_rfl) (by kernel_rfl) (by kernel_rfl) (fun _ _ _ h => h) (by rfl) (fun w' hLat => exec_addE _ _ _ rfl (m0 : Int) 32 (m32 : Int) HM.out.2.1 (by have := HM.out; omega) rfl rfl) ?_
  try simp only [Act.put, List.setIfInBounds_toArray, List.set_cons_zero, List.set_cons_succ, List.getElem_toArray, List.getElem_cons_zero, List.getElem_cons_succ]
  refine Seq.take_lat (i := 14) (v := .slice b6 32 (cy - m0)) rfl (by kernel_rfl) (by kernel_rfl) (by kernel_rfl) (fun _ _ _ h => h) (by rfl) (fun w' hLat => exec_slice 29 (.tmp 70) (some (.tmp 72)) (some (.tmp 75)) rfl _ (F6.out.1 w')) ?_
  try simp only [Act.put, List.setIfInBounds_toArray, List.set_cons_zero, List.set_cons_succ, List.getElem_toArray, List.getElem_cons_zero, List.getElem_cons_succ]
  refine Seq.take_lat (i := 15) (v := .string (strOfNums r.d)) rfl (by kernel_rfl) (by kernel_rfl) (by kernel_rfl) (fun _ _ _ h => h) (by rfl) (fun w' hLat => exec_conv (.tmp 76) rfl rfl (F6.out.2 w' (below_to HX0.out hLat))) ?_
  try simp only [Act.put, List.setIfInBounds_toArray, List.set_cons_zero, List.set_cons_succ, List.getElem_toArray, List.getElem_cons_zero, List.getElem_cons_succ]
  refine Seq.take_lat (i := 16) (v := .bool (decide (q.d = r.d))) rfl (by kernel_rfl) (by kernel_rfl) (by kernel_rfl) (fun _ _ _ h => h) (by rfl) (fun w' hLat => exec_eqT (.tmp 69) (.tmp 77) _ rfl q.d r.d HK.out.1.bd HK.out.2.bd _ rfl rfl rfl) ?_
  try simp only [Act.put, List.setIfInBounds_toArray, List.set_cons_zero, List.set_cons_succ, List.getElem_toArray, List.getElem_cons_zero, List.getElem_cons_succ]
  refine Seq.take_lat (i := 17) (v := ?_) rfl (by kernel_rfl) (by kernel_rfl) (by kernel_rfl) (fun _ _ _ h => h) (by rfl) ?_ ?_
  rotate_left
  · intro w' hLat; change Below _ _ _ at hLat; go_simp <;> with_reducible rfl
  try simp only [Act.put, List.setIfInBounds_toArray, List.set_cons_zero, List.set_cons_succ, List.getElem_toArray, List.getElem_cons_zero, List.getElem_cons_succ]
  refine Seq.take_lat (i := 18) (v := .pointer (some ⟨S, j * 33, none⟩)) rfl (by kernel_rfl) (by kernel_rfl) (by kernel_rfl) (fun _ _ _ h => h) (by rfl) (fun w' hLat => exec_idxN (.tmp 3) (.tmp 79) rfl S j rfl rfl HM.out.2.2.2) ?_
  try simp only [Act.put, List.setIfInBounds_toArray, List.set_cons_zero, List.set_cons_succ, List.getElem_toArray, List.getElem_cons_zero, List.getElem_cons_succ]
  refine Seq.take_lat (i := 19) (v := .pointer (some ⟨S, j * 33, none⟩)) rfl (by kernel_rfl) (by kernel_rfl) (by kernel_rfl) (fun _ _ _ h => h) (by rfl) (fun w' hLat => exec_fld0 (.tmp 80) rfl S (j * 33) rfl) ?_
  try simp only [Act.put, List.setIfInBounds_toArray, List.set_cons_zero, List.set_cons_succ, List.getElem_toArray, List.getElem_cons_zero, List.getElem_cons_succ]
  refine Seq.take_lat (i := 20) (v := .agg (u8s q.d)) rfl (by kernel_rfl) (by kernel_rfl) (by kernel_rfl) (fun _ _ _ h => h) (by rfl) (fun w' hLat => exec_sum (.tmp 81) rfl S (j * 33) rfl q.d ((HL.out w' (below_to HX0.out hLat)).1)) ?_
  try simp only [Act.put, List.setIfInBounds_toArray, List.set_cons_zero, List.set_cons_succ, List.getElem_toArray, List.getElem_cons_zero, List.getElem_cons_succ]
  refine Seq.take_lat (i := 21) (v := .pointer (some ⟨S + 1, 0, none⟩)) rfl (by kernel_rfl) (by kernel_rfl) (by kernel_rfl) (fun _ _ _ h => h) (by rfl) (fun w' hLat => exec_fld0 (.tmp 5) rfl (S + 1) 0 rfl) ?_
  try simp only [Act.put, List.setIfInBounds_toArray, List.set_cons_zero, List.set_cons_succ, List.getElem_toArray, List.getElem_cons_zero, List.getElem_cons_succ]
  refine Seq.take_lat (i := 22) (v := .agg (u8s r.d)) rfl (by kernel_rfl) (by kernel_rfl) (by kernel_rfl) (fun _ _ _ h => h) (by rfl) (fun w' hLat => exec_sum (.tmp 83) rfl (S + 1) 0 rfl r.d ((HL.out w' (below_to HX0.out hLat)).2.1)) ?_
  try simp only [Act.put, List.setIfInBounds_toArray, List.set_cons_zero, List.set_cons_succ, List.getElem_toArray, List.getElem_cons_zero, List.getElem_cons_succ]
  refine Seq.take_lat (i := 23) (v := .bool (decide (q.d = r.d))) rfl (by kernel_rfl) (by kernel_rfl) (by kernel_rfl) (fun _ _ _ h => h) (by rfl) (fun w' hLat => exec_eqS (.tmp 82) (.tmp 84) _ rfl q.d r.d HK.out.1.ld HK.out.2.ld rfl rfl) ?_
  try simp only [Act.put, List.setIfInBounds_toArray, List.set_cons_zero, List.set_cons_succ, List.getElem_toArray, List.getElem_cons_zero, List.getElem_cons_succ]
  refine Seq.take_lat (i := 24) (v := .bool true) rfl (by kernel_rfl) (by kernel_rfl) (by kernel_rfl) (fun _ _ _ h => h) (by rfl) (fun w' hLat => exec_bb (.tmp 78) (.tmp 85) _ rfl (decide (q.d = r.d)) rfl rfl) ?_
  try simp only [Act.put, List.setIfInBounds_toArray, List.set_cons_zero, List.set_cons_succ, List.getElem_toArray, List.getElem_cons_zero, List.getElem_cons_succ]
  refine Seq.take_lat (i := 25) (v := ?_) rfl (by kernel_rfl) (by kernel_rfl) (by kernel_rfl) (fun _ _ _ h => h) (by rfl) ?_ ?_
  rotate_left
  · intro w' hLat; change Below _ _ _ at hLat; go_simp <;> with_reducible rfl
  try simp only [Act.put, List.setIfInBounds_toArray, List.set_cons_zero, List.set_cons_succ, List.getElem_toArray, List.getElem_cons_zero, List.getElem_cons_succ]
  refine Seq.take_lat (i := 26) (v := ?_) rfl (by kernel_rfl) (by kernel_rfl) (by kernel_rfl) (fun _ _ _ h => h) (by rfl) ?_ ?_
  rotate_left
  · intro w' hLat; change Below _ _ _ at hLat; go_simp <;> with_reducible rfl
  try simp only [Act.put, List.setIfInBounds_toArray, List.set_cons_zero, List.set_cons_succ, List.getElem_toArray, List.getElem_cons_zero, List.getElem_cons_succ]
  refine Seq.take_lat (i := 27) (v := ?_) rfl (by kernel_rfl) (by kernel_rfl) (by kernel_rfl) (fun _ _ _ h => h) (by rfl) ?_ ?_
  rotate_left
  · intro w' hLat; change Below _ _ _ at hLat; go_simp <;> with_reducible rfl
  try simp only [Act.put, List.setIfInBounds_toArray, List.set_cons_zero, List.set_cons_succ, List.getElem_toArray, List.getElem_cons_zero, List.getElem_cons_succ]
  refine Seq.take_lat (i := 28) (v := .int .i64 (m0 : Int)) rfl (by kernel_rfl) (by kernel_rfl) (by kernel_rfl) (fun _ _ _ h => h) (by rfl) (fun w' hLat => exec_mulE _ _ _ rfl 40 (j : Int) (m0 : Int) HM.out.1 (by have := HM.out; omega) rfl rfl) ?_
  try simp only [Act.put, List.setIfInBounds_toArray, List.set_cons_zero, List.set_cons_succ, List.getElem_toArray, List.getElem_cons_zero, List.getElem_cons_succ]
  refine Seq.take_lat (i := 29) (v := .int .i64 (m32 : Int)) rfl (by kernel_rfl) (by kernel_rfl) (by kernel_rfl) (fun _ _ _ h => h) (by rfl) (fun w' hLat => exec_addE _ _ _ rfl (m0 : Int) 32 (m32 : Int) HM.out.2.1 (by have := HM.out; omega) rfl rfl) ?_
  try simp only [Act.put, List.setIfInBounds_toArray, List.set_cons_zero, List.set_cons_succ, List.getElem_toArray, List.getElem_cons_zero, List.getElem_cons_succ]
  refine Seq.take_lat (i := 30) (v := ?_) rfl (by kernel_rfl) (by kernel_rfl) (by kernel_rfl) (fun _ _ _ h => h) (by rfl) ?_ ?_
  rotate_left
  · intro w' hLat; change Below _ _ _ at hLat; go_simp <;> with_reducible rfl
  try simp only [Act.put, List.setIfInBounds_toArray, List.set_cons_zero, List.set_cons_succ, List.getElem_toArray, List.getElem_cons_zero, List.getElem_cons_succ]
  refine Seq.take_lat (i := 31) (v := .int .i64 (m0 : Int)) rfl (by kernel_rfl) (by kernel_rfl) (by kernel_rfl) (fun _ _ _ h => h) (by rfl) (fun w' hLat => exec_mulE _ _ _ rfl 40 (j : Int) (m0 : Int) HM.out.1 (by have := HM.out; omega) rfl rfl) ?_
  try simp only [Act.put, List.setIfInBounds_toArray, List.set_cons_zero, List.set_cons_succ, List.getElem_toArray, List.getElem_cons_zero, List.getElem_cons_succ]
  refine Seq.take_lat (i := 32) (v := .int .i64 (m40 : Int)) rfl (by kernel_rfl) (by kernel_rfl) (by kernel_rfl) (fun _ _ _ h => h) (by rfl) (fun w' hLat => exec_addE _ _ _ rfl (m0 : Int) 40 (m40 : Int) HM.out.2.2.1 (by have := HM.out; omega) rfl rfl) ?_
  try simp only [Act.put, List.setIfInBounds_toArray, List.set_cons_zero, List.set_cons_succ, List.getElem_toArray, List.getElem_cons_zero, List.getElem_cons_succ]
  refine Seq.take_lat (i := 33) (v := .slice b7 8 (cx - m32)) rfl (by kernel_rfl) (by kernel_rfl) (by kernel_rfl) (fun _ _ _ h => h) (by rfl) (fun w' hLat => exec_slice 29 (.tmp 88) (some (.tmp 91)) (some (.tmp 94)) rfl _ (F7.out.1 w')) ?_
  try simp only [Act.put, List.setIfInBounds_toArray, List.set_cons_zero, List.set_cons_succ, List.getElem_toArray, List.getElem_cons_zero, List.getElem_cons_succ]
  refine Seq.take_lat (i := 34) (v := .string (strOfNums (bytesOf q.s 8))) rfl (by kernel_rfl) (by kernel_rfl) (by kernel_rfl) (fun _ _ _ h => h) (by rfl) (fun w' hLat => exec_conv (.tmp 95) rfl rfl (F7.out.2 w' (below_to HX0.out hLat))) ?_
  try simp only [Act.put, List.setIfInBounds_toArray, List.set_cons_zero, List.set_cons_succ, List.getElem_toArray, List.getElem_cons_zero, List.getElem_cons_succ]
  refine Seq.take_lat (i := 35) (v := ?_) rfl (by kernel_rfl) (by kernel_rfl) (by kernel_rfl) (fun _ _ _ h => h) (by rfl) ?_ ?_
  rotate_left
  · intro w' hLat; change Below _ _ _ at hLat; go_simp <;> with_reducible rfl
  try simp only [Act.put, List.setIfInBounds_toArray, List.set_cons_zero, List.set_cons_succ, List.getElem_toArray, List.getElem_cons_zero, List.getElem_cons_succ]
  refine Seq.take_lat (i := 36) (v := ?_) rfl (by kernel_rfl) (by kernel_rfl) (by kernel_rfl) (fun _ _ _ h => h) (by rfl) ?_ ?_
  rotate_left
  · intro w' hLat; change Below _ _ _ at hLat; go_simp <;> with_reducible rfl
  try simp only [Act.put, List.setIfInBounds_toArray, List.set_cons_zero, List.set_cons_succ, List.getElem_toArray, List.getElem_cons_zero, List.getElem_cons_succ]
  refine Seq.take_lat (i := 37) (v := .int .i64 (m0 : Int)) rfl (by kernel_rfl) (by kernel_rfl) (by kernel_rfl) (fun _ _ _ h => h) (by rfl) (fun w' hLat => exec_mulE _ _ _ rfl 40 (j : Int) (m0 : Int) HM.out.1 (by have := HM.out; omega) rfl rfl) ?_
  try simp only [Act.put, List.setIfInBounds_toArray, List.set_cons_zero, List.set_cons_succ, List.getElem_toArray, List.getElem_cons_zero, List.getElem_cons_succ]
  refine Seq.take_lat (i := 38) (v := .int .i64 (m32 : Int)) rfl (by kernel_rfl) (by kernel_rfl) (by kernel_rfl) (fun _ _ _ h => h) (by rfl) (fun w' hLat => exec_addE _ _ _ rfl (m0 : Int) 32 (m32 : Int) HM.out.2.1 (by have := HM.out; omega) rfl rfl) ?_
  try simp only [Act.put, List.setIfInBounds_toArray, List.set_cons_zero, List.set_cons_succ, List.getElem_toArray, List.getElem_cons_zero, List.getElem_cons_succ]
  refine Seq.take_lat (i := 39) (v := ?_) rfl (by kernel_rfl) (by kernel_rfl) (by kernel_rfl) (fun _ _ _ h => h) (by rfl) ?_ ?_
  rotate_left
  · intro w' hLat; change Below _ _ _ at hLat; go_simp <;> with_reducible rfl
  try simp only [Act.put, List.setIfInBounds_toArray, List.set_cons_zero, List.set_cons_succ, List.getElem_toArray, List.getElem_cons_zero, List.getElem_cons_succ]
  refine Seq.take_lat (i := 40) (v := .int .i64 (m0 : Int)) rfl (by kernel_rfl) (by kernel_rfl) (by kernel_rfl) (fun _ _ _ h => h) (by rfl) (fun w' hLat => exec_mulE _ _ _ rfl 40 (j : Int) (m0 : Int) HM.out.1 (by have := HM.out; omega) rfl rfl) ?_
  try simp only [Act.put, List.setIfInBounds_toArray, List.set_cons_zero, List.set_cons_succ, List.getElem_toArray, List.getElem_cons_zero, List.getElem_cons_succ]
  refine Seq.take_lat (i := 41) (v := .int .i64 (m40 : Int)) rfl (by kernel_rfl) (by kernel_rfl) (by kernel_rfl) (fun _ _ _ h => h) (by rfl) (fun w' hLat => exec_addE _ _ _ rfl (m0 : Int) 40 (m40 : Int) HM.out.2.2.1 (by have := HM.out; omega) rfl rfl) ?_
  try simp only [Act.put, List.setIfInBounds_toArray, List.set_cons_zero, List.set_cons_succ, List.getElem_toArray, List.getElem_cons_zero, List.getElem_cons_succ]
  refine Seq.take_lat (i := 42) (v := .slice b8 8 (cy - m32)) rfl (by kernel_rfl) (by kernel_rfl) (by kernel_rfl) (fun _ _ _ h => h) (by rfl) (fun w' hLat => exec_slice 29 (.tmp 97) (some (.tmp 100)) (some (.tmp 103)) rfl _ (F8.out.1 w')) ?_
  try simp only [Act.put, List.setIfInBounds_toArray, List.set_cons_zero, List.set_cons_succ, List.getElem_toArray, List.getElem_cons_zero, List.getElem_cons_succ]
  refine Seq.take_lat (i := 43) (v := .string (strOfNums (bytesOf r.s 8))) rfl (by kernel_rfl) (by kernel_rfl) (by kernel_rfl) (fun _ _ _ h => h) (by rfl) (fun w' hLat => exec_conv (.tmp 104) rfl rfl (F8.out.2 w' (below_to HX0.out hLat))) ?_
  try simp only [Act.put, List.setIfInBounds_toArray, List.set_cons_zero, List.set_cons_succ, List.getElem_toArray, List.getElem_cons_zero, List.getElem_cons_succ]
  refine Seq.take_lat (i := 44) (v := .bool (q.s == r.s)) rfl (by kernel_rfl) (by kernel_rfl) (by kernel_rfl) (fun _ _ _ h => h) (by rfl) (fun w' hLat => exec_eqT (.tmp 96) (.tmp 105) _ rfl (bytesOf q.s 8) (bytesOf r.s 8) (bytesOf_bd _ 8) (bytesOf_bd _ 8) _ HQ.out rfl rfl) ?_
  try simp only [Act.put, List.setIfInBounds_toArray, List.set_cons_zero, List.set_cons_succ, List.getElem_toArray, List.getElem_cons_zero, List.getElem_cons_succ]
  refine Seq.take_lat (i := 45) (v := ?_) rfl (by kernel_rfl) (by kernel_rfl) (by kernel_rfl) (fun _ _ _ h => h) (by rfl) ?_ ?_
  rotate_left
  · intro w' hLat; change Below _ _ _ at hLat; go_simp <;> with_reducible rfl
  try simp only [Act.put, List.setIfInBounds_toArray, List.set_cons_zero, List.set_cons_succ, List.getElem_toArray, List.getElem_cons_zero, List.getElem_cons_succ]
  refine Seq.take_lat (i := 46) (v := .pointer (some ⟨S, j * 33, none⟩)) rfl (by kernel_rfl) (by kernel_rfl) (by kernel_rfl) (fun _ _ _ h => h) (by rfl) (fun w' hLat => exec_idxN (.tmp 3) (.tmp 107) rfl S j rfl rfl HM.out.2.2.2) ?_
  try simp only [Act.put, List.setIfInBounds_toArray, List.set_cons_zero, List.set_cons_succ, List.getElem_toArray, List.getElem_cons_zero, List.getElem_cons_succ]
  refine Seq.take_lat (i := 47) (v := .pointer (some ⟨S, j * 33 + 32, none⟩)) rfl (by kernel_rfl) (by kernel_rfl) (by kernel_rfl) (fun _ _ _ h => h) (by rfl) (fun w' hLat => exec_fld1 (.tmp 108) rfl S (j * 33) rfl) ?_
  try simp only [Act.put, List.setIfInBounds_toArray, List.set_cons_zero, List.set_cons_succ, List.getElem_toArray, List.getElem_cons_zero, List.getElem_cons_succ]
  refine Seq.take_lat (i := 48) (v := .int .u64 q.s) rfl (by kernel_rfl) (by kernel_rfl) (by kernel_rfl) (fun _ _ _ h => h) (by rfl) (fun w' hLat => exec_load1 24 _ (.tmp 109) rfl Tryd.underlying24 rfl ⟨S, j * 33 + 32, none⟩ rfl _ ((HL.out w' (below_to HX0.out hLat)).2.2.1)) ?_
  try simp only [Act.put, List.setIfInBounds_toArray, List.set_cons_zero, List.set_cons_succ, List.getElem_toArray, List.getElem_cons_zero, List.getElem_cons_succ]
  refine Seq.take_lat (i := 49) (v := .pointer (some ⟨S + 1, 32, none⟩)) rfl (by kernel_rfl) (by kernel_rfl) (by kernel_rfl) (fun _ _ _ h => h) (by rfl) (fun w' hLat => exec_fld1' (.tmp 5) rfl (S + 1) rfl) ?_
  try simp only [Act.put, List.setIfInBounds_toArray, List.set_cons_zero, List.set_cons_succ, List.getElem_toArray, List.getElem_cons_zero, List.getElem_cons_succ]
  refine Seq.take_lat (i := 50) (v := .int .u64 r.s) rfl (by kernel_rfl) (by kernel_rfl) (by kernel_rfl) (fun _ _ _ h => h) (by rfl) (fun w' hLat => exec_load1 24 _ (.tmp 111) rfl Tryd.underlying24 rfl ⟨S + 1, 32, none⟩ rfl _ ((HL.out w' (below_to HX0.out hLat)).2.2.2)) ?_
  try simp only [Act.put, List.setIfInBounds_toArray, List.set_cons_zero, List.set_cons_succ, List.getElem_toArray, List.getElem_cons_zero, List.getElem_cons_succ]
  refine Seq.take_lat (i := 51) (v := .bool (q.s == r.s)) rfl (by kernel_rfl) (by kernel_rfl) (by kernel_rfl) (fun _ _ _ h => h) (by rfl) (fun w' hLat => exec_eqU (.tmp 110) (.tmp 112) _ rfl q.s r.s rfl rfl) ?_
  try simp only [Act.put, List.setIfInBounds_toArray, List.set_cons_zero, List.set_cons_succ, List.getElem_toArray, List.getElem_cons_zero, List.getElem_cons_succ]
  refine Seq.take_lat (i := 52) (v := .bool true) rfl (by kernel_rfl) (by kernel_rfl) (by kernel_rfl) (fun _ _ _ h => h) (by rfl) (fun w' hLat => exec_bb (.tmp 106) (.tmp 113) _ rfl (q.s == r.s) rfl rfl) ?_
  try simp only [Act.put, List.setIfInBounds_toArray, List.set_cons_zero, List.set_cons_succ, List.getElem_toArray, List.getElem_cons_zero, List.getElem_cons_succ]
  refine Seq.take_lat (i := 53) (v := ?_) rfl (by kernel_rfl) (by kernel_rfl) (by kernel_rfl) (fun _ _ _ h => h) (by rfl) ?_ ?_
  rotate_left
  · intro w' hLat; change Below _ _ _ at hLat; go_simp <;> with_reducible rfl
  try simp only [Act.put, List.setIfInBounds_toArray, List.set_cons_zero, List.set_cons_succ, List.getElem_toArray, List.getElem_cons_zero, List.getElem_cons_succ]
  refine Seq.take_lat (i := 54) (v := ?_) rfl (by kernel_rfl) (by kernel_rfl) (by kernel_rfl) (fun _ _ _ h => h) (by rfl) ?_ ?_
  rotate_left
  · intro w' hLat; change Below _ _ _ at hLat; go_simp <;> with_reducible rfl
  try simp only [Act.put, List.setIfInBounds_toArray, List.set_cons_zero, List.set_cons_succ, List.getElem_toArray, List.getElem_cons_zero, List.getElem_cons_succ]
  refine wpAnyH_done (by kernel_rfl) ?_ _
  go_wp2
  go_ret
  exact ⟨rfl, below_to HE.out HX0.out⟩
end Go.Proofs.YtlbapcpcabieaaaDoor
