/-
  The walk of InodeBytes: any inode's bytes, and the inode of any bytes, are what the reference says; put it is got, got it is put as it was.
-/
import Derived.Test.YtpdggopkalbbeaaNP
namespace Go.Proofs.Ytpdggopkalbbeaa
set_option linter.unusedVariables false
open Go.RowKit Plain

theorem exec_strT {o : Oper} {ρ : Operand → Value} {w' : World} (x y : Operand) (ty : TypeId) (ho : o.op = .binOp .eql 9 x y ty) (A : List Int) (hA : Byt A) (hx : ρ x = .string (strOfNums A)) (hy : ρ y = .string (strOfNums A)) :
    (execOp ρ o).run Try.prog w' = .ok (.value (.bool true)) w' := by
  have := exec_str x y ty ho A A hA hA hx hy (w' := w')
  simpa using this
/-- What lies there. -/
structure Bst (w x : World) (S X Y T : Nat) (N P M : Nd) (g : Nat) (a : Option Addr) (n : Nat) (L : List Int) : Prop where
  own : Lies x S N
  y : Lies x X P
  z : Lies x Y M
  r : Lies' x T M
  bx : Bytes x (some ⟨g, 0, none⟩) 32 (nb N)
  b : Bytes x a n L
  bel : Below w.heap.size w x
theorem Bst.on {w x x' : World} {S X Y T : Nat} {N P M : Nd} {g : Nat} {a : Option Addr} {n : Nat} {L : List Int} (h : Bst w x S X Y T N P M g a n L) (hb : Below x.heap.size x x') : Bst w x' S X Y T N P M g a n L :=
  ⟨h.own.below hb, h.y.below hb, h.z.below hb, h.r.below hb, h.bx.below hb, h.b.below hb, below_to h.bel hb⟩
set_option maxHeartbeats 1000000 in
theorem bytes_long (N : Nd) (a : Option Addr) (n cap : Nat) (w : World) (h : 200 < n) : Calls Try.prog 3 #[.agg (nc N), .slice a n cap] w fun e w' => e = .returned (.bool true) ∧ Below w.heap.size w w' := by
  have HB : Box (Below w.heap.size w (w.alloc (.cells (nc N) 26))) := ⟨box_below _ _⟩
  have g1 : (200 : Int) < (n : Int) := by omega
  go_enter Try.func3, Try.ntmps3
  go_upto_region 1 with fail
  change Code.wp _ _ _ _ (w.alloc (.cells (nc N) 26))
  generalize w.alloc (.cells (nc N) 26) = w1 at HB ⊢
  go_wp2_with (go_at_call 8; refine Calls.mono (awake_any w1) ?_; rintro e w2 ⟨rfl, hb⟩; have H2 : Box (Below w.heap.size w w2) := ⟨below_to HB.out hb⟩; clear hb)
  go_ret
  exact ⟨rfl, H2.out⟩

set_option maxRecDepth 20000 in
set_option maxHeartbeats 8000000 in
theorem bytes_le_0 (N M : Nd) (a : Option Addr) (n cap : Nat) (L : List Int) (w : World) (HN : Box (OkN N)) (HM : Box (OkN M)) (hB : Bytes w a n L) (hn : n ≤ 200) (hk : N.k ≤ 3) (HL : Box (L = nb M))
    (CX : Box (∀ z p c, Bytes z p 32 (nb N) → Calls Try.prog 10 #[.slice p 32 c] z fun e w' => e = .returned (.tuple #[.agg (nc N), .int .i64 0]) ∧ Below z.heap.size z w'))
    (CZ : Box (∀ z p c, Bytes z p n L → Calls Try.prog 10 #[.slice p n c] z fun e w' => e = .returned (.tuple #[.agg (nc M), .int .i64 0]) ∧ Below z.heap.size z w'))
    (CR : Box (∀ z, Calls Try.prog 11 #[.string (strOfNums L)] z fun e w' => e = .returned (.tuple #[.agg (nc M), .int .i64 0]) ∧ Below z.heap.size z w')) :
    Calls Try.prog 3 #[.agg (nc N), .slice a n cap] w fun e w' => e = .returned (.bool true) ∧ Below w.heap.size w w' := by
  have H1 : Box (Lies (w.alloc (.cells (nc N) 26)) w.heap.size N ∧ Bytes (w.alloc (.cells (nc N) 26)) a n L ∧ Below w.heap.size w (w.alloc (.cells (nc N) 26))) := ⟨lies_new w N, hB.below (box_below _ _), box_below _ _⟩
  have g1 : ¬ (200 : Int) < (n : Int) := by omega
  clear hB hn
  go_enter Try.func3, Try.ntmps3
  go_upto_region 1 with fail
  change Code.wp _ _ _ _ (w.alloc (.cells (nc N) 26))
  generalize w.alloc (.cells (nc N) 26) = w1 at H1 ⊢
  obtain ⟨S, hS⟩ : ∃ S, w.heap.size = S := ⟨_, rfl⟩
  have HS : Box (w.heap.size = S) := ⟨hS⟩
  clear hS
  rw [HS.out]
  rw [HS.out] at H1
  go_upto_region 6 with (go_at_call 8; refine Calls.mono (awake_any w1) ?_; rintro e w2 ⟨rfl, hb⟩; have H2 : Box (Lies w2 S N ∧ Bytes w2 a n L ∧ Below w.heap.size w w2) := ⟨H1.out.1.below hb, H1.out.2.1.below hb, by have := H1.out.2.2; rw [← HS.out] at this; exact below_to this hb⟩; clear hb H1)
  clear g1
  go_upto_region 7 with (first
    | (refine wpList_run rfl _ _ (exec_ldN _ rfl S N rfl H2.out.1) ?_)
    | (go_at_call 9; refine Calls.mono (nput_any N w2 HN.out) ?_; rintro e w3 ⟨g, rfl, hO⟩; have H3 : Box (Lies w3 S N ∧ Bytes w3 a n L ∧ Below w.heap.size w w3 ∧ Bytes w3 (some ⟨g, 0, none⟩) 32 (nb N)) := ⟨H2.out.1.below hO.2.2, H2.out.2.1.below hO.2.2, below_to H2.out.2.2 hO.2.2, hO.bytes (byt_nb HN.out)⟩; clear hO H2))
  go_upto_region 8 with (first
    | (refine wpList_newN w4 N rfl _ _ rfl rfl rfl rfl ?_; intro w5 hz hb; have H5 : Box (Lies w5 S N ∧ Bytes w5 a n L ∧ Below w.heap.size w w5 ∧ Bytes w5 (some ⟨g, 0, none⟩) 32 (nb N) ∧ Lies w5 w4.heap.size N) := ⟨H4.out.1.below hb, H4.out.2.1.below hb, below_to H4.out.2.2.1 hb, H4.out.2.2.2.below hb, hz⟩; clear hz hb H4)
    | (refine wpList_run rfl _ _ (exec_alloc 26 rfl _ zeroN) ?_)
    | (go_at_call 10; refine Calls.mono (CX.out w3 _ _ H3.out.2.2.2) ?_; rintro e w4 ⟨rfl, hb⟩; have H4 : Box (Lies w4 S N ∧ Bytes w4 a n L ∧ Below w.heap.size w w4 ∧ Bytes w4 (some ⟨g, 0, none⟩) 32 (nb N)) := ⟨H3.out.1.below hb, H3.out.2.1.below hb, below_to H3.out.2.2.1 hb, H3.out.2.2.2.below hb⟩; clear hb H3))
  generalize w4.heap.size = X at H5 ⊢
  go_upto_region 9 with (first
    | (refine wpList_newN w6 M rfl _ _ rfl rfl rfl rfl ?_; intro w7 hz hb; have H7 : Box (Lies w7 S N ∧ Bytes w7 a n L ∧ Below w.heap.size w w7 ∧ Bytes w7 (some ⟨g, 0, none⟩) 32 (nb N) ∧ Lies w7 X N ∧ Lies w7 w6.heap.size M) := ⟨H6.out.1.below hb, H6.out.2.1.below hb, below_to H6.out.2.2.1 hb, H6.out.2.2.2.1.below hb, H6.out.2.2.2.2.below hb, hz⟩; clear hz hb H6)
    | (refine wpList_run rfl _ _ (exec_alloc 26 rfl _ zeroN) ?_)
    | (go_at_call 10; refine Calls.mono (CZ.out w5 _ _ H5.out.2.1) ?_; rintro e w6 ⟨rfl, hb⟩; have H6 : Box (Lies w6 S N ∧ Bytes w6 a n L ∧ Below w.heap.size w w6 ∧ Bytes w6 (some ⟨g, 0, none⟩) 32 (nb N) ∧ Lies w6 X N) := ⟨H5.out.1.below hb, H5.out.2.1.below hb, below_to H5.out.2.2.1 hb, H5.out.2.2.2.1.below hb, H5.out.2.2.2.2.below hb⟩; clear hb H5))
  generalize w6.heap.size = Y at H7 ⊢
  go_upto_region 10 with (first
    | (refine wpList_newR w8 M rfl _ _ rfl rfl rfl rfl ?_; intro w9 hz hb; have H9 : Box (Bst w w9 S X Y w8.heap.size N N M g a n L) := ⟨⟨H8.out.1.below hb, H8.out.2.2.2.2.1.below hb, H8.out.2.2.2.2.2.below hb, hz, H8.out.2.2.2.1.below hb, H8.out.2.1.below hb, below_to H8.out.2.2.1 hb⟩⟩; clear hz hb H8)
    | (refine wpList_run rfl _ _ (exec_alloc 35 rfl _ zeroR) ?_)
    | (refine wpList_run rfl _ _ (exec_conv (.tmp 32) rfl rfl H7.out.2.1) ?_)
    | (go_at_call 11; refine Calls.mono (CR.out w7) ?_; rintro e w8 ⟨rfl, hb⟩; have H8 : Box (Lies w8 S N ∧ Bytes w8 a n L ∧ Below w.heap.size w w8 ∧ Bytes w8 (some ⟨g, 0, none⟩) 32 (nb N) ∧ Lies w8 X N ∧ Lies w8 Y M) := ⟨H7.out.1.below hb, H7.out.2.1.below hb, below_to H7.out.2.2.1 hb, H7.out.2.2.2.1.below hb, H7.out.2.2.2.2.1.below hb, H7.out.2.2.2.2.2.below hb⟩; clear hb H7))
  generalize w8.heap.size = T at H9 ⊢
  clear CX CZ CR
  have HQ : Box (∀ x, Below w9.heap.size w9 x → Bst w x S X Y T N N M g a n L) := ⟨fun x hx => H9.out.on hx⟩
  refine Seq.begin_any (by kernel_rfl) (fun wd hd => ?_)
  have D0 : Box (Below w9.heap.size w9 wd) := ⟨hd⟩
  clear hd
  refine Seq.take_lat (i := 0) (v := ?_) rfl (by kernel_rfl) (by kernel_rfl) (by kernel_rfl) (fun _ _ _ h => h) (by rfl) ?_ ?_
  rotate_left
  · intro w' hLat; change Below _ _ _ at hLat; go_simp <;> with_reducible rfl
  try simp only [Act.put, List.setIfInBounds_toArray, List.set_cons_zero, List.set_cons_succ, List.getElem_toArray, List.getElem_cons_zero]
  refine Seq.take_lat (i := 1) (v := .string (strOfNums (nb N))) rfl (by kernel_rfl) (by kernel_rfl) (by kernel_rfl) (fun _ _ _ h => h) (by rfl) (fun w' hLat => exec_conv (.tmp 37) rfl rfl (HQ.out _ (below_to D0.out hLat)).bx) ?_
  try simp only [Act.put, List.setIfInBounds_toArray, List.set_cons_zero, List.set_cons_succ, List.getElem_toArray, List.getElem_cons_zero, List.getElem_cons_succ]
  refine Seq.take_lat (i := 2) (v := .agg (nc N)) rfl (by kernel_rfl) (by kernel_rfl) (by kernel_rfl) (fun _ _ _ h => h) (by rfl) (fun w' hLat => exec_ldN _ rfl S N rfl (HQ.out _ (below_to D0.out hLat)).own) ?_
  try simp only [Act.put, List.setIfInBounds_toArray, List.set_cons_zero, List.set_cons_succ, List.getElem_toArray, List.getElem_cons_zero, List.getElem_cons_succ]
  refine Seq.only_lat (i := 3) rfl (by kernel_rfl) (fun KK hK => ?_)
  rw [if_pos (by rfl)]
  go_simp
  refine Calls.mono (model_any N wd) ?_
  rintro e0 w101 ⟨rfl, hb⟩
  have D1 : Box (Below w9.heap.size w9 w101) := ⟨below_to D0.out hb⟩
  refine hK.out _ _ hb ?_
  clear hb
  clear hK KK
  try simp only [Act.put, List.setIfInBounds_toArray, List.set_cons_zero, List.set_cons_succ, List.getElem_toArray, List.getElem_cons_zero, List.getElem_cons_succ]
  refine Seq.only_lat (i := 4) rfl (by kernel_rfl) (fun KK hK => ?_)
  rw [if_pos (by rfl)]
  go_simp
  refine Calls.mono (rnput_any N w101 HN.out) ?_
  rintro e0 w102 ⟨rfl, hb⟩
  have D2 : Box (Below w9.heap.size w9 w102) := ⟨below_to D1.out hb⟩
  refine hK.out _ _ hb ?_
  clear hb
  clear hK KK
  try simp only [Act.put, List.setIfInBounds_toArray, List.set_cons_zero, List.set_cons_succ, List.getElem_toArray, List.getElem_cons_zero, List.getElem_cons_succ]
  refine Seq.take_lat (i := 5) (v := .bool false) rfl (by kernel_rfl) (by kernel_rfl) (by kernel_rfl) (fun _ _ _ h => h) (by rfl) (fun w' hLat => exec_strF _ _ _ rfl (nb N) (byt_nb HN.out) rfl rfl) ?_
  try simp only [Act.put, List.setIfInBounds_toArray, List.set_cons_zero, List.set_cons_succ, List.getElem_toArray, List.getElem_cons_zero, List.getElem_cons_succ]
  refine Seq.take_lat (i := 6) (v := ?_) rfl (by kernel_rfl) (by kernel_rfl) (by kernel_rfl) (fun _ _ _ h => h) (by rfl) ?_ ?_
  rotate_left
  · intro w' hLat; change Below _ _ _ at hLat; go_simp <;> with_reducible rfl
  try simp only [Act.put, List.setIfInBounds_toArray, List.set_cons_zero, List.set_cons_succ, List.getElem_toArray, List.getElem_cons_zero, List.getElem_cons_succ]
  refine Seq.take_lat (i := 7) (v := .agg (nc M)) rfl (by kernel_rfl) (by kernel_rfl) (by kernel_rfl) (fun _ _ _ h => h) (by rfl) (fun w' hLat => exec_ldN _ rfl Y M rfl (HQ.out _ (below_to D2.out hLat)).z) ?_
  try simp only [Act.put, List.setIfInBounds_toArray, List.set_cons_zero, List.set_cons_succ, List.getElem_toArray, List.getElem_cons_zero, List.getElem_cons_succ]
  refine Seq.take_lat (i := 9) (v := .agg (nc M)) rfl (by kernel_rfl) (by kernel_rfl) (by kernel_rfl) (fun _ _ _ h => h) (by rfl) (fun w' hLat => exec_ldR _ rfl T M rfl (HQ.out _ (below_to D2.out hLat)).r) ?_
  try simp only [Act.put, List.setIfInBounds_toArray, List.set_cons_zero, List.set_cons_succ, List.getElem_toArray, List.getElem_cons_zero, List.getElem_cons_succ]
  refine Seq.only_lat (i := 8) rfl (by kernel_rfl) (fun KK hK => ?_)
  rw [if_pos (by rfl)]
  go_simp
  refine Calls.mono (model_any M w102) ?_
  rintro e0 w103 ⟨rfl, hb⟩
  have D3 : Box (Below w9.heap.size w9 w103) := ⟨below_to D2.out hb⟩
  refine hK.out _ _ hb ?_
  clear hb
  clear hK KK
  try simp only [Act.put, List.setIfInBounds_toArray, List.set_cons_zero, List.set_cons_succ, List.getElem_toArray, List.getElem_cons_zero, List.getElem_cons_succ]
  refine Seq.take_lat (i := 10) (v := .bool false) rfl (by kernel_rfl) (by kernel_rfl) (by kernel_rfl) (fun _ _ _ h => h) (by rfl) (fun w' hLat => exec_neR _ _ _ rfl M rfl rfl) ?_
  try simp only [Act.put, List.setIfInBounds_toArray, List.set_cons_zero, List.set_cons_succ, List.getElem_toArray, List.getElem_cons_zero, List.getElem_cons_succ]
  refine Seq.take_lat (i := 11) (v := ?_) rfl (by kernel_rfl) (by kernel_rfl) (by kernel_rfl) (fun _ _ _ h => h) (by rfl) ?_ ?_
  rotate_left
  · intro w' hLat; change Below _ _ _ at hLat; go_simp <;> with_reducible rfl
  try simp only [Act.put, List.setIfInBounds_toArray, List.set_cons_zero, List.set_cons_succ, List.getElem_toArray, List.getElem_cons_zero, List.getElem_cons_succ]
  refine Seq.take_lat (i := 12) (v := ?_) rfl (by kernel_rfl) (by kernel_rfl) (by kernel_rfl) (fun _ _ _ h => h) (by rfl) ?_ ?_
  rotate_left
  · intro w' hLat; change Below _ _ _ at hLat; go_simp <;> with_reducible rfl
  try simp only [Act.put, List.setIfInBounds_toArray, List.set_cons_zero, List.set_cons_succ, List.getElem_toArray, List.getElem_cons_zero, List.getElem_cons_succ]
  refine Seq.take_lat (i := 13) (v := ?_) rfl (by kernel_rfl) (by kernel_rfl) (by kernel_rfl) (fun _ _ _ h => h) (by rfl) ?_ ?_
  rotate_left
  · intro w' hLat; change Below _ _ _ at hLat; go_simp <;> with_reducible rfl
  try simp only [Act.put, List.setIfInBounds_toArray, List.set_cons_zero, List.set_cons_succ, List.getElem_toArray, List.getElem_cons_zero, List.getElem_cons_succ]
  refine Seq.take_lat (i := 14) (v := ?_) rfl (by kernel_rfl) (by kernel_rfl) (by kernel_rfl) (fun _ _ _ h => h) (by rfl) ?_ ?_
  rotate_left
  · intro w' hLat; change Below _ _ _ at hLat; go_simp <;> with_reducible rfl
  try simp only [Act.put, List.setIfInBounds_toArray, List.set_cons_zero, List.set_cons_succ, List.getElem_toArray, List.getElem_cons_zero, List.getElem_cons_succ]
  refine Seq.take_lat (i := 15) (v := ?_) rfl (by kernel_rfl) (by kernel_rfl) (by kernel_rfl) (fun _ _ _ h => h) (by rfl) ?_ ?_
  rotate_left
  · intro w' hLat; change Below _ _ _ at hLat; go_simp <;> with_reducible rfl
  try simp only [Act.put, List.setIfInBounds_toArray, List.set_cons_zero, List.set_cons_succ, List.getElem_toArray, List.getElem_cons_zero, List.getElem_cons_succ]
  refine Seq.take_lat (i := 16) (v := ?_) rfl (by kernel_rfl) (by kernel_rfl) (by kernel_rfl) (fun _ _ _ h => h) (by rfl) ?_ ?_
  rotate_left
  · intro w' hLat; change Below _ _ _ at hLat; go_simp <;> with_reducible rfl
  try simp only [Act.put, List.setIfInBounds_toArray, List.set_cons_zero, List.set_cons_succ, List.getElem_toArray, List.getElem_cons_zero, List.getElem_cons_succ]
  refine wpAnyH_done (by kernel_rfl) ?_ _
  have HZ : Box (Bst w w103 S X Y T N N M g a n L) := ⟨HQ.out _ D3.out⟩
  clear HQ H9
  have k0 : w103.cell? ⟨S, 0, none⟩ = some (.int .u8 N.k) := HZ.out.own.cell 0
  have hk2 : ¬ 3 < N.k := by omega
  go_upto_region 14 with (first
    | (refine wpList_runG rfl _ _ (exec_ldN _ rfl X N rfl HZ.out.y) ?_)
    | (refine wpList_runG rfl _ _ (exec_ldN _ rfl S N rfl HZ.out.own) ?_)
    | (refine wpList_runG rfl _ _ (exec_neN _ _ _ rfl N rfl rfl) ?_))
  clear k0 hk hk2 D0 D1 D2 D3
  obtain ⟨w9, h9⟩ : ∃ x, x = w103 := ⟨_, rfl⟩
  subst h9
  have HQ : Box (∀ x, Below w9.heap.size w9 x → Bst w x S X Y T N N M g a n L) := ⟨fun x hx => HZ.out.on hx⟩
  refine Seq.begin_any (by kernel_rfl) (fun wd hd => ?_)
  have E0 : Box (Below w9.heap.size w9 wd) := ⟨hd⟩
  clear hd
  refine Seq.take_lat (i := 0) (v := ?_) rfl (by kernel_rfl) (by kernel_rfl) (by kernel_rfl) (fun _ _ _ h => h) (by rfl) ?_ ?_
  rotate_left
  · intro w' hLat; change Below _ _ _ at hLat; go_simp <;> with_reducible rfl
  try simp only [Act.put, List.setIfInBounds_toArray, List.set_cons_zero, List.set_cons_succ, List.getElem_toArray, List.getElem_cons_zero]
  refine Seq.take_lat (i := 1) (v := ?_) rfl (by kernel_rfl) (by kernel_rfl) (by kernel_rfl) (fun _ _ _ h => h) (by rfl) ?_ ?_
  rotate_left
  · intro w' hLat; change Below _ _ _ at hLat; go_simp <;> with_reducible rfl
  try simp only [Act.put, List.setIfInBounds_toArray, List.set_cons_zero, List.set_cons_succ, List.getElem_toArray, List.getElem_cons_zero, List.getElem_cons_succ]
  refine Seq.take_lat (i := 2) (v := ?_) rfl (by kernel_rfl) (by kernel_rfl) (by kernel_rfl) (fun _ _ _ h => h) (by rfl) ?_ ?_
  rotate_left
  · intro w' hLat; change Below _ _ _ at hLat; go_simp <;> with_reducible rfl
  try simp only [Act.put, List.setIfInBounds_toArray, List.set_cons_zero, List.set_cons_succ, List.getElem_toArray, List.getElem_cons_zero, List.getElem_cons_succ]
  refine Seq.take_lat (i := 3) (v := .agg (nc M)) rfl (by kernel_rfl) (by kernel_rfl) (by kernel_rfl) (fun _ _ _ h => h) (by rfl) (fun w' hLat => exec_ldN _ rfl Y M rfl (HQ.out _ (below_to E0.out hLat)).z) ?_
  try simp only [Act.put, List.setIfInBounds_toArray, List.set_cons_zero, List.set_cons_succ, List.getElem_toArray, List.getElem_cons_zero, List.getElem_cons_succ]
  refine Seq.take_lat (i := 6) (v := ?_) rfl (by kernel_rfl) (by kernel_rfl) (by kernel_rfl) (fun _ _ _ h => h) (by rfl) ?_ ?_
  rotate_left
  · intro w' hLat; change Below _ _ _ at hLat; go_simp <;> with_reducible rfl
  try simp only [Act.put, List.setIfInBounds_toArray, List.set_cons_zero, List.set_cons_succ, List.getElem_toArray, List.getElem_cons_zero, List.getElem_cons_succ]
  refine Seq.take_lat (i := 7) (v := .string (strOfNums L)) rfl (by kernel_rfl) (by kernel_rfl) (by kernel_rfl) (fun _ _ _ h => h) (by rfl) (fun w' hLat => exec_conv (.tmp 81) rfl rfl (HQ.out _ (below_to E0.out hLat)).b) ?_
  try simp only [Act.put, List.setIfInBounds_toArray, List.set_cons_zero, List.set_cons_succ, List.getElem_toArray, List.getElem_cons_zero, List.getElem_cons_succ]
  refine Seq.only_lat (i := 4) rfl (by kernel_rfl) (fun KK hK => ?_)
  rw [if_pos (by rfl)]
  go_simp
  refine Calls.mono (nput_any M wd HM.out) ?_
  rintro e0 w141 ⟨g14, rfl, hO⟩
  have hb := hO.2.2
  have E1 : Box (Below w9.heap.size w9 w141) := ⟨below_to E0.out hb⟩
  have HG : Box (Bytes w141 (some ⟨g14, 0, none⟩) 32 (nb M)) := ⟨hO.bytes (byt_nb HM.out)⟩
  clear hO
  refine hK.out _ _ hb ?_
  clear hb
  clear hK KK
  try simp only [Act.put, List.setIfInBounds_toArray, List.set_cons_zero, List.set_cons_succ, List.getElem_toArray, List.getElem_cons_zero, List.getElem_cons_succ]
  refine Seq.take_lat (i := 5) (v := .string (strOfNums (nb M))) rfl (by kernel_rfl) (by kernel_rfl) (by kernel_rfl) (fun _ _ _ h => h) (by rfl) (fun w' hLat => exec_conv (.tmp 79) rfl rfl (HG.out.below hLat)) ?_
  try simp only [Act.put, List.setIfInBounds_toArray, List.set_cons_zero, List.set_cons_succ, List.getElem_toArray, List.getElem_cons_zero, List.getElem_cons_succ]
  refine Seq.take_lat (i := 8) (v := .bool true) rfl (by kernel_rfl) (by kernel_rfl) (by kernel_rfl) (fun _ _ _ h => h) (by rfl) (fun w' hLat => exec_strT _ _ _ rfl (nb M) (byt_nb HM.out) rfl (by rw [← HL.out]; rfl)) ?_
  try simp only [Act.put, List.setIfInBounds_toArray, List.set_cons_zero, List.set_cons_succ, List.getElem_toArray, List.getElem_cons_zero, List.getElem_cons_succ]
  refine Seq.take_lat (i := 9) (v := ?_) rfl (by kernel_rfl) (by kernel_rfl) (by kernel_rfl) (fun _ _ _ h => h) (by rfl) ?_ ?_
  rotate_left
  · intro w' hLat; change Below _ _ _ at hLat; go_simp <;> with_reducible rfl
  try simp only [Act.put, List.setIfInBounds_toArray, List.set_cons_zero, List.set_cons_succ, List.getElem_toArray, List.getElem_cons_zero, List.getElem_cons_succ]
  refine Seq.take_lat (i := 10) (v := ?_) rfl (by kernel_rfl) (by kernel_rfl) (by kernel_rfl) (fun _ _ _ h => h) (by rfl) ?_ ?_
  rotate_left
  · intro w' hLat; change Below _ _ _ at hLat; go_simp <;> with_reducible rfl
  try simp only [Act.put, List.setIfInBounds_toArray, List.set_cons_zero, List.set_cons_succ, List.getElem_toArray, List.getElem_cons_zero, List.getElem_cons_succ]
  refine wpAnyH_done (by kernel_rfl) ?_ _
  have HF : Box (Below w.heap.size w w141) := ⟨(HQ.out _ E1.out).bel⟩
  go_wp2
  go_ret
  exact ⟨rfl, HF.out⟩

set_option maxRecDepth 20000 in
set_option maxHeartbeats 8000000 in
theorem bytes_le_11 (N M : Nd) (a : Option Addr) (n cap : Nat) (L : List Int) (w : World) (HN : Box (OkN N)) (HM : Box (OkN M)) (hB : Bytes w a n L) (hn : n ≤ 200) (hk : N.k ≤ 3) 
    (CX : Box (∀ z p c, Bytes z p 32 (nb N) → Calls Try.prog 10 #[.slice p 32 c] z fun e w' => e = .returned (.tuple #[.agg (nc N), .int .i64 0]) ∧ Below z.heap.size z w'))
    (CZ : Box (∀ z p c, Bytes z p n L → Calls Try.prog 10 #[.slice p n c] z fun e w' => e = .returned (.tuple #[.agg (nc M), .int .i64 11]) ∧ Below z.heap.size z w'))
    (CR : Box (∀ z, Calls Try.prog 11 #[.string (strOfNums L)] z fun e w' => e = .returned (.tuple #[.agg (nc M), .int .i64 11]) ∧ Below z.heap.size z w')) :
    Calls Try.prog 3 #[.agg (nc N), .slice a n cap] w fun e w' => e = .returned (.bool true) ∧ Below w.heap.size w w' := by
  have H1 : Box (Lies (w.alloc (.cells (nc N) 26)) w.heap.size N ∧ Bytes (w.alloc (.cells (nc N) 26)) a n L ∧ Below w.heap.size w (w.alloc (.cells (nc N) 26))) := ⟨lies_new w N, hB.below (box_below _ _), box_below _ _⟩
  have g1 : ¬ (200 : Int) < (n : Int) := by omega
  clear hB hn
  go_enter Try.func3, Try.ntmps3
  go_upto_region 1 with fail
  change Code.wp _ _ _ _ (w.alloc (.cells (nc N) 26))
  generalize w.alloc (.cells (nc N) 26) = w1 at H1 ⊢
  obtain ⟨S, hS⟩ : ∃ S, w.heap.size = S := ⟨_, rfl⟩
  have HS : Box (w.heap.size = S) := ⟨hS⟩
  clear hS
  rw [HS.out]
  rw [HS.out] at H1
  go_upto_region 6 with (go_at_call 8; refine Calls.mono (awake_any w1) ?_; rintro e w2 ⟨rfl, hb⟩; have H2 : Box (Lies w2 S N ∧ Bytes w2 a n L ∧ Below w.heap.size w w2) := ⟨H1.out.1.below hb, H1.out.2.1.below hb, by have := H1.out.2.2; rw [← HS.out] at this; exact below_to this hb⟩; clear hb H1)
  clear g1
  go_upto_region 7 with (first
    | (refine wpList_run rfl _ _ (exec_ldN _ rfl S N rfl H2.out.1) ?_)
    | (go_at_call 9; refine Calls.mono (nput_any N w2 HN.out) ?_; rintro e w3 ⟨g, rfl, hO⟩; have H3 : Box (Lies w3 S N ∧ Bytes w3 a n L ∧ Below w.heap.size w w3 ∧ Bytes w3 (some ⟨g, 0, none⟩) 32 (nb N)) := ⟨H2.out.1.below hO.2.2, H2.out.2.1.below hO.2.2, below_to H2.out.2.2 hO.2.2, hO.bytes (byt_nb HN.out)⟩; clear hO H2))
  go_upto_region 8 with (first
    | (refine wpList_newN w4 N rfl _ _ rfl rfl rfl rfl ?_; intro w5 hz hb; have H5 : Box (Lies w5 S N ∧ Bytes w5 a n L ∧ Below w.heap.size w w5 ∧ Bytes w5 (some ⟨g, 0, none⟩) 32 (nb N) ∧ Lies w5 w4.heap.size N) := ⟨H4.out.1.below hb, H4.out.2.1.below hb, below_to H4.out.2.2.1 hb, H4.out.2.2.2.below hb, hz⟩; clear hz hb H4)
    | (refine wpList_run rfl _ _ (exec_alloc 26 rfl _ zeroN) ?_)
    | (go_at_call 10; refine Calls.mono (CX.out w3 _ _ H3.out.2.2.2) ?_; rintro e w4 ⟨rfl, hb⟩; have H4 : Box (Lies w4 S N ∧ Bytes w4 a n L ∧ Below w.heap.size w w4 ∧ Bytes w4 (some ⟨g, 0, none⟩) 32 (nb N)) := ⟨H3.out.1.below hb, H3.out.2.1.below hb, below_to H3.out.2.2.1 hb, H3.out.2.2.2.below hb⟩; clear hb H3))
  generalize w4.heap.size = X at H5 ⊢
  go_upto_region 9 with (first
    | (refine wpList_newN w6 M rfl _ _ rfl rfl rfl rfl ?_; intro w7 hz hb; have H7 : Box (Lies w7 S N ∧ Bytes w7 a n L ∧ Below w.heap.size w w7 ∧ Bytes w7 (some ⟨g, 0, none⟩) 32 (nb N) ∧ Lies w7 X N ∧ Lies w7 w6.heap.size M) := ⟨H6.out.1.below hb, H6.out.2.1.below hb, below_to H6.out.2.2.1 hb, H6.out.2.2.2.1.below hb, H6.out.2.2.2.2.below hb, hz⟩; clear hz hb H6)
    | (refine wpList_run rfl _ _ (exec_alloc 26 rfl _ zeroN) ?_)
    | (go_at_call 10; refine Calls.mono (CZ.out w5 _ _ H5.out.2.1) ?_; rintro e w6 ⟨rfl, hb⟩; have H6 : Box (Lies w6 S N ∧ Bytes w6 a n L ∧ Below w.heap.size w w6 ∧ Bytes w6 (some ⟨g, 0, none⟩) 32 (nb N) ∧ Lies w6 X N) := ⟨H5.out.1.below hb, H5.out.2.1.below hb, below_to H5.out.2.2.1 hb, H5.out.2.2.2.1.below hb, H5.out.2.2.2.2.below hb⟩; clear hb H5))
  generalize w6.heap.size = Y at H7 ⊢
  go_upto_region 10 with (first
    | (refine wpList_newR w8 M rfl _ _ rfl rfl rfl rfl ?_; intro w9 hz hb; have H9 : Box (Bst w w9 S X Y w8.heap.size N N M g a n L) := ⟨⟨H8.out.1.below hb, H8.out.2.2.2.2.1.below hb, H8.out.2.2.2.2.2.below hb, hz, H8.out.2.2.2.1.below hb, H8.out.2.1.below hb, below_to H8.out.2.2.1 hb⟩⟩; clear hz hb H8)
    | (refine wpList_run rfl _ _ (exec_alloc 35 rfl _ zeroR) ?_)
    | (refine wpList_run rfl _ _ (exec_conv (.tmp 32) rfl rfl H7.out.2.1) ?_)
    | (go_at_call 11; refine Calls.mono (CR.out w7) ?_; rintro e w8 ⟨rfl, hb⟩; have H8 : Box (Lies w8 S N ∧ Bytes w8 a n L ∧ Below w.heap.size w w8 ∧ Bytes w8 (some ⟨g, 0, none⟩) 32 (nb N) ∧ Lies w8 X N ∧ Lies w8 Y M) := ⟨H7.out.1.below hb, H7.out.2.1.below hb, below_to H7.out.2.2.1 hb, H7.out.2.2.2.1.below hb, H7.out.2.2.2.2.1.below hb, H7.out.2.2.2.2.2.below hb⟩; clear hb H7))
  generalize w8.heap.size = T at H9 ⊢
  clear CX CZ CR
  have HQ : Box (∀ x, Below w9.heap.size w9 x → Bst w x S X Y T N N M g a n L) := ⟨fun x hx => H9.out.on hx⟩
  refine Seq.begin_any (by kernel_rfl) (fun wd hd => ?_)
  have D0 : Box (Below w9.heap.size w9 wd) := ⟨hd⟩
  clear hd
  refine Seq.take_lat (i := 0) (v := ?_) rfl (by kernel_rfl) (by kernel_rfl) (by kernel_rfl) (fun _ _ _ h => h) (by rfl) ?_ ?_
  rotate_left
  · intro w' hLat; change Below _ _ _ at hLat; go_simp <;> with_reducible rfl
  try simp only [Act.put, List.setIfInBounds_toArray, List.set_cons_zero, List.set_cons_succ, List.getElem_toArray, List.getElem_cons_zero]
  refine Seq.take_lat (i := 1) (v := .string (strOfNums (nb N))) rfl (by kernel_rfl) (by kernel_rfl) (by kernel_rfl) (fun _ _ _ h => h) (by rfl) (fun w' hLat => exec_conv (.tmp 37) rfl rfl (HQ.out _ (below_to D0.out hLat)).bx) ?_
  try simp only [Act.put, List.setIfInBounds_toArray, List.set_cons_zero, List.set_cons_succ, List.getElem_toArray, List.getElem_cons_zero, List.getElem_cons_succ]
  refine Seq.take_lat (i := 2) (v := .agg (nc N)) rfl (by kernel_rfl) (by kernel_rfl) (by kernel_rfl) (fun _ _ _ h => h) (by rfl) (fun w' hLat => exec_ldN _ rfl S N rfl (HQ.out _ (below_to D0.out hLat)).own) ?_
  try simp only [Act.put, List.setIfInBounds_toArray, List.set_cons_zero, List.set_cons_succ, List.getElem_toArray, List.getElem_cons_zero, List.getElem_cons_succ]
  refine Seq.only_lat (i := 3) rfl (by kernel_rfl) (fun KK hK => ?_)
  rw [if_pos (by rfl)]
  go_simp
  refine Calls.mono (model_any N wd) ?_
  rintro e0 w101 ⟨rfl, hb⟩
  have D1 : Box (Below w9.heap.size w9 w101) := ⟨below_to D0.out hb⟩
  refine hK.out _ _ hb ?_
  clear hb
  clear hK KK
  try simp only [Act.put, List.setIfInBounds_toArray, List.set_cons_zero, List.set_cons_succ, List.getElem_toArray, List.getElem_cons_zero, List.getElem_cons_succ]
  refine Seq.only_lat (i := 4) rfl (by kernel_rfl) (fun KK hK => ?_)
  rw [if_pos (by rfl)]
  go_simp
  refine Calls.mono (rnput_any N w101 HN.out) ?_
  rintro e0 w102 ⟨rfl, hb⟩
  have D2 : Box (Below w9.heap.size w9 w102) := ⟨below_to D1.out hb⟩
  refine hK.out _ _ hb ?_
  clear hb
  clear hK KK
  try simp only [Act.put, List.setIfInBounds_toArray, List.set_cons_zero, List.set_cons_succ, List.getElem_toArray, List.getElem_cons_zero, List.getElem_cons_succ]
  refine Seq.take_lat (i := 5) (v := .bool false) rfl (by kernel_rfl) (by kernel_rfl) (by kernel_rfl) (fun _ _ _ h => h) (by rfl) (fun w' hLat => exec_strF _ _ _ rfl (nb N) (byt_nb HN.out) rfl rfl) ?_
  try simp only [Act.put, List.setIfInBounds_toArray, List.set_cons_zero, List.set_cons_succ, List.getElem_toArray, List.getElem_cons_zero, List.getElem_cons_succ]
  refine Seq.take_lat (i := 6) (v := ?_) rfl (by kernel_rfl) (by kernel_rfl) (by kernel_rfl) (fun _ _ _ h => h) (by rfl) ?_ ?_
  rotate_left
  · intro w' hLat; change Below _ _ _ at hLat; go_simp <;> with_reducible rfl
  try simp only [Act.put, List.setIfInBounds_toArray, List.set_cons_zero, List.set_cons_succ, List.getElem_toArray, List.getElem_cons_zero, List.getElem_cons_succ]
  refine Seq.take_lat (i := 7) (v := .agg (nc M)) rfl (by kernel_rfl) (by kernel_rfl) (by kernel_rfl) (fun _ _ _ h => h) (by rfl) (fun w' hLat => exec_ldN _ rfl Y M rfl (HQ.out _ (below_to D2.out hLat)).z) ?_
  try simp only [Act.put, List.setIfInBounds_toArray, List.set_cons_zero, List.set_cons_succ, List.getElem_toArray, List.getElem_cons_zero, List.getElem_cons_succ]
  refine Seq.take_lat (i := 9) (v := .agg (nc M)) rfl (by kernel_rfl) (by kernel_rfl) (by kernel_rfl) (fun _ _ _ h => h) (by rfl) (fun w' hLat => exec_ldR _ rfl T M rfl (HQ.out _ (below_to D2.out hLat)).r) ?_
  try simp only [Act.put, List.setIfInBounds_toArray, List.set_cons_zero, List.set_cons_succ, List.getElem_toArray, List.getElem_cons_zero, List.getElem_cons_succ]
  refine Seq.only_lat (i := 8) rfl (by kernel_rfl) (fun KK hK => ?_)
  rw [if_pos (by rfl)]
  go_simp
  refine Calls.mono (model_any M w102) ?_
  rintro e0 w103 ⟨rfl, hb⟩
  have D3 : Box (Below w9.heap.size w9 w103) := ⟨below_to D2.out hb⟩
  refine hK.out _ _ hb ?_
  clear hb
  clear hK KK
  try simp only [Act.put, List.setIfInBounds_toArray, List.set_cons_zero, List.set_cons_succ, List.getElem_toArray, List.getElem_cons_zero, List.getElem_cons_succ]
  refine Seq.take_lat (i := 10) (v := .bool false) rfl (by kernel_rfl) (by kernel_rfl) (by kernel_rfl) (fun _ _ _ h => h) (by rfl) (fun w' hLat => exec_neR _ _ _ rfl M rfl rfl) ?_
  try simp only [Act.put, List.setIfInBounds_toArray, List.set_cons_zero, List.set_cons_succ, List.getElem_toArray, List.getElem_cons_zero, List.getElem_cons_succ]
  refine Seq.take_lat (i := 11) (v := ?_) rfl (by kernel_rfl) (by kernel_rfl) (by kernel_rfl) (fun _ _ _ h => h) (by rfl) ?_ ?_
  rotate_left
  · intro w' hLat; change Below _ _ _ at hLat; go_simp <;> with_reducible rfl
  try simp only [Act.put, List.setIfInBounds_toArray, List.set_cons_zero, List.set_cons_succ, List.getElem_toArray, List.getElem_cons_zero, List.getElem_cons_succ]
  refine Seq.take_lat (i := 12) (v := ?_) rfl (by kernel_rfl) (by kernel_rfl) (by kernel_rfl) (fun _ _ _ h => h) (by rfl) ?_ ?_
  rotate_left
  · intro w' hLat; change Below _ _ _ at hLat; go_simp <;> with_reducible rfl
  try simp only [Act.put, List.setIfInBounds_toArray, List.set_cons_zero, List.set_cons_succ, List.getElem_toArray, List.getElem_cons_zero, List.getElem_cons_succ]
  refine Seq.take_lat (i := 13) (v := ?_) rfl (by kernel_rfl) (by kernel_rfl) (by kernel_rfl) (fun _ _ _ h => h) (by rfl) ?_ ?_
  rotate_left
  · intro w' hLat; change Below _ _ _ at hLat; go_simp <;> with_reducible rfl
  try simp only [Act.put, List.setIfInBounds_toArray, List.set_cons_zero, List.set_cons_succ, List.getElem_toArray, List.getElem_cons_zero, List.getElem_cons_succ]
  refine Seq.take_lat (i := 14) (v := ?_) rfl (by kernel_rfl) (by kernel_rfl) (by kernel_rfl) (fun _ _ _ h => h) (by rfl) ?_ ?_
  rotate_left
  · intro w' hLat; change Below _ _ _ at hLat; go_simp <;> with_reducible rfl
  try simp only [Act.put, List.setIfInBounds_toArray, List.set_cons_zero, List.set_cons_succ, List.getElem_toArray, List.getElem_cons_zero, List.getElem_cons_succ]
  refine Seq.take_lat (i := 15) (v := ?_) rfl (by kernel_rfl) (by kernel_rfl) (by kernel_rfl) (fun _ _ _ h => h) (by rfl) ?_ ?_
  rotate_left
  · intro w' hLat; change Below _ _ _ at hLat; go_simp <;> with_reducible rfl
  try simp only [Act.put, List.setIfInBounds_toArray, List.set_cons_zero, List.set_cons_succ, List.getElem_toArray, List.getElem_cons_zero, List.getElem_cons_succ]
  refine Seq.take_lat (i := 16) (v := ?_) rfl (by kernel_rfl) (by kernel_rfl) (by kernel_rfl) (fun _ _ _ h => h) (by rfl) ?_ ?_
  rotate_left
  · intro w' hLat; change Below _ _ _ at hLat; go_simp <;> with_reducible rfl
  try simp only [Act.put, List.setIfInBounds_toArray, List.set_cons_zero, List.set_cons_succ, List.getElem_toArray, List.getElem_cons_zero, List.getElem_cons_succ]
  refine wpAnyH_done (by kernel_rfl) ?_ _
  have HZ : Box (Bst w w103 S X Y T N N M g a n L) := ⟨HQ.out _ D3.out⟩
  clear HQ H9
  have k0 : w103.cell? ⟨S, 0, none⟩ = some (.int .u8 N.k) := HZ.out.own.cell 0
  have hk2 : ¬ 3 < N.k := by omega
  go_upto_region 14 with (first
    | (refine wpList_runG rfl _ _ (exec_ldN _ rfl X N rfl HZ.out.y) ?_)
    | (refine wpList_runG rfl _ _ (exec_ldN _ rfl S N rfl HZ.out.own) ?_)
    | (refine wpList_runG rfl _ _ (exec_neN _ _ _ rfl N rfl rfl) ?_))
  clear k0 hk hk2 D0 D1 D2 D3
  obtain ⟨w9, h9⟩ : ∃ x, x = w103 := ⟨_, rfl⟩
  subst h9
  have HQ : Box (∀ x, Below w9.heap.size w9 x → Bst w x S X Y T N N M g a n L) := ⟨fun x hx => HZ.out.on hx⟩
  refine Seq.begin_any (by kernel_rfl) (fun wd hd => ?_)
  have E0 : Box (Below w9.heap.size w9 wd) := ⟨hd⟩
  clear hd
  refine Seq.take_lat (i := 0) (v := ?_) rfl (by kernel_rfl) (by kernel_rfl) (by kernel_rfl) (fun _ _ _ h => h) (by rfl) ?_ ?_
  rotate_left
  · intro w' hLat; change Below _ _ _ at hLat; go_simp <;> with_reducible rfl
  try simp only [Act.put, List.setIfInBounds_toArray, List.set_cons_zero, List.set_cons_succ, List.getElem_toArray, List.getElem_cons_zero]
  refine Seq.take_lat (i := 1) (v := ?_) rfl (by kernel_rfl) (by kernel_rfl) (by kernel_rfl) (fun _ _ _ h => h) (by rfl) ?_ ?_
  rotate_left
  · intro w' hLat; change Below _ _ _ at hLat; go_simp <;> with_reducible rfl
  try simp only [Act.put, List.setIfInBounds_toArray, List.set_cons_zero, List.set_cons_succ, List.getElem_toArray, List.getElem_cons_zero, List.getElem_cons_succ]
  refine Seq.take_lat (i := 2) (v := ?_) rfl (by kernel_rfl) (by kernel_rfl) (by kernel_rfl) (fun _ _ _ h => h) (by rfl) ?_ ?_
  rotate_left
  · intro w' hLat; change Below _ _ _ at hLat; go_simp <;> with_reducible rfl
  try simp only [Act.put, List.setIfInBounds_toArray, List.set_cons_zero, List.set_cons_succ, List.getElem_toArray, List.getElem_cons_zero, List.getElem_cons_succ]
  refine Seq.pass_lat (i := 3) rfl (by kernel_rfl) (by kernel_rfl) (by kernel_rfl) (fun _ _ _ h => h) (by rfl) ?_
  try simp only [Act.put, List.setIfInBounds_toArray, List.set_cons_zero, List.set_cons_succ, List.getElem_toArray, List.getElem_cons_zero, List.getElem_cons_succ]
  refine Seq.pass_lat (i := 4) rfl (by kernel_rfl) (by kernel_rfl) (by kernel_rfl) (fun _ _ _ h => h) (by rfl) ?_
  try simp only [Act.put, List.setIfInBounds_toArray, List.set_cons_zero, List.set_cons_succ, List.getElem_toArray, List.getElem_cons_zero, List.getElem_cons_succ]
  refine Seq.pass_lat (i := 5) rfl (by kernel_rfl) (by kernel_rfl) (by kernel_rfl) (fun _ _ _ h => h) (by rfl) ?_
  try simp only [Act.put, List.setIfInBounds_toArray, List.set_cons_zero, List.set_cons_succ, List.getElem_toArray, List.getElem_cons_zero, List.getElem_cons_succ]
  refine Seq.pass_lat (i := 6) rfl (by kernel_rfl) (by kernel_rfl) (by kernel_rfl) (fun _ _ _ h => h) (by rfl) ?_
  try simp only [Act.put, List.setIfInBounds_toArray, List.set_cons_zero, List.set_cons_succ, List.getElem_toArray, List.getElem_cons_zero, List.getElem_cons_succ]
  refine Seq.pass_lat (i := 7) rfl (by kernel_rfl) (by kernel_rfl) (by kernel_rfl) (fun _ _ _ h => h) (by rfl) ?_
  try simp only [Act.put, List.setIfInBounds_toArray, List.set_cons_zero, List.set_cons_succ, List.getElem_toArray, List.getElem_cons_zero, List.getElem_cons_succ]
  refine Seq.pass_lat (i := 8) rfl (by kernel_rfl) (by kernel_rfl) (by kernel_rfl) (fun _ _ _ h => h) (by rfl) ?_
  try simp only [Act.put, List.setIfInBounds_toArray, List.set_cons_zero, List.set_cons_succ, List.getElem_toArray, List.getElem_cons_zero, List.getElem_cons_succ]
  refine Seq.take_lat (i := 9) (v := ?_) rfl (by kernel_rfl) (by kernel_rfl) (by kernel_rfl) (fun _ _ _ h => h) (by rfl) ?_ ?_
  rotate_left
  · intro w' hLat; change Below _ _ _ at hLat; go_simp <;> with_reducible rfl
  try simp only [Act.put, List.setIfInBounds_toArray, List.set_cons_zero, List.set_cons_succ, List.getElem_toArray, List.getElem_cons_zero, List.getElem_cons_succ]
  refine Seq.take_lat (i := 10) (v := ?_) rfl (by kernel_rfl) (by kernel_rfl) (by kernel_rfl) (fun _ _ _ h => h) (by rfl) ?_ ?_
  rotate_left
  · intro w' hLat; change Below _ _ _ at hLat; go_simp <;> with_reducible rfl
  try simp only [Act.put, List.setIfInBounds_toArray, List.set_cons_zero, List.set_cons_succ, List.getElem_toArray, List.getElem_cons_zero, List.getElem_cons_succ]
  refine wpAnyH_done (by kernel_rfl) ?_ _
  have HF : Box (Below w.heap.size w wd) := ⟨(HQ.out _ E0.out).bel⟩
  go_wp2
  go_ret
  exact ⟨rfl, HF.out⟩

set_option maxRecDepth 20000 in
set_option maxHeartbeats 8000000 in
theorem bytes_gt_0 (N M : Nd) (a : Option Addr) (n cap : Nat) (L : List Int) (w : World) (HN : Box (OkN N)) (HM : Box (OkN M)) (hB : Bytes w a n L) (hn : n ≤ 200) (hk : 3 < N.k) (HL : Box (L = nb M))
    (CX : Box (∀ z p c, Bytes z p 32 (nb N) → Calls Try.prog 10 #[.slice p 32 c] z fun e w' => e = .returned (.tuple #[.agg (nc zn), .int .i64 11]) ∧ Below z.heap.size z w'))
    (CZ : Box (∀ z p c, Bytes z p n L → Calls Try.prog 10 #[.slice p n c] z fun e w' => e = .returned (.tuple #[.agg (nc M), .int .i64 0]) ∧ Below z.heap.size z w'))
    (CR : Box (∀ z, Calls Try.prog 11 #[.string (strOfNums L)] z fun e w' => e = .returned (.tuple #[.agg (nc M), .int .i64 0]) ∧ Below z.heap.size z w')) :
    Calls Try.prog 3 #[.agg (nc N), .slice a n cap] w fun e w' => e = .returned (.bool true) ∧ Below w.heap.size w w' := by
  have H1 : Box (Lies (w.alloc (.cells (nc N) 26)) w.heap.size N ∧ Bytes (w.alloc (.cells (nc N) 26)) a n L ∧ Below w.heap.size w (w.alloc (.cells (nc N) 26))) := ⟨lies_new w N, hB.below (box_below _ _), box_below _ _⟩
  have g1 : ¬ (200 : Int) < (n : Int) := by omega
  clear hB hn
  go_enter Try.func3, Try.ntmps3
  go_upto_region 1 with fail
  change Code.wp _ _ _ _ (w.alloc (.cells (nc N) 26))
  generalize w.alloc (.cells (nc N) 26) = w1 at H1 ⊢
  obtain ⟨S, hS⟩ : ∃ S, w.heap.size = S := ⟨_, rfl⟩
  have HS : Box (w.heap.size = S) := ⟨hS⟩
  clear hS
  rw [HS.out]
  rw [HS.out] at H1
  go_upto_region 6 with (go_at_call 8; refine Calls.mono (awake_any w1) ?_; rintro e w2 ⟨rfl, hb⟩; have H2 : Box (Lies w2 S N ∧ Bytes w2 a n L ∧ Below w.heap.size w w2) := ⟨H1.out.1.below hb, H1.out.2.1.below hb, by have := H1.out.2.2; rw [← HS.out] at this; exact below_to this hb⟩; clear hb H1)
  clear g1
  go_upto_region 7 with (first
    | (refine wpList_run rfl _ _ (exec_ldN _ rfl S N rfl H2.out.1) ?_)
    | (go_at_call 9; refine Calls.mono (nput_any N w2 HN.out) ?_; rintro e w3 ⟨g, rfl, hO⟩; have H3 : Box (Lies w3 S N ∧ Bytes w3 a n L ∧ Below w.heap.size w w3 ∧ Bytes w3 (some ⟨g, 0, none⟩) 32 (nb N)) := ⟨H2.out.1.below hO.2.2, H2.out.2.1.below hO.2.2, below_to H2.out.2.2 hO.2.2, hO.bytes (byt_nb HN.out)⟩; clear hO H2))
  go_upto_region 8 with (first
    | (refine wpList_newN w4 zn rfl _ _ rfl rfl rfl rfl ?_; intro w5 hz hb; have H5 : Box (Lies w5 S N ∧ Bytes w5 a n L ∧ Below w.heap.size w w5 ∧ Bytes w5 (some ⟨g, 0, none⟩) 32 (nb N) ∧ Lies w5 w4.heap.size zn) := ⟨H4.out.1.below hb, H4.out.2.1.below hb, below_to H4.out.2.2.1 hb, H4.out.2.2.2.below hb, hz⟩; clear hz hb H4)
    | (refine wpList_run rfl _ _ (exec_alloc 26 rfl _ zeroN) ?_)
    | (go_at_call 10; refine Calls.mono (CX.out w3 _ _ H3.out.2.2.2) ?_; rintro e w4 ⟨rfl, hb⟩; have H4 : Box (Lies w4 S N ∧ Bytes w4 a n L ∧ Below w.heap.size w w4 ∧ Bytes w4 (some ⟨g, 0, none⟩) 32 (nb N)) := ⟨H3.out.1.below hb, H3.out.2.1.below hb, below_to H3.out.2.2.1 hb, H3.out.2.2.2.below hb⟩; clear hb H3))
  generalize w4.heap.size = X at H5 ⊢
  go_upto_region 9 with (first
    | (refine wpList_newN w6 M rfl _ _ rfl rfl rfl rfl ?_; intro w7 hz hb; have H7 : Box (Lies w7 S N ∧ Bytes w7 a n L ∧ Below w.heap.size w w7 ∧ Bytes w7 (some ⟨g, 0, none⟩) 32 (nb N) ∧ Lies w7 X zn ∧ Lies w7 w6.heap.size M) := ⟨H6.out.1.below hb, H6.out.2.1.below hb, below_to H6.out.2.2.1 hb, H6.out.2.2.2.1.below hb, H6.out.2.2.2.2.below hb, hz⟩; clear hz hb H6)
    | (refine wpList_run rfl _ _ (exec_alloc 26 rfl _ zeroN) ?_)
    | (go_at_call 10; refine Calls.mono (CZ.out w5 _ _ H5.out.2.1) ?_; rintro e w6 ⟨rfl, hb⟩; have H6 : Box (Lies w6 S N ∧ Bytes w6 a n L ∧ Below w.heap.size w w6 ∧ Bytes w6 (some ⟨g, 0, none⟩) 32 (nb N) ∧ Lies w6 X zn) := ⟨H5.out.1.below hb, H5.out.2.1.below hb, below_to H5.out.2.2.1 hb, H5.out.2.2.2.1.below hb, H5.out.2.2.2.2.below hb⟩; clear hb H5))
  generalize w6.heap.size = Y at H7 ⊢
  go_upto_region 10 with (first
    | (refine wpList_newR w8 M rfl _ _ rfl rfl rfl rfl ?_; intro w9 hz hb; have H9 : Box (Bst w w9 S X Y w8.heap.size N zn M g a n L) := ⟨⟨H8.out.1.below hb, H8.out.2.2.2.2.1.below hb, H8.out.2.2.2.2.2.below hb, hz, H8.out.2.2.2.1.below hb, H8.out.2.1.below hb, below_to H8.out.2.2.1 hb⟩⟩; clear hz hb H8)
    | (refine wpList_run rfl _ _ (exec_alloc 35 rfl _ zeroR) ?_)
    | (refine wpList_run rfl _ _ (exec_conv (.tmp 32) rfl rfl H7.out.2.1) ?_)
    | (go_at_call 11; refine Calls.mono (CR.out w7) ?_; rintro e w8 ⟨rfl, hb⟩; have H8 : Box (Lies w8 S N ∧ Bytes w8 a n L ∧ Below w.heap.size w w8 ∧ Bytes w8 (some ⟨g, 0, none⟩) 32 (nb N) ∧ Lies w8 X zn ∧ Lies w8 Y M) := ⟨H7.out.1.below hb, H7.out.2.1.below hb, below_to H7.out.2.2.1 hb, H7.out.2.2.2.1.below hb, H7.out.2.2.2.2.1.below hb, H7.out.2.2.2.2.2.below hb⟩; clear hb H7))
  generalize w8.heap.size = T at H9 ⊢
  clear CX CZ CR
  have HQ : Box (∀ x, Below w9.heap.size w9 x → Bst w x S X Y T N zn M g a n L) := ⟨fun x hx => H9.out.on hx⟩
  refine Seq.begin_any (by kernel_rfl) (fun wd hd => ?_)
  have D0 : Box (Below w9.heap.size w9 wd) := ⟨hd⟩
  clear hd
  refine Seq.take_lat (i := 0) (v := ?_) rfl (by kernel_rfl) (by kernel_rfl) (by kernel_rfl) (fun _ _ _ h => h) (by rfl) ?_ ?_
  rotate_left
  · intro w' hLat; change Below _ _ _ at hLat; go_simp <;> with_reducible rfl
  try simp only [Act.put, List.setIfInBounds_toArray, List.set_cons_zero, List.set_cons_succ, List.getElem_toArray, List.getElem_cons_zero]
  refine Seq.take_lat (i := 1) (v := .string (strOfNums (nb N))) rfl (by kernel_rfl) (by kernel_rfl) (by kernel_rfl) (fun _ _ _ h => h) (by rfl) (fun w' hLat => exec_conv (.tmp 37) rfl rfl (HQ.out _ (below_to D0.out hLat)).bx) ?_
  try simp only [Act.put, List.setIfInBounds_toArray, List.set_cons_zero, List.set_cons_succ, List.getElem_toArray, List.getElem_cons_zero, List.getElem_cons_succ]
  refine Seq.take_lat (i := 2) (v := .agg (nc N)) rfl (by kernel_rfl) (by kernel_rfl) (by kernel_rfl) (fun _ _ _ h => h) (by rfl) (fun w' hLat => exec_ldN _ rfl S N rfl (HQ.out _ (below_to D0.out hLat)).own) ?_
  try simp only [Act.put, List.setIfInBounds_toArray, List.set_cons_zero, List.set_cons_succ, List.getElem_toArray, List.getElem_cons_zero, List.getElem_cons_succ]
  refine Seq.only_lat (i := 3) rfl (by kernel_rfl) (fun KK hK => ?_)
  rw [if_pos (by rfl)]
  go_simp
  refine Calls.mono (model_any N wd) ?_
  rintro e0 w101 ⟨rfl, hb⟩
  have D1 : Box (Below w9.heap.size w9 w101) := ⟨below_to D0.out hb⟩
  refine hK.out _ _ hb ?_
  clear hb
  clear hK KK
  try simp only [Act.put, List.setIfInBounds_toArray, List.set_cons_zero, List.set_cons_succ, List.getElem_toArray, List.getElem_cons_zero, List.getElem_cons_succ]
  refine Seq.only_lat (i := 4) rfl (by kernel_rfl) (fun KK hK => ?_)
  rw [if_pos (by rfl)]
  go_simp
  refine Calls.mono (rnput_any N w101 HN.out) ?_
  rintro e0 w102 ⟨rfl, hb⟩
  have D2 : Box (Below w9.heap.size w9 w102) := ⟨below_to D1.out hb⟩
  refine hK.out _ _ hb ?_
  clear hb
  clear hK KK
  try simp only [Act.put, List.setIfInBounds_toArray, List.set_cons_zero, List.set_cons_succ, List.getElem_toArray, List.getElem_cons_zero, List.getElem_cons_succ]
  refine Seq.take_lat (i := 5) (v := .bool false) rfl (by kernel_rfl) (by kernel_rfl) (by kernel_rfl) (fun _ _ _ h => h) (by rfl) (fun w' hLat => exec_strF _ _ _ rfl (nb N) (byt_nb HN.out) rfl rfl) ?_
  try simp only [Act.put, List.setIfInBounds_toArray, List.set_cons_zero, List.set_cons_succ, List.getElem_toArray, List.getElem_cons_zero, List.getElem_cons_succ]
  refine Seq.take_lat (i := 6) (v := ?_) rfl (by kernel_rfl) (by kernel_rfl) (by kernel_rfl) (fun _ _ _ h => h) (by rfl) ?_ ?_
  rotate_left
  · intro w' hLat; change Below _ _ _ at hLat; go_simp <;> with_reducible rfl
  try simp only [Act.put, List.setIfInBounds_toArray, List.set_cons_zero, List.set_cons_succ, List.getElem_toArray, List.getElem_cons_zero, List.getElem_cons_succ]
  refine Seq.take_lat (i := 7) (v := .agg (nc M)) rfl (by kernel_rfl) (by kernel_rfl) (by kernel_rfl) (fun _ _ _ h => h) (by rfl) (fun w' hLat => exec_ldN _ rfl Y M rfl (HQ.out _ (below_to D2.out hLat)).z) ?_
  try simp only [Act.put, List.setIfInBounds_toArray, List.set_cons_zero, List.set_cons_succ, List.getElem_toArray, List.getElem_cons_zero, List.getElem_cons_succ]
  refine Seq.take_lat (i := 9) (v := .agg (nc M)) rfl (by kernel_rfl) (by kernel_rfl) (by kernel_rfl) (fun _ _ _ h => h) (by rfl) (fun w' hLat => exec_ldR _ rfl T M rfl (HQ.out _ (below_to D2.out hLat)).r) ?_
  try simp only [Act.put, List.setIfInBounds_toArray, List.set_cons_zero, List.set_cons_succ, List.getElem_toArray, List.getElem_cons_zero, List.getElem_cons_succ]
  refine Seq.only_lat (i := 8) rfl (by kernel_rfl) (fun KK hK => ?_)
  rw [if_pos (by rfl)]
  go_simp
  refine Calls.mono (model_any M w102) ?_
  rintro e0 w103 ⟨rfl, hb⟩
  have D3 : Box (Below w9.heap.size w9 w103) := ⟨below_to D2.out hb⟩
  refine hK.out _ _ hb ?_
  clear hb
  clear hK KK
  try simp only [Act.put, List.setIfInBounds_toArray, List.set_cons_zero, List.set_cons_succ, List.getElem_toArray, List.getElem_cons_zero, List.getElem_cons_succ]
  refine Seq.take_lat (i := 10) (v := .bool false) rfl (by kernel_rfl) (by kernel_rfl) (by kernel_rfl) (fun _ _ _ h => h) (by rfl) (fun w' hLat => exec_neR _ _ _ rfl M rfl rfl) ?_
  try simp only [Act.put, List.setIfInBounds_toArray, List.set_cons_zero, List.set_cons_succ, List.getElem_toArray, List.getElem_cons_zero, List.getElem_cons_succ]
  refine Seq.take_lat (i := 11) (v := ?_) rfl (by kernel_rfl) (by kernel_rfl) (by kernel_rfl) (fun _ _ _ h => h) (by rfl) ?_ ?_
  rotate_left
  · intro w' hLat; change Below _ _ _ at hLat; go_simp <;> with_reducible rfl
  try simp only [Act.put, List.setIfInBounds_toArray, List.set_cons_zero, List.set_cons_succ, List.getElem_toArray, List.getElem_cons_zero, List.getElem_cons_succ]
  refine Seq.take_lat (i := 12) (v := ?_) rfl (by kernel_rfl) (by kernel_rfl) (by kernel_rfl) (fun _ _ _ h => h) (by rfl) ?_ ?_
  rotate_left
  · intro w' hLat; change Below _ _ _ at hLat; go_simp <;> with_reducible rfl
  try simp only [Act.put, List.setIfInBounds_toArray, List.set_cons_zero, List.set_cons_succ, List.getElem_toArray, List.getElem_cons_zero, List.getElem_cons_succ]
  refine Seq.take_lat (i := 13) (v := ?_) rfl (by kernel_rfl) (by kernel_rfl) (by kernel_rfl) (fun _ _ _ h => h) (by rfl) ?_ ?_
  rotate_left
  · intro w' hLat; change Below _ _ _ at hLat; go_simp <;> with_reducible rfl
  try simp only [Act.put, List.setIfInBounds_toArray, List.set_cons_zero, List.set_cons_succ, List.getElem_toArray, List.getElem_cons_zero, List.getElem_cons_succ]
  refine Seq.take_lat (i := 14) (v := ?_) rfl (by kernel_rfl) (by kernel_rfl) (by kernel_rfl) (fun _ _ _ h => h) (by rfl) ?_ ?_
  rotate_left
  · intro w' hLat; change Below _ _ _ at hLat; go_simp <;> with_reducible rfl
  try simp only [Act.put, List.setIfInBounds_toArray, List.set_cons_zero, List.set_cons_succ, List.getElem_toArray, List.getElem_cons_zero, List.getElem_cons_succ]
  refine Seq.take_lat (i := 15) (v := ?_) rfl (by kernel_rfl) (by kernel_rfl) (by kernel_rfl) (fun _ _ _ h => h) (by rfl) ?_ ?_
  rotate_left
  · intro w' hLat; change Below _ _ _ at hLat; go_simp <;> with_reducible rfl
  try simp only [Act.put, List.setIfInBounds_toArray, List.set_cons_zero, List.set_cons_succ, List.getElem_toArray, List.getElem_cons_zero, List.getElem_cons_succ]
  refine Seq.take_lat (i := 16) (v := ?_) rfl (by kernel_rfl) (by kernel_rfl) (by kernel_rfl) (fun _ _ _ h => h) (by rfl) ?_ ?_
  rotate_left
  · intro w' hLat; change Below _ _ _ at hLat; go_simp <;> with_reducible rfl
  try simp only [Act.put, List.setIfInBounds_toArray, List.set_cons_zero, List.set_cons_succ, List.getElem_toArray, List.getElem_cons_zero, List.getElem_cons_succ]
  refine wpAnyH_done (by kernel_rfl) ?_ _
  have HZ : Box (Bst w w103 S X Y T N zn M g a n L) := ⟨HQ.out _ D3.out⟩
  clear HQ H9
  have k0 : w103.cell? ⟨S, 0, none⟩ = some (.int .u8 N.k) := HZ.out.own.cell 0
  have hk2 : ¬ N.k ≤ 3 := by omega
  go_upto_region 14 with fail
  clear k0 hk hk2 D0 D1 D2 D3
  obtain ⟨w9, h9⟩ : ∃ x, x = w103 := ⟨_, rfl⟩
  subst h9
  have HQ : Box (∀ x, Below w9.heap.size w9 x → Bst w x S X Y T N zn M g a n L) := ⟨fun x hx => HZ.out.on hx⟩
  refine Seq.begin_any (by kernel_rfl) (fun wd hd => ?_)
  have E0 : Box (Below w9.heap.size w9 wd) := ⟨hd⟩
  clear hd
  refine Seq.take_lat (i := 0) (v := ?_) rfl (by kernel_rfl) (by kernel_rfl) (by kernel_rfl) (fun _ _ _ h => h) (by rfl) ?_ ?_
  rotate_left
  · intro w' hLat; change Below _ _ _ at hLat; go_simp <;> with_reducible rfl
  try simp only [Act.put, List.setIfInBounds_toArray, List.set_cons_zero, List.set_cons_succ, List.getElem_toArray, List.getElem_cons_zero]
  refine Seq.take_lat (i := 1) (v := ?_) rfl (by kernel_rfl) (by kernel_rfl) (by kernel_rfl) (fun _ _ _ h => h) (by rfl) ?_ ?_
  rotate_left
  · intro w' hLat; change Below _ _ _ at hLat; go_simp <;> with_reducible rfl
  try simp only [Act.put, List.setIfInBounds_toArray, List.set_cons_zero, List.set_cons_succ, List.getElem_toArray, List.getElem_cons_zero, List.getElem_cons_succ]
  refine Seq.take_lat (i := 2) (v := ?_) rfl (by kernel_rfl) (by kernel_rfl) (by kernel_rfl) (fun _ _ _ h => h) (by rfl) ?_ ?_
  rotate_left
  · intro w' hLat; change Below _ _ _ at hLat; go_simp <;> with_reducible rfl
  try simp only [Act.put, List.setIfInBounds_toArray, List.set_cons_zero, List.set_cons_succ, List.getElem_toArray, List.getElem_cons_zero, List.getElem_cons_succ]
  refine Seq.take_lat (i := 3) (v := .agg (nc M)) rfl (by kernel_rfl) (by kernel_rfl) (by kernel_rfl) (fun _ _ _ h => h) (by rfl) (fun w' hLat => exec_ldN _ rfl Y M rfl (HQ.out _ (below_to E0.out hLat)).z) ?_
  try simp only [Act.put, List.setIfInBounds_toArray, List.set_cons_zero, List.set_cons_succ, List.getElem_toArray, List.getElem_cons_zero, List.getElem_cons_succ]
  refine Seq.take_lat (i := 6) (v := ?_) rfl (by kernel_rfl) (by kernel_rfl) (by kernel_rfl) (fun _ _ _ h => h) (by rfl) ?_ ?_
  rotate_left
  · intro w' hLat; change Below _ _ _ at hLat; go_simp <;> with_reducible rfl
  try simp only [Act.put, List.setIfInBounds_toArray, List.set_cons_zero, List.set_cons_succ, List.getElem_toArray, List.getElem_cons_zero, List.getElem_cons_succ]
  refine Seq.take_lat (i := 7) (v := .string (strOfNums L)) rfl (by kernel_rfl) (by kernel_rfl) (by kernel_rfl) (fun _ _ _ h => h) (by rfl) (fun w' hLat => exec_conv (.tmp 81) rfl rfl (HQ.out _ (below_to E0.out hLat)).b) ?_
  try simp only [Act.put, List.setIfInBounds_toArray, List.set_cons_zero, List.set_cons_succ, List.getElem_toArray, List.getElem_cons_zero, List.getElem_cons_succ]
  refine Seq.only_lat (i := 4) rfl (by kernel_rfl) (fun KK hK => ?_)
  rw [if_pos (by rfl)]
  go_simp
  refine Calls.mono (nput_any M wd HM.out) ?_
  rintro e0 w141 ⟨g14, rfl, hO⟩
  have hb := hO.2.2
  have E1 : Box (Below w9.heap.size w9 w141) := ⟨below_to E0.out hb⟩
  have HG : Box (Bytes w141 (some ⟨g14, 0, none⟩) 32 (nb M)) := ⟨hO.bytes (byt_nb HM.out)⟩
  clear hO
  refine hK.out _ _ hb ?_
  clear hb
  clear hK KK
  try simp only [Act.put, List.setIfInBounds_toArray, List.set_cons_zero, List.set_cons_succ, List.getElem_toArray, List.getElem_cons_zero, List.getElem_cons_succ]
  refine Seq.take_lat (i := 5) (v := .string (strOfNums (nb M))) rfl (by kernel_rfl) (by kernel_rfl) (by kernel_rfl) (fun _ _ _ h => h) (by rfl) (fun w' hLat => exec_conv (.tmp 79) rfl rfl (HG.out.below hLat)) ?_
  try simp only [Act.put, List.setIfInBounds_toArray, List.set_cons_zero, List.set_cons_succ, List.getElem_toArray, List.getElem_cons_zero, List.getElem_cons_succ]
  refine Seq.take_lat (i := 8) (v := .bool true) rfl (by kernel_rfl) (by kernel_rfl) (by kernel_rfl) (fun _ _ _ h => h) (by rfl) (fun w' hLat => exec_strT _ _ _ rfl (nb M) (byt_nb HM.out) rfl (by rw [← HL.out]; rfl)) ?_
  try simp only [Act.put, List.setIfInBounds_toArray, List.set_cons_zero, List.set_cons_succ, List.getElem_toArray, List.getElem_cons_zero, List.getElem_cons_succ]
  refine Seq.take_lat (i := 9) (v := ?_) rfl (by kernel_rfl) (by kernel_rfl) (by kernel_rfl) (fun _ _ _ h => h) (by rfl) ?_ ?_
  rotate_left
  · intro w' hLat; change Below _ _ _ at hLat; go_simp <;> with_reducible rfl
  try simp only [Act.put, List.setIfInBounds_toArray, List.set_cons_zero, List.set_cons_succ, List.getElem_toArray, List.getElem_cons_zero, List.getElem_cons_succ]
  refine Seq.take_lat (i := 10) (v := ?_) rfl (by kernel_rfl) (by kernel_rfl) (by kernel_rfl) (fun _ _ _ h => h) (by rfl) ?_ ?_
  rotate_left
  · intro w' hLat; change Below _ _ _ at hLat; go_simp <;> with_reducible rfl
  try simp only [Act.put, List.setIfInBounds_toArray, List.set_cons_zero, List.set_cons_succ, List.getElem_toArray, List.getElem_cons_zero, List.getElem_cons_succ]
  refine wpAnyH_done (by kernel_rfl) ?_ _
  have HF : Box (Below w.heap.size w w141) := ⟨(HQ.out _ E1.out).bel⟩
  go_wp2
  go_ret
  exact ⟨rfl, HF.out⟩

set_option maxRecDepth 20000 in
set_option maxHeartbeats 8000000 in
theorem bytes_gt_11 (N M : Nd) (a : Option Addr) (n cap : Nat) (L : List Int) (w : World) (HN : Box (OkN N)) (HM : Box (OkN M)) (hB : Bytes w a n L) (hn : n ≤ 200) (hk : 3 < N.k) 
    (CX : Box (∀ z p c, Bytes z p 32 (nb N) → Calls Try.prog 10 #[.slice p 32 c] z fun e w' => e = .returned (.tuple #[.agg (nc zn), .int .i64 11]) ∧ Below z.heap.size z w'))
    (CZ : Box (∀ z p c, Bytes z p n L → Calls Try.prog 10 #[.slice p n c] z fun e w' => e = .returned (.tuple #[.agg (nc M), .int .i64 11]) ∧ Below z.heap.size z w'))
    (CR : Box (∀ z, Calls Try.prog 11 #[.string (strOfNums L)] z fun e w' => e = .returned (.tuple #[.agg (nc M), .int .i64 11]) ∧ Below z.heap.size z w')) :
    Calls Try.prog 3 #[.agg (nc N), .slice a n cap] w fun e w' => e = .returned (.bool true) ∧ Below w.heap.size w w' := by
  have H1 : Box (Lies (w.alloc (.cells (nc N) 26)) w.heap.size N ∧ Bytes (w.alloc (.cells (nc N) 26)) a n L ∧ Below w.heap.size w (w.alloc (.cells (nc N) 26))) := ⟨lies_new w N, hB.below (box_below _ _), box_below _ _⟩
  have g1 : ¬ (200 : Int) < (n : Int) := by omega
  clear hB hn
  go_enter Try.func3, Try.ntmps3
  go_upto_region 1 with fail
  change Code.wp _ _ _ _ (w.alloc (.cells (nc N) 26))
  generalize w.alloc (.cells (nc N) 26) = w1 at H1 ⊢
  obtain ⟨S, hS⟩ : ∃ S, w.heap.size = S := ⟨_, rfl⟩
  have HS : Box (w.heap.size = S) := ⟨hS⟩
  clear hS
  rw [HS.out]
  rw [HS.out] at H1
  go_upto_region 6 with (go_at_call 8; refine Calls.mono (awake_any w1) ?_; rintro e w2 ⟨rfl, hb⟩; have H2 : Box (Lies w2 S N ∧ Bytes w2 a n L ∧ Below w.heap.size w w2) := ⟨H1.out.1.below hb, H1.out.2.1.below hb, by have := H1.out.2.2; rw [← HS.out] at this; exact below_to this hb⟩; clear hb H1)
  clear g1
  go_upto_region 7 with (first
    | (refine wpList_run rfl _ _ (exec_ldN _ rfl S N rfl H2.out.1) ?_)
    | (go_at_call 9; refine Calls.mono (nput_any N w2 HN.out) ?_; rintro e w3 ⟨g, rfl, hO⟩; have H3 : Box (Lies w3 S N ∧ Bytes w3 a n L ∧ Below w.heap.size w w3 ∧ Bytes w3 (some ⟨g, 0, none⟩) 32 (nb N)) := ⟨H2.out.1.below hO.2.2, H2.out.2.1.below hO.2.2, below_to H2.out.2.2 hO.2.2, hO.bytes (byt_nb HN.out)⟩; clear hO H2))
  go_upto_region 8 with (first
    | (refine wpList_newN w4 zn rfl _ _ rfl rfl rfl rfl ?_; intro w5 hz hb; have H5 : Box (Lies w5 S N ∧ Bytes w5 a n L ∧ Below w.heap.size w w5 ∧ Bytes w5 (some ⟨g, 0, none⟩) 32 (nb N) ∧ Lies w5 w4.heap.size zn) := ⟨H4.out.1.below hb, H4.out.2.1.below hb, below_to H4.out.2.2.1 hb, H4.out.2.2.2.below hb, hz⟩; clear hz hb H4)
    | (refine wpList_run rfl _ _ (exec_alloc 26 rfl _ zeroN) ?_)
    | (go_at_call 10; refine Calls.mono (CX.out w3 _ _ H3.out.2.2.2) ?_; rintro e w4 ⟨rfl, hb⟩; have H4 : Box (Lies w4 S N ∧ Bytes w4 a n L ∧ Below w.heap.size w w4 ∧ Bytes w4 (some ⟨g, 0, none⟩) 32 (nb N)) := ⟨H3.out.1.below hb, H3.out.2.1.below hb, below_to H3.out.2.2.1 hb, H3.out.2.2.2.below hb⟩; clear hb H3))
  generalize w4.heap.size = X at H5 ⊢
  go_upto_region 9 with (first
    | (refine wpList_newN w6 M rfl _ _ rfl rfl rfl rfl ?_; intro w7 hz hb; have H7 : Box (Lies w7 S N ∧ Bytes w7 a n L ∧ Below w.heap.size w w7 ∧ Bytes w7 (some ⟨g, 0, none⟩) 32 (nb N) ∧ Lies w7 X zn ∧ Lies w7 w6.heap.size M) := ⟨H6.out.1.below hb, H6.out.2.1.below hb, below_to H6.out.2.2.1 hb, H6.out.2.2.2.1.below hb, H6.out.2.2.2.2.below hb, hz⟩; clear hz hb H6)
    | (refine wpList_run rfl _ _ (exec_alloc 26 rfl _ zeroN) ?_)
    | (go_at_call 10; refine Calls.mono (CZ.out w5 _ _ H5.out.2.1) ?_; rintro e w6 ⟨rfl, hb⟩; have H6 : Box (Lies w6 S N ∧ Bytes w6 a n L ∧ Below w.heap.size w w6 ∧ Bytes w6 (some ⟨g, 0, none⟩) 32 (nb N) ∧ Lies w6 X zn) := ⟨H5.out.1.below hb, H5.out.2.1.below hb, below_to H5.out.2.2.1 hb, H5.out.2.2.2.1.below hb, H5.out.2.2.2.2.below hb⟩; clear hb H5))
  generalize w6.heap.size = Y at H7 ⊢
  go_upto_region 10 with (first
    | (refine wpList_newR w8 M rfl _ _ rfl rfl rfl rfl ?_; intro w9 hz hb; have H9 : Box (Bst w w9 S X Y w8.heap.size N zn M g a n L) := ⟨⟨H8.out.1.below hb, H8.out.2.2.2.2.1.below hb, H8.out.2.2.2.2.2.below hb, hz, H8.out.2.2.2.1.below hb, H8.out.2.1.below hb, below_to H8.out.2.2.1 hb⟩⟩; clear hz hb H8)
    | (refine wpList_run rfl _ _ (exec_alloc 35 rfl _ zeroR) ?_)
    | (refine wpList_run rfl _ _ (exec_conv (.tmp 32) rfl rfl H7.out.2.1) ?_)
    | (go_at_call 11; refine Calls.mono (CR.out w7) ?_; rintro e w8 ⟨rfl, hb⟩; have H8 : Box (Lies w8 S N ∧ Bytes w8 a n L ∧ Below w.heap.size w w8 ∧ Bytes w8 (some ⟨g, 0, none⟩) 32 (nb N) ∧ Lies w8 X zn ∧ Lies w8 Y M) := ⟨H7.out.1.below hb, H7.out.2.1.below hb, below_to H7.out.2.2.1 hb, H7.out.2.2.2.1.below hb, H7.out.2.2.2.2.1.below hb, H7.out.2.2.2.2.2.below hb⟩; clear hb H7))
  generalize w8.heap.size = T at H9 ⊢
  clear CX CZ CR
  have HQ : Box (∀ x, Below w9.heap.size w9 x → Bst w x S X Y T N zn M g a n L) := ⟨fun x hx => H9.out.on hx⟩
  refine Seq.begin_any (by kernel_rfl) (fun wd hd => ?_)
  have D0 : Box (Below w9.heap.size w9 wd) := ⟨hd⟩
  clear hd
  refine Seq.take_lat (i := 0) (v := ?_) rfl (by kernel_rfl) (by kernel_rfl) (by kernel_rfl) (fun _ _ _ h => h) (by rfl) ?_ ?_
  rotate_left
  · intro w' hLat; change Below _ _ _ at hLat; go_simp <;> with_reducible rfl
  try simp only [Act.put, List.setIfInBounds_toArray, List.set_cons_zero, List.set_cons_succ, List.getElem_toArray, List.getElem_cons_zero]
  refine Seq.take_lat (i := 1) (v := .string (strOfNums (nb N))) rfl (by kernel_rfl) (by kernel_rfl) (by kernel_rfl) (fun _ _ _ h => h) (by rfl) (fun w' hLat => exec_conv (.tmp 37) rfl rfl (HQ.out _ (below_to D0.out hLat)).bx) ?_
  try simp only [Act.put, List.setIfInBounds_toArray, List.set_cons_zero, List.set_cons_succ, List.getElem_toArray, List.getElem_cons_zero, List.getElem_cons_succ]
  refine Seq.take_lat (i := 2) (v := .agg (nc N)) rfl (by kernel_rfl) (by kernel_rfl) (by kernel_rfl) (fun _ _ _ h => h) (by rfl) (fun w' hLat => exec_ldN _ rfl S N rfl (HQ.out _ (below_to D0.out hLat)).own) ?_
  try simp only [Act.put, List.setIfInBounds_toArray, List.set_cons_zero, List.set_cons_succ, List.getElem_toArray, List.getElem_cons_zero, List.getElem_cons_succ]
  refine Seq.only_lat (i := 3) rfl (by kernel_rfl) (fun KK hK => ?_)
  rw [if_pos (by rfl)]
  go_simp
  refine Calls.mono (model_any N wd) ?_
  rintro e0 w101 ⟨rfl, hb⟩
  have D1 : Box (Below w9.heap.size w9 w101) := ⟨below_to D0.out hb⟩
  refine hK.out _ _ hb ?_
  clear hb
  clear hK KK
  try simp only [Act.put, List.setIfInBounds_toArray, List.set_cons_zero, List.set_cons_succ, List.getElem_toArray, List.getElem_cons_zero, List.getElem_cons_succ]
  refine Seq.only_lat (i := 4) rfl (by kernel_rfl) (fun KK hK => ?_)
  rw [if_pos (by rfl)]
  go_simp
  refine Calls.mono (rnput_any N w101 HN.out) ?_
  rintro e0 w102 ⟨rfl, hb⟩
  have D2 : Box (Below w9.heap.size w9 w102) := ⟨below_to D1.out hb⟩
  refine hK.out _ _ hb ?_
  clear hb
  clear hK KK
  try simp only [Act.put, List.setIfInBounds_toArray, List.set_cons_zero, List.set_cons_succ, List.getElem_toArray, List.getElem_cons_zero, List.getElem_cons_succ]
  refine Seq.take_lat (i := 5) (v := .bool false) rfl (by kernel_rfl) (by kernel_rfl) (by kernel_rfl) (fun _ _ _ h => h) (by rfl) (fun w' hLat => exec_strF _ _ _ rfl (nb N) (byt_nb HN.out) rfl rfl) ?_
  try simp only [Act.put, List.setIfInBounds_toArray, List.set_cons_zero, List.set_cons_succ, List.getElem_toArray, List.getElem_cons_zero, List.getElem_cons_succ]
  refine Seq.take_lat (i := 6) (v := ?_) rfl (by kernel_rfl) (by kernel_rfl) (by kernel_rfl) (fun _ _ _ h => h) (by rfl) ?_ ?_
  rotate_left
  · intro w' hLat; change Below _ _ _ at hLat; go_simp <;> with_reducible rfl
  try simp only [Act.put, List.setIfInBounds_toArray, List.set_cons_zero, List.set_cons_succ, List.getElem_toArray, List.getElem_cons_zero, List.getElem_cons_succ]
  refine Seq.take_lat (i := 7) (v := .agg (nc M)) rfl (by kernel_rfl) (by kernel_rfl) (by kernel_rfl) (fun _ _ _ h => h) (by rfl) (fun w' hLat => exec_ldN _ rfl Y M rfl (HQ.out _ (below_to D2.out hLat)).z) ?_
  try simp only [Act.put, List.setIfInBounds_toArray, List.set_cons_zero, List.set_cons_succ, List.getElem_toArray, List.getElem_cons_zero, List.getElem_cons_succ]
  refine Seq.take_lat (i := 9) (v := .agg (nc M)) rfl (by kernel_rfl) (by kernel_rfl) (by kernel_rfl) (fun _ _ _ h => h) (by rfl) (fun w' hLat => exec_ldR _ rfl T M rfl (HQ.out _ (below_to D2.out hLat)).r) ?_
  try simp only [Act.put, List.setIfInBounds_toArray, List.set_cons_zero, List.set_cons_succ, List.getElem_toArray, List.getElem_cons_zero, List.getElem_cons_succ]
  refine Seq.only_lat (i := 8) rfl (by kernel_rfl) (fun KK hK => ?_)
  rw [if_pos (by rfl)]
  go_simp
  refine Calls.mono (model_any M w102) ?_
  rintro e0 w103 ⟨rfl, hb⟩
  have D3 : Box (Below w9.heap.size w9 w103) := ⟨below_to D2.out hb⟩
  refine hK.out _ _ hb ?_
  clear hb
  clear hK KK
  try simp only [Act.put, List.setIfInBounds_toArray, List.set_cons_zero, List.set_cons_succ, List.getElem_toArray, List.getElem_cons_zero, List.getElem_cons_succ]
  refine Seq.take_lat (i := 10) (v := .bool false) rfl (by kernel_rfl) (by kernel_rfl) (by kernel_rfl) (fun _ _ _ h => h) (by rfl) (fun w' hLat => exec_neR _ _ _ rfl M rfl rfl) ?_
  try simp only [Act.put, List.setIfInBounds_toArray, List.set_cons_zero, List.set_cons_succ, List.getElem_toArray, List.getElem_cons_zero, List.getElem_cons_succ]
  refine Seq.take_lat (i := 11) (v := ?_) rfl (by kernel_rfl) (by kernel_rfl) (by kernel_rfl) (fun _ _ _ h => h) (by rfl) ?_ ?_
  rotate_left
  · intro w' hLat; change Below _ _ _ at hLat; go_simp <;> with_reducible rfl
  try simp only [Act.put, List.setIfInBounds_toArray, List.set_cons_zero, List.set_cons_succ, List.getElem_toArray, List.getElem_cons_zero, List.getElem_cons_succ]
  refine Seq.take_lat (i := 12) (v := ?_) rfl (by kernel_rfl) (by kernel_rfl) (by kernel_rfl) (fun _ _ _ h => h) (by rfl) ?_ ?_
  rotate_left
  · intro w' hLat; change Below _ _ _ at hLat; go_simp <;> with_reducible rfl
  try simp only [Act.put, List.setIfInBounds_toArray, List.set_cons_zero, List.set_cons_succ, List.getElem_toArray, List.getElem_cons_zero, List.getElem_cons_succ]
  refine Seq.take_lat (i := 13) (v := ?_) rfl (by kernel_rfl) (by kernel_rfl) (by kernel_rfl) (fun _ _ _ h => h) (by rfl) ?_ ?_
  rotate_left
  · intro w' hLat; change Below _ _ _ at hLat; go_simp <;> with_reducible rfl
  try simp only [Act.put, List.setIfInBounds_toArray, List.set_cons_zero, List.set_cons_succ, List.getElem_toArray, List.getElem_cons_zero, List.getElem_cons_succ]
  refine Seq.take_lat (i := 14) (v := ?_) rfl (by kernel_rfl) (by kernel_rfl) (by kernel_rfl) (fun _ _ _ h => h) (by rfl) ?_ ?_
  rotate_left
  · intro w' hLat; change Below _ _ _ at hLat; go_simp <;> with_reducible rfl
  try simp only [Act.put, List.setIfInBounds_toArray, List.set_cons_zero, List.set_cons_succ, List.getElem_toArray, List.getElem_cons_zero, List.getElem_cons_succ]
  refine Seq.take_lat (i := 15) (v := ?_) rfl (by kernel_rfl) (by kernel_rfl) (by kernel_rfl) (fun _ _ _ h => h) (by rfl) ?_ ?_
  rotate_left
  · intro w' hLat; change Below _ _ _ at hLat; go_simp <;> with_reducible rfl
  try simp only [Act.put, List.setIfInBounds_toArray, List.set_cons_zero, List.set_cons_succ, List.getElem_toArray, List.getElem_cons_zero, List.getElem_cons_succ]
  refine Seq.take_lat (i := 16) (v := ?_) rfl (by kernel_rfl) (by kernel_rfl) (by kernel_rfl) (fun _ _ _ h => h) (by rfl) ?_ ?_
  rotate_left
  · intro w' hLat; change Below _ _ _ at hLat; go_simp <;> with_reducible rfl
  try simp only [Act.put, List.setIfInBounds_toArray, List.set_cons_zero, List.set_cons_succ, List.getElem_toArray, List.getElem_cons_zero, List.getElem_cons_succ]
  refine wpAnyH_done (by kernel_rfl) ?_ _
  have HZ : Box (Bst w w103 S X Y T N zn M g a n L) := ⟨HQ.out _ D3.out⟩
  clear HQ H9
  have k0 : w103.cell? ⟨S, 0, none⟩ = some (.int .u8 N.k) := HZ.out.own.cell 0
  have hk2 : ¬ N.k ≤ 3 := by omega
  go_upto_region 14 with fail
  clear k0 hk hk2 D0 D1 D2 D3
  obtain ⟨w9, h9⟩ : ∃ x, x = w103 := ⟨_, rfl⟩
  subst h9
  have HQ : Box (∀ x, Below w9.heap.size w9 x → Bst w x S X Y T N zn M g a n L) := ⟨fun x hx => HZ.out.on hx⟩
  refine Seq.begin_any (by kernel_rfl) (fun wd hd => ?_)
  have E0 : Box (Below w9.heap.size w9 wd) := ⟨hd⟩
  clear hd
  refine Seq.take_lat (i := 0) (v := ?_) rfl (by kernel_rfl) (by kernel_rfl) (by kernel_rfl) (fun _ _ _ h => h) (by rfl) ?_ ?_
  rotate_left
  · intro w' hLat; change Below _ _ _ at hLat; go_simp <;> with_reducible rfl
  try simp only [Act.put, List.setIfInBounds_toArray, List.set_cons_zero, List.set_cons_succ, List.getElem_toArray, List.getElem_cons_zero]
  refine Seq.take_lat (i := 1) (v := ?_) rfl (by kernel_rfl) (by kernel_rfl) (by kernel_rfl) (fun _ _ _ h => h) (by rfl) ?_ ?_
  rotate_left
  · intro w' hLat; change Below _ _ _ at hLat; go_simp <;> with_reducible rfl
  try simp only [Act.put, List.setIfInBounds_toArray, List.set_cons_zero, List.set_cons_succ, List.getElem_toArray, List.getElem_cons_zero, List.getElem_cons_succ]
  refine Seq.take_lat (i := 2) (v := ?_) rfl (by kernel_rfl) (by kernel_rfl) (by kernel_rfl) (fun _ _ _ h => h) (by rfl) ?_ ?_
  rotate_left
  · intro w' hLat; change Below _ _ _ at hLat; go_simp <;> with_reducible rfl
  try simp only [Act.put, List.setIfInBounds_toArray, List.set_cons_zero, List.set_cons_succ, List.getElem_toArray, List.getElem_cons_zero, List.getElem_cons_succ]
  refine Seq.pass_lat (i := 3) rfl (by kernel_rfl) (by kernel_rfl) (by kernel_rfl) (fun _ _ _ h => h) (by rfl) ?_
  try simp only [Act.put, List.setIfInBounds_toArray, List.set_cons_zero, List.set_cons_succ, List.getElem_toArray, List.getElem_cons_zero, List.getElem_cons_succ]
  refine Seq.pass_lat (i := 4) rfl (by kernel_rfl) (by kernel_rfl) (by kernel_rfl) (fun _ _ _ h => h) (by rfl) ?_
  try simp only [Act.put, List.setIfInBounds_toArray, List.set_cons_zero, List.set_cons_succ, List.getElem_toArray, List.getElem_cons_zero, List.getElem_cons_succ]
  refine Seq.pass_lat (i := 5) rfl (by kernel_rfl) (by kernel_rfl) (by kernel_rfl) (fun _ _ _ h => h) (by rfl) ?_
  try simp only [Act.put, List.setIfInBounds_toArray, List.set_cons_zero, List.set_cons_succ, List.getElem_toArray, List.getElem_cons_zero, List.getElem_cons_succ]
  refine Seq.pass_lat (i := 6) rfl (by kernel_rfl) (by kernel_rfl) (by kernel_rfl) (fun _ _ _ h => h) (by rfl) ?_
  try simp only [Act.put, List.setIfInBounds_toArray, List.set_cons_zero, List.set_cons_succ, List.getElem_toArray, List.getElem_cons_zero, List.getElem_cons_succ]
  refine Seq.pass_lat (i := 7) rfl (by kernel_rfl) (by kernel_rfl) (by kernel_rfl) (fun _ _ _ h => h) (by rfl) ?_
  try simp only [Act.put, List.setIfInBounds_toArray, List.set_cons_zero, List.set_cons_succ, List.getElem_toArray, List.getElem_cons_zero, List.getElem_cons_succ]
  refine Seq.pass_lat (i := 8) rfl (by kernel_rfl) (by kernel_rfl) (by kernel_rfl) (fun _ _ _ h => h) (by rfl) ?_
  try simp only [Act.put, List.setIfInBounds_toArray, List.set_cons_zero, List.set_cons_succ, List.getElem_toArray, List.getElem_cons_zero, List.getElem_cons_succ]
  refine Seq.take_lat (i := 9) (v := ?_) rfl (by kernel_rfl) (by kernel_rfl) (by kernel_rfl) (fun _ _ _ h => h) (by rfl) ?_ ?_
  rotate_left
  · intro w' hLat; change Below _ _ _ at hLat; go_simp <;> with_reducible rfl
  try simp only [Act.put, List.setIfInBounds_toArray, List.set_cons_zero, List.set_cons_succ, List.getElem_toArray, List.getElem_cons_zero, List.getElem_cons_succ]
  refine Seq.take_lat (i := 10) (v := ?_) rfl (by kernel_rfl) (by kernel_rfl) (by kernel_rfl) (fun _ _ _ h => h) (by rfl) ?_ ?_
  rotate_left
  · intro w' hLat; change Below _ _ _ at hLat; go_simp <;> with_reducible rfl
  try simp only [Act.put, List.setIfInBounds_toArray, List.set_cons_zero, List.set_cons_succ, List.getElem_toArray, List.getElem_cons_zero, List.getElem_cons_succ]
  refine wpAnyH_done (by kernel_rfl) ?_ _
  have HF : Box (Below w.heap.size w wd) := ⟨(HQ.out _ E0.out).bel⟩
  go_wp2
  go_ret
  exact ⟨rfl, HF.out⟩

theorem inodeBytes_walk (N : Nd) (a : Option Addr) (n cap : Nat) (zs : List Int) (w : World) (hN : OkN N) (hr : IsRow .u8 w a n cap zs) : Calls Try.prog 3 #[.agg (nc N), .slice a n cap] w fun e w' => e = .returned (.bool true) ∧ Below w.heap.size w w' := by
  by_cases hn : n ≤ 200
  · have hB := hr.bytes
    generalize zs.take n = L at hB
    have hL := hB.2.1
    have cx : ∀ z p c, Bytes z p 32 (nb N) → Calls Try.prog 10 #[.slice p 32 c] z fun e w' => e = .returned (getN (nb N)) ∧ Below z.heap.size z w' := fun z p c h => nget_any p 32 c _ z h
    have cz : ∀ z p c, Bytes z p n L → Calls Try.prog 10 #[.slice p n c] z fun e w' => e = .returned (getN L) ∧ Below z.heap.size z w' := fun z p c h => nget_any p n c _ z h
    have cr : ∀ z, Calls Try.prog 11 #[.string (strOfNums L)] z fun e w' => e = .returned (getN L) ∧ Below z.heap.size z w' := fun z => rnget_any L z hL
    by_cases hk : N.k ≤ 3
    · rw [getN_nb hN hk] at cx
      by_cases hf : Fit L
      · rw [getN_ok hf] at cz cr
        exact bytes_le_0 N (ofN L) a n cap L w ⟨hN⟩ ⟨ok_ofN L hL⟩ hB hn hk ⟨((fit_iff L hL hf.1).1 hf).2⟩ ⟨cx⟩ ⟨cz⟩ ⟨cr⟩
      · rw [getN_no hf] at cz cr
        exact bytes_le_11 N zn a n cap L w ⟨hN⟩ ⟨ok_zn⟩ hB hn hk ⟨cx⟩ ⟨cz⟩ ⟨cr⟩
    · rw [getN_no (fun h => hk (by have := h.2.1; rwa [nb_parts] at this))] at cx
      by_cases hf : Fit L
      · rw [getN_ok hf] at cz cr
        exact bytes_gt_0 N (ofN L) a n cap L w ⟨hN⟩ ⟨ok_ofN L hL⟩ hB hn (by omega) ⟨((fit_iff L hL hf.1).1 hf).2⟩ ⟨cx⟩ ⟨cz⟩ ⟨cr⟩
      · rw [getN_no hf] at cz cr
        exact bytes_gt_11 N zn a n cap L w ⟨hN⟩ ⟨ok_zn⟩ hB hn (by omega) ⟨cx⟩ ⟨cz⟩ ⟨cr⟩
  · exact bytes_long N a n cap w (by omega)
end Go.Proofs.Ytpdggopkalbbeaa
