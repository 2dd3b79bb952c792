/-
  TreeNodes, walked.
-/
import Derived.Test.YtlbapcpcabieaaaDoorGU
import Derived.Test.YtlbapcpcabieaaaDoorG8
import Derived.Test.YtlbapcpcabieaaaDoorV4
namespace Go.Proofs.YtlbapcpcabieaaaDoor
set_option linter.unusedVariables false
open Go.RowKit Plain

theorem exec_neN0 {o : Oper} {ρ : Operand → Value} {w' : World} {t u : TypeId} (ht : RfT t) (hu : Tryd.prog.underlying u = some (.array 4 t)) (hgd : Tryd.prog.eqGuardType Tryd.prog.depth u = false) (x y : Operand) (ty : TypeId) (ho : o.op = .binOp .neq u x y ty) (A : List Rf) (hA : OkN A) (h4 : A.length = 4) (hx : ρ x = .agg (na A)) (hy : ρ y = .agg (na A)) :
    (execOp ρ o).run Tryd.prog w' = .ok (.value (.bool false)) w' := by
  rw [exec_neN ht hu hgd x y ty ho A A hA hA h4 h4 hx hy, eqN_self A h4]
  rfl
theorem exec_neK {o : Oper} {ρ : Operand → Value} {w' : World} (x y : Operand) (ty : TypeId) (ho : o.op = .binOp .neq 32 x y ty) (n : Int) (hx : ρ x = .int .i64 n) (hy : ρ y = .int .i64 n) :
    (execOp ρ o).run Tryd.prog w' = .ok (.value (.bool false)) w' := by
  unfold execOp
  simp [ho, hx, hy, eqGuard, binOp, Op.intCmp]
theorem exec_neK1 {o : Oper} {ρ : Operand → Value} {w' : World} (x y : Operand) (ty : TypeId) (ho : o.op = .binOp .neq 32 x y ty) (n m : Int) (h : n ≠ m) (hx : ρ x = .int .i64 n) (hy : ρ y = .int .i64 m) :
    (execOp ρ o).run Tryd.prog w' = .ok (.value (.bool true)) w' := by
  unfold execOp
  simp [ho, hx, hy, eqGuard, binOp, Op.intCmp, h]
set_option maxRecDepth 20000 in
set_option maxHeartbeats 4000000 in
theorem nodes_a (N Z : List Rf) (b : Option Addr) (len cap : Nat) (B : List Int) (w : World) (hT : Dig.Tabs w) (HN : Box (OkN N ∧ N.length = 4)) (HZ : Box (OkN Z ∧ Z.length = 4)) (hB : Bytes w b len B) (hl : len ≤ 300)
    (C1 : Box (∀ x, Below w.heap.size w x → Calls Tryd.prog 10 #[.slice b len cap] x fun e w' => e = .returned (.tuple #[.agg (na Z), .int .i64 0]) ∧ Below x.heap.size x w'))
    (C2 : Box (∀ x, Below w.heap.size w x → Calls Tryd.prog 11 #[.slice b len cap] x fun e w' => e = .returned (.tuple #[.agg (na Z), .int .i64 0]) ∧ Below x.heap.size x w')) (HEq : Box (decide (nb Z = B) = true)) :
    Calls Tryd.prog 3 #[.agg (na N), .slice b len cap] w fun e w' => e = .returned (.bool true) ∧ Below w.heap.size w w' := by
  have hg : ¬ 300 < (len : Int) := by omega
  obtain ⟨S, hS⟩ : ∃ S, w.heap.size = S := ⟨_, rfl⟩
  have HS : Box (w.heap.size = S) := ⟨hS⟩
  have HBy : Box (Byt B) := ⟨hB.2.1⟩
  have C0 : Box (∀ x a c, Bytes x a 160 (nb N) → 160 ≤ c → c ≤ maxLen → Calls Tryd.prog 10 #[.slice a 160 c] x fun e w' => e = .returned (.tuple #[.agg (na N), .int .i64 0]) ∧ Below x.heap.size x w') := ⟨fun x a c h1 h2 h3 => by
    have := tget_ok a c (nb N) x h1 h2 (by unfold maxLen at h3; omega)
    rwa [ofN_nb HN.out.1 4 (by rw [HN.out.2]; exact Nat.le_refl _), List.take_of_length_le (by rw [HN.out.2]; exact Nat.le_refl _)] at this⟩
  have H1 : Box (Below w.heap.size w (w.alloc (.cells (na N) 28)) ∧ LiesN (w.alloc (.cells (na N) 28)) S 28 N) := ⟨(Below.refl _ _).alloc (Nat.le_refl _) _, al_at hS⟩
  have HT : Box (∀ x, Below w.heap.size w x → Dig.Tabs x ∧ Bytes x b len B) := ⟨fun x hx => ⟨hT.below hx, hB.below hx⟩⟩
  clear hT hB hS hl
  go_enter Tryd.func3, Tryd.ntmps3
  go_upto_region 1 with fail
  rw [HS.out]
  generalize w.alloc (.cells (na N) 28) = w1 at H1 ⊢
  go_upto_region 6 with (go_at_call 8; refine Calls.mono (awake_any w1 (HT.out w1 H1.out.1).1) ?_; rintro e w2 ⟨rfl, hb⟩; have H2 : Box (Below w.heap.size w w2 ∧ LiesN w2 S 28 N) := ⟨below_to H1.out.1 hb, H1.out.2.below hb⟩; clear hb)
  clear H1
  go_upto_region 7 with (first
    | (refine atLoad _ ?_; refine wpList_run rfl _ _ (exec_node Tryd.underlying28 infoN (.tmp 2) rfl S rfl N HN.out.1 HN.out.2 H2.out.2) ?_)
    | (go_at_call 9; refine Calls.mono (tput_any N w2 HN.out.1 HN.out.2) ?_; rintro e w3 ⟨ax, cx, rfl, hB, hc1, hc2, hb⟩; have H3 : Box (Below w.heap.size w w3 ∧ LiesN w3 S 28 N ∧ Bytes w3 ax 160 (nb N) ∧ 160 ≤ cx ∧ cx ≤ maxLen) := ⟨below_to H2.out.1 hb, H2.out.2.below hb, hB, hc1, hc2⟩; clear hB hc1 hc2 hb))
  clear H2
  go_upto_region 8 with (first
    | (go_at_call 10; refine Calls.mono (C0.out w3 ax cx H3.out.2.2.1 H3.out.2.2.2.1 H3.out.2.2.2.2) ?_; rintro e w3' ⟨rfl, hb⟩; have H3' : Box (Below w.heap.size w w3' ∧ LiesN w3' S 28 N ∧ Bytes w3' ax 160 (nb N)) := ⟨below_to H3.out.1 hb, H3.out.2.1.below hb, H3.out.2.2.1.below hb⟩; clear hb)
    | (refine wpList_run rfl _ _ (exec_alloc 28 rfl _ zeroN) ?_)
    | (refine wpList_newN infoN w3' N HN.out.1 HN.out.2 rfl _ _ rfl rfl rfl rfl ?_; intro w4 hl hb; have H4 : Box (Below w.heap.size w w4 ∧ LiesN w4 S 28 N ∧ Bytes w4 ax 160 (nb N) ∧ LiesN w4 w3'.heap.size 28 N) := ⟨below_to H3'.out.1 hb, H3'.out.2.1.below hb, H3'.out.2.2.below hb, hl⟩; clear hl hb))
  generalize w3'.heap.size = G1 at H4 ⊢
  clear H3 H3' C0
  go_upto_region 9 with (first
    | (go_at_call 10; refine Calls.mono (C1.out w4 H4.out.1) ?_; rintro e w4' ⟨rfl, hb⟩; have H4' : Box (Below w.heap.size w w4' ∧ LiesN w4' S 28 N ∧ Bytes w4' ax 160 (nb N) ∧ LiesN w4' G1 28 N) := ⟨below_to H4.out.1 hb, H4.out.2.1.below hb, H4.out.2.2.1.below hb, H4.out.2.2.2.below hb⟩; clear hb)
    | (refine wpList_run rfl _ _ (exec_alloc 28 rfl _ zeroN) ?_)
    | (refine wpList_newN infoN w4' Z HZ.out.1 HZ.out.2 rfl _ _ rfl rfl rfl rfl ?_; intro w5 hl hb; have H5 : Box (Below w.heap.size w w5 ∧ LiesN w5 S 28 N ∧ Bytes w5 ax 160 (nb N) ∧ LiesN w5 G1 28 N ∧ LiesN w5 w4'.heap.size 28 Z) := ⟨below_to H4'.out.1 hb, H4'.out.2.1.below hb, H4'.out.2.2.1.below hb, H4'.out.2.2.2.below hb, hl⟩; clear hl hb))
  generalize w4'.heap.size = G2 at H5 ⊢
  clear H4 H4' C1
  go_upto_region 10 with (first
    | (go_at_call 11; refine Calls.mono (C2.out w5 H5.out.1) ?_; rintro e w5' ⟨rfl, hb⟩; have H5' : Box (Below w.heap.size w w5' ∧ LiesN w5' S 28 N ∧ Bytes w5' ax 160 (nb N) ∧ LiesN w5' G1 28 N ∧ LiesN w5' G2 28 Z) := ⟨below_to H5.out.1 hb, H5.out.2.1.below hb, H5.out.2.2.1.below hb, H5.out.2.2.2.1.below hb, H5.out.2.2.2.2.below hb⟩; clear hb)
    | (refine wpList_run rfl _ _ (exec_alloc 36 rfl _ zeroM) ?_)
    | (refine wpList_newN infoM w5' Z HZ.out.1 HZ.out.2 rfl _ _ rfl rfl rfl rfl ?_; intro w6 hl hb; have H6 : Box (Below w.heap.size w w6 ∧ LiesN w6 S 28 N ∧ Bytes w6 ax 160 (nb N) ∧ LiesN w6 G1 28 N ∧ LiesN w6 G2 28 Z ∧ LiesN w6 w5'.heap.size 36 Z) := ⟨below_to H5'.out.1 hb, H5'.out.2.1.below hb, H5'.out.2.2.1.below hb, H5'.out.2.2.2.1.below hb, H5'.out.2.2.2.2.below hb, hl⟩; clear hl hb))
  generalize w5'.heap.size = G3 at H6 ⊢
  clear H5 H5' C2
  have HL : Box (∀ x, Below w6.heap.size w6 x → LiesN x S 28 N ∧ LiesN x G1 28 N ∧ LiesN x G2 28 Z ∧ LiesN x G3 36 Z ∧ Bytes x ax 160 (nb N) ∧ Bytes x b len B) := ⟨fun x hx => ⟨H6.out.2.1.below hx, H6.out.2.2.2.1.below hx, H6.out.2.2.2.2.1.below hx, H6.out.2.2.2.2.2.below hx, H6.out.2.2.1.below hx, (HT.out x (below_to H6.out.1 hx)).2⟩⟩
  have HE : Box (Below w.heap.size w w6) := ⟨H6.out.1⟩
  clear H6 HT
  (try simp only [Act.put, List.setIfInBounds_toArray, List.set_cons_zero, List.set_cons_succ])
  refine Seq.begin_any (by kernel_rfl) (fun wd hd => ?_)
  have HX0 : Box (Below w6.heap.size w6 wd) := ⟨hd⟩
  clear hd
  refine Seq.take_lat (i := 0) (v := ?_) rfl (by kernel_rfl) (by kernel_rfl) (by kernel_rfl) (fun _ _ _ h => h) (by rfl) ?_ ?_
  rotate_left
  · intro w' hLat; change Below _ _ _ at hLat; go_simp <;> with_reducible rfl
  try simp only [Act.put, List.setIfInBounds_toArray, List.set_cons_zero, List.set_cons_succ, List.getElem_toArray, List.getElem_cons_zero]
  refine Seq.take_lat (i := 1) (v := .string (strOfNums (nb N))) rfl (by kernel_rfl) (by kernel_rfl) (by kernel_rfl) (fun _ _ _ h => h) (by rfl) (fun w' hLat => exec_conv (.tmp 36) rfl rfl ((HL.out w' (below_to HX0.out hLat)).2.2.2.2.1)) ?_
  try simp only [Act.put, List.setIfInBounds_toArray, List.set_cons_zero, List.set_cons_succ, List.getElem_toArray, List.getElem_cons_zero, List.getElem_cons_succ]
  refine Seq.take_lat (i := 2) (v := .agg (na N)) rfl (by kernel_rfl) (by kernel_rfl) (by kernel_rfl) (fun _ _ _ h => h) (by rfl) (fun w' hLat => exec_node Tryd.underlying28 infoN (.tmp 2) rfl S rfl N HN.out.1 HN.out.2 ((HL.out w' (below_to HX0.out hLat)).1)) ?_
  try simp only [Act.put, List.setIfInBounds_toArray, List.set_cons_zero, List.set_cons_succ, List.getElem_toArray, List.getElem_cons_zero, List.getElem_cons_succ]
  refine Seq.only_lat (i := 3) rfl (by kernel_rfl) (fun KK hK => ?_)
  rw [if_pos (by rfl)]
  go_simp
  refine Calls.mono (refs_any N wd HN.out.1 HN.out.2) ?_
  rintro e x3 ⟨rfl, hb⟩
  have HX3 : Box (Below w6.heap.size w6 x3) := ⟨below_to HX0.out hb⟩
  refine hK.out _ _ hb ?_
  clear hb
  clear hK KK
  try simp only [Act.put, List.setIfInBounds_toArray, List.set_cons_zero, List.set_cons_succ, List.getElem_toArray, List.getElem_cons_zero, List.getElem_cons_succ]
  refine Seq.only_lat (i := 4) rfl (by kernel_rfl) (fun KK hK => ?_)
  rw [if_pos (by rfl)]
  go_simp
  refine Calls.mono (rnput_any N x3 HN.out.1 HN.out.2) ?_
  rintro e x4 ⟨a4, c4, rfl, hB, hb⟩
  have HX4 : Box (Below w6.heap.size w6 x4 ∧ Bytes x4 a4 160 (nb N)) := ⟨below_to HX3.out hb, hB⟩
  refine hK.out _ _ hb ?_
  clear hb hB
  clear hK KK
  try simp only [Act.put, List.setIfInBounds_toArray, List.set_cons_zero, List.set_cons_succ, List.getElem_toArray, List.getElem_cons_zero, List.getElem_cons_succ]
  refine Seq.take_lat (i := 5) (v := .string (strOfNums (nb N))) rfl (by kernel_rfl) (by kernel_rfl) (by kernel_rfl) (fun _ _ _ h => h) (by rfl) (fun w' hLat => exec_conv (.tmp 40) rfl rfl (HX4.out.2.below hLat)) ?_
  try simp only [Act.put, List.setIfInBounds_toArray, List.set_cons_zero, List.set_cons_succ, List.getElem_toArray, List.getElem_cons_zero, List.getElem_cons_succ]
  refine Seq.take_lat (i := 6) (v := .bool false) rfl (by kernel_rfl) (by kernel_rfl) (by kernel_rfl) (fun _ _ _ h => h) (by rfl) (fun w' hLat => exec_neT (.tmp 37) (.tmp 41) _ rfl (nb N) (nb N) (byt_nb HN.out.1) (byt_nb HN.out.1) false (by simp) rfl rfl) ?_
  try simp only [Act.put, List.setIfInBounds_toArray, List.set_cons_zero, List.set_cons_succ, List.getElem_toArray, List.getElem_cons_zero, List.getElem_cons_succ]
  refine Seq.take_lat (i := 7) (v := ?_) rfl (by kernel_rfl) (by kernel_rfl) (by kernel_rfl) (fun _ _ _ h => h) (by rfl) ?_ ?_
  rotate_left
  · intro w' hLat; change Below _ _ _ at hLat; go_simp <;> with_reducible rfl
  try simp only [Act.put, List.setIfInBounds_toArray, List.set_cons_zero, List.set_cons_succ, List.getElem_toArray, List.getElem_cons_zero, List.getElem_cons_succ]
  refine Seq.take_lat (i := 8) (v := .agg (na N)) rfl (by kernel_rfl) (by kernel_rfl) (by kernel_rfl) (fun _ _ _ h => h) (by rfl) (fun w' hLat => exec_node Tryd.underlying28 infoN (.tmp 7) rfl G1 rfl N HN.out.1 HN.out.2 ((HL.out w' (below_to HX4.out.1 hLat)).2.1)) ?_
  try simp only [Act.put, List.setIfInBounds_toArray, List.set_cons_zero, List.set_cons_succ, List.getElem_toArray, List.getElem_cons_zero, List.getElem_cons_succ]
  refine Seq.take_lat (i := 9) (v := .agg (na N)) rfl (by kernel_rfl) (by kernel_rfl) (by kernel_rfl) (fun _ _ _ h => h) (by rfl) (fun w' hLat => exec_node Tryd.underlying28 infoN (.tmp 2) rfl S rfl N HN.out.1 HN.out.2 ((HL.out w' (below_to HX4.out.1 hLat)).1)) ?_
  try simp only [Act.put, List.setIfInBounds_toArray, List.set_cons_zero, List.set_cons_succ, List.getElem_toArray, List.getElem_cons_zero, List.getElem_cons_succ]
  refine Seq.take_lat (i := 10) (v := .bool false) rfl (by kernel_rfl) (by kernel_rfl) (by kernel_rfl) (fun _ _ _ h => h) (by rfl) (fun w' hLat => exec_neN0 rt26 Tryd.underlying28 guardN (.tmp 44) (.tmp 45) _ rfl N HN.out.1 HN.out.2 rfl rfl) ?_
  try simp only [Act.put, List.setIfInBounds_toArray, List.set_cons_zero, List.set_cons_succ, List.getElem_toArray, List.getElem_cons_zero, List.getElem_cons_succ]
  refine Seq.take_lat (i := 11) (v := ?_) rfl (by kernel_rfl) (by kernel_rfl) (by kernel_rfl) (fun _ _ _ h => h) (by rfl) ?_ ?_
  rotate_left
  · intro w' hLat; change Below _ _ _ at hLat; go_simp <;> with_reducible rfl
  try simp only [Act.put, List.setIfInBounds_toArray, List.set_cons_zero, List.set_cons_succ, List.getElem_toArray, List.getElem_cons_zero, List.getElem_cons_succ]
  refine Seq.take_lat (i := 12) (v := ?_) rfl (by kernel_rfl) (by kernel_rfl) (by kernel_rfl) (fun _ _ _ h => h) (by rfl) ?_ ?_
  rotate_left
  · intro w' hLat; change Below _ _ _ at hLat; go_simp <;> with_reducible rfl
  try simp only [Act.put, List.setIfInBounds_toArray, List.set_cons_zero, List.set_cons_succ, List.getElem_toArray, List.getElem_cons_zero, List.getElem_cons_succ]
  refine Seq.take_lat (i := 13) (v := ?_) rfl (by kernel_rfl) (by kernel_rfl) (by kernel_rfl) (fun _ _ _ h => h) (by rfl) ?_ ?_
  rotate_left
  · intro w' hLat; change Below _ _ _ at hLat; go_simp <;> with_reducible rfl
  try simp only [Act.put, List.setIfInBounds_toArray, List.set_cons_zero, List.set_cons_succ, List.getElem_toArray, List.getElem_cons_zero, List.getElem_cons_succ]
  refine Seq.take_lat (i := 14) (v := .bool false) rfl (by kernel_rfl) (by kernel_rfl) (by kernel_rfl) (fun _ _ _ h => h) (by rfl) (fun w' hLat => exec_neK _ _ _ rfl 0 rfl rfl) ?_
  try simp only [Act.put, List.setIfInBounds_toArray, List.set_cons_zero, List.set_cons_succ, List.getElem_toArray, List.getElem_cons_zero, List.getElem_cons_succ]
  refine Seq.take_lat (i := 15) (v := ?_) rfl (by kernel_rfl) (by kernel_rfl) (by kernel_rfl) (fun _ _ _ h => h) (by rfl) ?_ ?_
  rotate_left
  · intro w' hLat; change Below _ _ _ at hLat; go_simp <;> with_reducible rfl
  try simp only [Act.put, List.setIfInBounds_toArray, List.set_cons_zero, List.set_cons_succ, List.getElem_toArray, List.getElem_cons_zero, List.getElem_cons_succ]
  refine Seq.take_lat (i := 16) (v := ?_) rfl (by kernel_rfl) (by kernel_rfl) (by kernel_rfl) (fun _ _ _ h => h) (by rfl) ?_ ?_
  rotate_left
  · intro w' hLat; change Below _ _ _ at hLat; go_simp <;> with_reducible rfl
  try simp only [Act.put, List.setIfInBounds_toArray, List.set_cons_zero, List.set_cons_succ, List.getElem_toArray, List.getElem_cons_zero, List.getElem_cons_succ]
  refine Seq.take_lat (i := 17) (v := .agg (na Z)) rfl (by kernel_rfl) (by kernel_rfl) (by kernel_rfl) (fun _ _ _ h => h) (by rfl) (fun w' hLat => exec_node Tryd.underlying28 infoN (.tmp 9) rfl G2 rfl Z HZ.out.1 HZ.out.2 ((HL.out w' (below_to HX4.out.1 hLat)).2.2.1)) ?_
  try simp only [Act.put, List.setIfInBounds_toArray, List.set_cons_zero, List.set_cons_succ, List.getElem_toArray, List.getElem_cons_zero, List.getElem_cons_succ]
  refine Seq.take_lat (i := 19) (v := .agg (na Z)) rfl (by kernel_rfl) (by kernel_rfl) (by kernel_rfl) (fun _ _ _ h => h) (by rfl) (fun w' hLat => exec_node Tryd.underlying36 infoM (.tmp 11) rfl G3 rfl Z HZ.out.1 HZ.out.2 ((HL.out w' (below_to HX4.out.1 hLat)).2.2.2.1)) ?_
  try simp only [Act.put, List.setIfInBounds_toArray, List.set_cons_zero, List.set_cons_succ, List.getElem_toArray, List.getElem_cons_zero, List.getElem_cons_succ]
  refine Seq.only_lat (i := 18) rfl (by kernel_rfl) (fun KK hK => ?_)
  rw [if_pos (by rfl)]
  go_simp
  refine Calls.mono (refs_any Z x4 HZ.out.1 HZ.out.2) ?_
  rintro e x18 ⟨rfl, hb⟩
  have HX18 : Box (Below w6.heap.size w6 x18) := ⟨below_to HX4.out.1 hb⟩
  refine hK.out _ _ hb ?_
  clear hb
  clear hK KK
  try simp only [Act.put, List.setIfInBounds_toArray, List.set_cons_zero, List.set_cons_succ, List.getElem_toArray, List.getElem_cons_zero, List.getElem_cons_succ]
  refine Seq.take_lat (i := 20) (v := .bool false) rfl (by kernel_rfl) (by kernel_rfl) (by kernel_rfl) (fun _ _ _ h => h) (by rfl) (fun w' hLat => exec_neN0 rt35 Tryd.underlying36 guardM (.tmp 54) (.tmp 55) _ rfl Z HZ.out.1 HZ.out.2 rfl rfl) ?_
  try simp only [Act.put, List.setIfInBounds_toArray, List.set_cons_zero, List.set_cons_succ, List.getElem_toArray, List.getElem_cons_zero, List.getElem_cons_succ]
  refine Seq.take_lat (i := 21) (v := ?_) rfl (by kernel_rfl) (by kernel_rfl) (by kernel_rfl) (fun _ _ _ h => h) (by rfl) ?_ ?_
  rotate_left
  · intro w' hLat; change Below _ _ _ at hLat; go_simp <;> with_reducible rfl
  try simp only [Act.put, List.setIfInBounds_toArray, List.set_cons_zero, List.set_cons_succ, List.getElem_toArray, List.getElem_cons_zero, List.getElem_cons_succ]
  refine Seq.take_lat (i := 22) (v := ?_) rfl (by kernel_rfl) (by kernel_rfl) (by kernel_rfl) (fun _ _ _ h => h) (by rfl) ?_ ?_
  rotate_left
  · intro w' hLat; change Below _ _ _ at hLat; go_simp <;> with_reducible rfl
  try simp only [Act.put, List.setIfInBounds_toArray, List.set_cons_zero, List.set_cons_succ, List.getElem_toArray, List.getElem_cons_zero, List.getElem_cons_succ]
  refine Seq.take_lat (i := 23) (v := ?_) rfl (by kernel_rfl) (by kernel_rfl) (by kernel_rfl) (fun _ _ _ h => h) (by rfl) ?_ ?_
  rotate_left
  · intro w' hLat; change Below _ _ _ at hLat; go_simp <;> with_reducible rfl
  try simp only [Act.put, List.setIfInBounds_toArray, List.set_cons_zero, List.set_cons_succ, List.getElem_toArray, List.getElem_cons_zero, List.getElem_cons_succ]
  refine Seq.take_lat (i := 24) (v := ?_) rfl (by kernel_rfl) (by kernel_rfl) (by kernel_rfl) (fun _ _ _ h => h) (by rfl) ?_ ?_
  rotate_left
  · intro w' hLat; change Below _ _ _ at hLat; go_simp <;> with_reducible rfl
  try simp only [Act.put, List.setIfInBounds_toArray, List.set_cons_zero, List.set_cons_succ, List.getElem_toArray, List.getElem_cons_zero, List.getElem_cons_succ]
  refine Seq.take_lat (i := 25) (v := .bool false) rfl (by kernel_rfl) (by kernel_rfl) (by kernel_rfl) (fun _ _ _ h => h) (by rfl) (fun w' hLat => exec_neK _ _ _ rfl 0 rfl rfl) ?_
  try simp only [Act.put, List.setIfInBounds_toArray, List.set_cons_zero, List.set_cons_succ, List.getElem_toArray, List.getElem_cons_zero, List.getElem_cons_succ]
  refine Seq.take_lat (i := 26) (v := ?_) rfl (by kernel_rfl) (by kernel_rfl) (by kernel_rfl) (fun _ _ _ h => h) (by rfl) ?_ ?_
  rotate_left
  · intro w' hLat; change Below _ _ _ at hLat; go_simp <;> with_reducible rfl
  try simp only [Act.put, List.setIfInBounds_toArray, List.set_cons_zero, List.set_cons_succ, List.getElem_toArray, List.getElem_cons_zero, List.getElem_cons_succ]
  refine wpAnyH_done (by kernel_rfl) ?_ _
  go_upto_region 12 with fail
  refine Seq.begin_any (by kernel_rfl) (fun wd hd => ?_)
  have HY0 : Box (Below w6.heap.size w6 wd) := ⟨below_to HX18.out hd⟩
  clear hd
  refine Seq.take_lat (i := 0) (v := ?_) rfl (by kernel_rfl) (by kernel_rfl) (by kernel_rfl) (fun _ _ _ h => h) (by rfl) ?_ ?_
  rotate_left
  · intro w' hLat; change Below _ _ _ at hLat; go_simp <;> with_reducible rfl
  try simp only [Act.put, List.setIfInBounds_toArray, List.set_cons_zero, List.set_cons_succ, List.getElem_toArray, List.getElem_cons_zero]
  refine Seq.take_lat (i := 1) (v := .bool false) rfl (by kernel_rfl) (by kernel_rfl) (by kernel_rfl) (fun _ _ _ h => h) (by rfl) (fun w' hLat => exec_neK _ _ _ rfl 0 rfl rfl) ?_
  try simp only [Act.put, List.setIfInBounds_toArray, List.set_cons_zero, List.set_cons_succ, List.getElem_toArray, List.getElem_cons_zero, List.getElem_cons_succ]
  refine Seq.take_lat (i := 2) (v := ?_) rfl (by kernel_rfl) (by kernel_rfl) (by kernel_rfl) (fun _ _ _ h => h) (by rfl) ?_ ?_
  rotate_left
  · intro w' hLat; change Below _ _ _ at hLat; go_simp <;> with_reducible rfl
  try simp only [Act.put, List.setIfInBounds_toArray, List.set_cons_zero, List.set_cons_succ, List.getElem_toArray, List.getElem_cons_zero, List.getElem_cons_succ]
  refine Seq.take_lat (i := 3) (v := .agg (na Z)) rfl (by kernel_rfl) (by kernel_rfl) (by kernel_rfl) (fun _ _ _ h => h) (by rfl) (fun w' hLat => exec_node Tryd.underlying28 infoN (.tmp 9) rfl G2 rfl Z HZ.out.1 HZ.out.2 ((HL.out w' (below_to HY0.out hLat)).2.2.1)) ?_
  try simp only [Act.put, List.setIfInBounds_toArray, List.set_cons_zero, List.set_cons_succ, List.getElem_toArray, List.getElem_cons_zero, List.getElem_cons_succ]
  refine Seq.take_lat (i := 6) (v := ?_) rfl (by kernel_rfl) (by kernel_rfl) (by kernel_rfl) (fun _ _ _ h => h) (by rfl) ?_ ?_
  rotate_left
  · intro w' hLat; change Below _ _ _ at hLat; go_simp <;> with_reducible rfl
  try simp only [Act.put, List.setIfInBounds_toArray, List.set_cons_zero, List.set_cons_succ, List.getElem_toArray, List.getElem_cons_zero, List.getElem_cons_succ]
  refine Seq.take_lat (i := 7) (v := .string (strOfNums B)) rfl (by kernel_rfl) (by kernel_rfl) (by kernel_rfl) (fun _ _ _ h => h) (by rfl) (fun w' hLat => exec_conv (.tmp 69) rfl rfl ((HL.out w' (below_to HY0.out hLat)).2.2.2.2.2)) ?_
  try simp only [Act.put, List.setIfInBounds_toArray, List.set_cons_zero, List.set_cons_succ, List.getElem_toArray, List.getElem_cons_zero, List.getElem_cons_succ]
  refine Seq.only_lat (i := 4) rfl (by kernel_rfl) (fun KK hK => ?_)
  rw [if_pos (by rfl)]
  go_simp
  refine Calls.mono (tput_any Z wd HZ.out.1 HZ.out.2) ?_
  rintro e x4 ⟨a4, c4, rfl, hB, -, -, hb⟩
  have HY4 : Box (Below w6.heap.size w6 x4 ∧ Bytes x4 a4 160 (nb Z)) := ⟨below_to HY0.out hb, hB⟩
  refine hK.out _ _ hb ?_
  clear hb hB
  clear hK KK
  try simp only [Act.put, List.setIfInBounds_toArray, List.set_cons_zero, List.set_cons_succ, List.getElem_toArray, List.getElem_cons_zero, List.getElem_cons_succ]
  refine Seq.take_lat (i := 5) (v := .string (strOfNums (nb Z))) rfl (by kernel_rfl) (by kernel_rfl) (by kernel_rfl) (fun _ _ _ h => h) (by rfl) (fun w' hLat => exec_conv (.tmp 67) rfl rfl (HY4.out.2.below hLat)) ?_
  try simp only [Act.put, List.setIfInBounds_toArray, List.set_cons_zero, List.set_cons_succ, List.getElem_toArray, List.getElem_cons_zero, List.getElem_cons_succ]
  refine Seq.take_lat (i := 8) (v := .bool true) rfl (by kernel_rfl) (by kernel_rfl) (by kernel_rfl) (fun _ _ _ h => h) (by rfl) (fun w' hLat => exec_eqT (.tmp 68) (.tmp 70) _ rfl (nb Z) B (byt_nb HZ.out.1) HBy.out true HEq.out rfl rfl) ?_
  try simp only [Act.put, List.setIfInBounds_toArray, List.set_cons_zero, List.set_cons_succ, List.getElem_toArray, List.getElem_cons_zero, List.getElem_cons_succ]
  refine Seq.take_lat (i := 9) (v := ?_) rfl (by kernel_rfl) (by kernel_rfl) (by kernel_rfl) (fun _ _ _ h => h) (by rfl) ?_ ?_
  rotate_left
  · intro w' hLat; change Below _ _ _ at hLat; go_simp <;> with_reducible rfl
  try simp only [Act.put, List.setIfInBounds_toArray, List.set_cons_zero, List.set_cons_succ, List.getElem_toArray, List.getElem_cons_zero, List.getElem_cons_succ]
  refine Seq.take_lat (i := 10) (v := ?_) rfl (by kernel_rfl) (by kernel_rfl) (by kernel_rfl) (fun _ _ _ h => h) (by rfl) ?_ ?_
  rotate_left
  · intro w' hLat; change Below _ _ _ at hLat; go_simp <;> with_reducible rfl
  try simp only [Act.put, List.setIfInBounds_toArray, List.set_cons_zero, List.set_cons_succ, List.getElem_toArray, List.getElem_cons_zero, List.getElem_cons_succ]
  refine wpAnyH_done (by kernel_rfl) ?_ _
  go_wp2
  go_ret
  exact ⟨rfl, below_to HE.out HY4.out.1⟩
set_option maxRecDepth 20000 in
set_option maxHeartbeats 4000000 in
theorem nodes_b (N Z : List Rf) (b : Option Addr) (len cap : Nat) (B : List Int) (w : World) (hT : Dig.Tabs w) (HN : Box (OkN N ∧ N.length = 4)) (HZ : Box (OkN Z ∧ Z.length = 4)) (hB : Bytes w b len B) (hl : len ≤ 300)
    (C1 : Box (∀ x, Below w.heap.size w x → Calls Tryd.prog 10 #[.slice b len cap] x fun e w' => e = .returned (.tuple #[.agg (na Z), .int .i64 11]) ∧ Below x.heap.size x w'))
    (C2 : Box (∀ x, Below w.heap.size w x → Calls Tryd.prog 11 #[.slice b len cap] x fun e w' => e = .returned (.tuple #[.agg (na Z), .int .i64 11]) ∧ Below x.heap.size x w')) :
    Calls Tryd.prog 3 #[.agg (na N), .slice b len cap] w fun e w' => e = .returned (.bool true) ∧ Below w.heap.size w w' := by
  have hg : ¬ 300 < (len : Int) := by omega
  obtain ⟨S, hS⟩ : ∃ S, w.heap.size = S := ⟨_, rfl⟩
  have HS : Box (w.heap.size = S) := ⟨hS⟩
  have HBy : Box (Byt B) := ⟨hB.2.1⟩
  have C0 : Box (∀ x a c, Bytes x a 160 (nb N) → 160 ≤ c → c ≤ maxLen → Calls Tryd.prog 10 #[.slice a 160 c] x fun e w' => e = .returned (.tuple #[.agg (na N), .int .i64 0]) ∧ Below x.heap.size x w') := ⟨fun x a c h1 h2 h3 => by
    have := tget_ok a c (nb N) x h1 h2 (by unfold maxLen at h3; omega)
    rwa [ofN_nb HN.out.1 4 (by rw [HN.out.2]; exact Nat.le_refl _), List.take_of_length_le (by rw [HN.out.2]; exact Nat.le_refl _)] at this⟩
  have H1 : Box (Below w.heap.size w (w.alloc (.cells (na N) 28)) ∧ LiesN (w.alloc (.cells (na N) 28)) S 28 N) := ⟨(Below.refl _ _).alloc (Nat.le_refl _) _, al_at hS⟩
  have HT : Box (∀ x, Below w.heap.size w x → Dig.Tabs x ∧ Bytes x b len B) := ⟨fun x hx => ⟨hT.below hx, hB.below hx⟩⟩
  clear hT hB hS hl
  go_enter Tryd.func3, Tryd.ntmps3
  go_upto_region 1 with fail
  rw [HS.out]
  generalize w.alloc (.cells (na N) 28) = w1 at H1 ⊢
  go_upto_region 6 with (go_at_call 8; refine Calls.mono (awake_any w1 (HT.out w1 H1.out.1).1) ?_; rintro e w2 ⟨rfl, hb⟩; have H2 : Box (Below w.heap.size w w2 ∧ LiesN w2 S 28 N) := ⟨below_to H1.out.1 hb, H1.out.2.below hb⟩; clear hb)
  clear H1
  go_upto_region 7 with (first
    | (refine atLoad _ ?_; refine wpList_run rfl _ _ (exec_node Tryd.underlying28 infoN (.tmp 2) rfl S rfl N HN.out.1 HN.out.2 H2.out.2) ?_)
    | (go_at_call 9; refine Calls.mono (tput_any N w2 HN.out.1 HN.out.2) ?_; rintro e w3 ⟨ax, cx, rfl, hB, hc1, hc2, hb⟩; have H3 : Box (Below w.heap.size w w3 ∧ LiesN w3 S 28 N ∧ Bytes w3 ax 160 (nb N) ∧ 160 ≤ cx ∧ cx ≤ maxLen) := ⟨below_to H2.out.1 hb, H2.out.2.below hb, hB, hc1, hc2⟩; clear hB hc1 hc2 hb))
  clear H2
  go_upto_region 8 with (first
    | (go_at_call 10; refine Calls.mono (C0.out w3 ax cx H3.out.2.2.1 H3.out.2.2.2.1 H3.out.2.2.2.2) ?_; rintro e w3' ⟨rfl, hb⟩; have H3' : Box (Below w.heap.size w w3' ∧ LiesN w3' S 28 N ∧ Bytes w3' ax 160 (nb N)) := ⟨below_to H3.out.1 hb, H3.out.2.1.below hb, H3.out.2.2.1.below hb⟩; clear hb)
    | (refine wpList_run rfl _ _ (exec_alloc 28 rfl _ zeroN) ?_)
    | (refine wpList_newN infoN w3' N HN.out.1 HN.out.2 rfl _ _ rfl rfl rfl rfl ?_; intro w4 hl hb; have H4 : Box (Below w.heap.size w w4 ∧ LiesN w4 S 28 N ∧ Bytes w4 ax 160 (nb N) ∧ LiesN w4 w3'.heap.size 28 N) := ⟨below_to H3'.out.1 hb, H3'.out.2.1.below hb, H3'.out.2.2.below hb, hl⟩; clear hl hb))
  generalize w3'.heap.size = G1 at H4 ⊢
  clear H3 H3' C0
  go_upto_region 9 with (first
    | (go_at_call 10; refine Calls.mono (C1.out w4 H4.out.1) ?_; rintro e w4' ⟨rfl, hb⟩; have H4' : Box (Below w.heap.size w w4' ∧ LiesN w4' S 28 N ∧ Bytes w4' ax 160 (nb N) ∧ LiesN w4' G1 28 N) := ⟨below_to H4.out.1 hb, H4.out.2.1.below hb, H4.out.2.2.1.below hb, H4.out.2.2.2.below hb⟩; clear hb)
    | (refine wpList_run rfl _ _ (exec_alloc 28 rfl _ zeroN) ?_)
    | (refine wpList_newN infoN w4' Z HZ.out.1 HZ.out.2 rfl _ _ rfl rfl rfl rfl ?_; intro w5 hl hb; have H5 : Box (Below w.heap.size w w5 ∧ LiesN w5 S 28 N ∧ Bytes w5 ax 160 (nb N) ∧ LiesN w5 G1 28 N ∧ LiesN w5 w4'.heap.size 28 Z) := ⟨below_to H4'.out.1 hb, H4'.out.2.1.below hb, H4'.out.2.2.1.below hb, H4'.out.2.2.2.below hb, hl⟩; clear hl hb))
  generalize w4'.heap.size = G2 at H5 ⊢
  clear H4 H4' C1
  go_upto_region 10 with (first
    | (go_at_call 11; refine Calls.mono (C2.out w5 H5.out.1) ?_; rintro e w5' ⟨rfl, hb⟩; have H5' : Box (Below w.heap.size w w5' ∧ LiesN w5' S 28 N ∧ Bytes w5' ax 160 (nb N) ∧ LiesN w5' G1 28 N ∧ LiesN w5' G2 28 Z) := ⟨below_to H5.out.1 hb, H5.out.2.1.below hb, H5.out.2.2.1.below hb, H5.out.2.2.2.1.below hb, H5.out.2.2.2.2.below hb⟩; clear hb)
    | (refine wpList_run rfl _ _ (exec_alloc 36 rfl _ zeroM) ?_)
    | (refine wpList_newN infoM w5' Z HZ.out.1 HZ.out.2 rfl _ _ rfl rfl rfl rfl ?_; intro w6 hl hb; have H6 : Box (Below w.heap.size w w6 ∧ LiesN w6 S 28 N ∧ Bytes w6 ax 160 (nb N) ∧ LiesN w6 G1 28 N ∧ LiesN w6 G2 28 Z ∧ LiesN w6 w5'.heap.size 36 Z) := ⟨below_to H5'.out.1 hb, H5'.out.2.1.below hb, H5'.out.2.2.1.below hb, H5'.out.2.2.2.1.below hb, H5'.out.2.2.2.2.below hb, hl⟩; clear hl hb))
  generalize w5'.heap.size = G3 at H6 ⊢
  clear H5 H5' C2
  have HL : Box (∀ x, Below w6.heap.size w6 x → LiesN x S 28 N ∧ LiesN x G1 28 N ∧ LiesN x G2 28 Z ∧ LiesN x G3 36 Z ∧ Bytes x ax 160 (nb N) ∧ Bytes x b len B) := ⟨fun x hx => ⟨H6.out.2.1.below hx, H6.out.2.2.2.1.below hx, H6.out.2.2.2.2.1.below hx, H6.out.2.2.2.2.2.below hx, H6.out.2.2.1.below hx, (HT.out x (below_to H6.out.1 hx)).2⟩⟩
  have HE : Box (Below w.heap.size w w6) := ⟨H6.out.1⟩
  clear H6 HT
  (try simp only [Act.put, List.setIfInBounds_toArray, List.set_cons_zero, List.set_cons_succ])
  refine Seq.begin_any (by kernel_rfl) (fun wd hd => ?_)
  have HX0 : Box (Below w6.heap.size w6 wd) := ⟨hd⟩
  clear hd
  refine Seq.take_lat (i := 0) (v := ?_) rfl (by kernel_rfl) (by kernel_rfl) (by kernel_rfl) (fun _ _ _ h => h) (by rfl) ?_ ?_
  rotate_left
  · intro w' hLat; change Below _ _ _ at hLat; go_simp <;> with_reducible rfl
  try simp only [Act.put, List.setIfInBounds_toArray, List.set_cons_zero, List.set_cons_succ, List.getElem_toArray, List.getElem_cons_zero]
  refine Seq.take_lat (i := 1) (v := .string (strOfNums (nb N))) rfl (by kernel_rfl) (by kernel_rfl) (by kernel_rfl) (fun _ _ _ h => h) (by rfl) (fun w' hLat => exec_conv (.tmp 36) rfl rfl ((HL.out w' (below_to HX0.out hLat)).2.2.2.2.1)) ?_
  try simp only [Act.put, List.setIfInBounds_toArray, List.set_cons_zero, List.set_cons_succ, List.getElem_toArray, List.getElem_cons_zero, List.getElem_cons_succ]
  refine Seq.take_lat (i := 2) (v := .agg (na N)) rfl (by kernel_rfl) (by kernel_rfl) (by kernel_rfl) (fun _ _ _ h => h) (by rfl) (fun w' hLat => exec_node Tryd.underlying28 infoN (.tmp 2) rfl S rfl N HN.out.1 HN.out.2 ((HL.out w' (below_to HX0.out hLat)).1)) ?_
  try simp only [Act.put, List.setIfInBounds_toArray, List.set_cons_zero, List.set_cons_succ, List.getElem_toArray, List.getElem_cons_zero, List.getElem_cons_succ]
  refine Seq.only_lat (i := 3) rfl (by kernel_rfl) (fun KK hK => ?_)
  rw [if_pos (by rfl)]
  go_simp
  refine Calls.mono (refs_any N wd HN.out.1 HN.out.2) ?_
  rintro e x3 ⟨rfl, hb⟩
  have HX3 : Box (Below w6.heap.size w6 x3) := ⟨below_to HX0.out hb⟩
  refine hK.out _ _ hb ?_
  clear hb
  clear hK KK
  try simp only [Act.put, List.setIfInBounds_toArray, List.set_cons_zero, List.set_cons_succ, List.getElem_toArray, List.getElem_cons_zero, List.getElem_cons_succ]
  refine Seq.only_lat (i := 4) rfl (by kernel_rfl) (fun KK hK => ?_)
  rw [if_pos (by rfl)]
  go_simp
  refine Calls.mono (rnput_any N x3 HN.out.1 HN.out.2) ?_
  rintro e x4 ⟨a4, c4, rfl, hB, hb⟩
  have HX4 : Box (Below w6.heap.size w6 x4 ∧ Bytes x4 a4 160 (nb N)) := ⟨below_to HX3.out hb, hB⟩
  refine hK.out _ _ hb ?_
  clear hb hB
  clear hK KK
  try simp only [Act.put, List.setIfInBounds_toArray, List.set_cons_zero, List.set_cons_succ, List.getElem_toArray, List.getElem_cons_zero, List.getElem_cons_succ]
  refine Seq.take_lat (i := 5) (v := .string (strOfNums (nb N))) rfl (by kernel_rfl) (by kernel_rfl) (by kernel_rfl) (fun _ _ _ h => h) (by rfl) (fun w' hLat => exec_conv (.tmp 40) rfl rfl (HX4.out.2.below hLat)) ?_
  try simp only [Act.put, List.setIfInBounds_toArray, List.set_cons_zero, List.set_cons_succ, List.getElem_toArray, List.getElem_cons_zero, List.getElem_cons_succ]
  refine Seq.take_lat (i := 6) (v := .bool false) rfl (by kernel_rfl) (by kernel_rfl) (by kernel_rfl) (fun _ _ _ h => h) (by rfl) (fun w' hLat => exec_neT (.tmp 37) (.tmp 41) _ rfl (nb N) (nb N) (byt_nb HN.out.1) (byt_nb HN.out.1) false (by simp) rfl rfl) ?_
  try simp only [Act.put, List.setIfInBounds_toArray, List.set_cons_zero, List.set_cons_succ, List.getElem_toArray, List.getElem_cons_zero, List.getElem_cons_succ]
  refine Seq.take_lat (i := 7) (v := ?_) rfl (by kernel_rfl) (by kernel_rfl) (by kernel_rfl) (fun _ _ _ h => h) (by rfl) ?_ ?_
  rotate_left
  · intro w' hLat; change Below _ _ _ at hLat; go_simp <;> with_reducible rfl
  try simp only [Act.put, List.setIfInBounds_toArray, List.set_cons_zero, List.set_cons_succ, List.getElem_toArray, List.getElem_cons_zero, List.getElem_cons_succ]
  refine Seq.take_lat (i := 8) (v := .agg (na N)) rfl (by kernel_rfl) (by kernel_rfl) (by kernel_rfl) (fun _ _ _ h => h) (by rfl) (fun w' hLat => exec_node Tryd.underlying28 infoN (.tmp 7) rfl G1 rfl N HN.out.1 HN.out.2 ((HL.out w' (below_to HX4.out.1 hLat)).2.1)) ?_
  try simp only [Act.put, List.setIfInBounds_toArray, List.set_cons_zero, List.set_cons_succ, List.getElem_toArray, List.getElem_cons_zero, List.getElem_cons_succ]
  refine Seq.take_lat (i := 9) (v := .agg (na N)) rfl (by kernel_rfl) (by kernel_rfl) (by kernel_rfl) (fun _ _ _ h => h) (by rfl) (fun w' hLat => exec_node Tryd.underlying28 infoN (.tmp 2) rfl S rfl N HN.out.1 HN.out.2 ((HL.out w' (below_to HX4.out.1 hLat)).1)) ?_
  try simp only [Act.put, List.setIfInBounds_toArray, List.set_cons_zero, List.set_cons_succ, List.getElem_toArray, List.getElem_cons_zero, List.getElem_cons_succ]
  refine Seq.take_lat (i := 10) (v := .bool false) rfl (by kernel_rfl) (by kernel_rfl) (by kernel_rfl) (fun _ _ _ h => h) (by rfl) (fun w' hLat => exec_neN0 rt26 Tryd.underlying28 guardN (.tmp 44) (.tmp 45) _ rfl N HN.out.1 HN.out.2 rfl rfl) ?_
  try simp only [Act.put, List.setIfInBounds_toArray, List.set_cons_zero, List.set_cons_succ, List.getElem_toArray, List.getElem_cons_zero, List.getElem_cons_succ]
  refine Seq.take_lat (i := 11) (v := ?_) rfl (by kernel_rfl) (by kernel_rfl) (by kernel_rfl) (fun _ _ _ h => h) (by rfl) ?_ ?_
  rotate_left
  · intro w' hLat; change Below _ _ _ at hLat; go_simp <;> with_reducible rfl
  try simp only [Act.put, List.setIfInBounds_toArray, List.set_cons_zero, List.set_cons_succ, List.getElem_toArray, List.getElem_cons_zero, List.getElem_cons_succ]
  refine Seq.take_lat (i := 12) (v := ?_) rfl (by kernel_rfl) (by kernel_rfl) (by kernel_rfl) (fun _ _ _ h => h) (by rfl) ?_ ?_
  rotate_left
  · intro w' hLat; change Below _ _ _ at hLat; go_simp <;> with_reducible rfl
  try simp only [Act.put, List.setIfInBounds_toArray, List.set_cons_zero, List.set_cons_succ, List.getElem_toArray, List.getElem_cons_zero, List.getElem_cons_succ]
  refine Seq.take_lat (i := 13) (v := ?_) rfl (by kernel_rfl) (by kernel_rfl) (by kernel_rfl) (fun _ _ _ h => h) (by rfl) ?_ ?_
  rotate_left
  · intro w' hLat; change Below _ _ _ at hLat; go_simp <;> with_reducible rfl
  try simp only [Act.put, List.setIfInBounds_toArray, List.set_cons_zero, List.set_cons_succ, List.getElem_toArray, List.getElem_cons_zero, List.getElem_cons_succ]
  refine Seq.take_lat (i := 14) (v := .bool false) rfl (by kernel_rfl) (by kernel_rfl) (by kernel_rfl) (fun _ _ _ h => h) (by rfl) (fun w' hLat => exec_neK _ _ _ rfl 0 rfl rfl) ?_
  try simp only [Act.put, List.setIfInBounds_toArray, List.set_cons_zero, List.set_cons_succ, List.getElem_toArray, List.getElem_cons_zero, List.getElem_cons_succ]
  refine Seq.take_lat (i := 15) (v := ?_) rfl (by kernel_rfl) (by kernel_rfl) (by kernel_rfl) (fun _ _ _ h => h) (by rfl) ?_ ?_
  rotate_left
  · intro w' hLat; change Below _ _ _ at hLat; go_simp <;> with_reducible rfl
  try simp only [Act.put, List.setIfInBounds_toArray, List.set_cons_zero, List.set_cons_succ, List.getElem_toArray, List.getElem_cons_zero, List.getElem_cons_succ]
  refine Seq.take_lat (i := 16) (v := ?_) rfl (by kernel_rfl) (by kernel_rfl) (by kernel_rfl) (fun _ _ _ h => h) (by rfl) ?_ ?_
  rotate_left
  · intro w' hLat; change Below _ _ _ at hLat; go_simp <;> with_reducible rfl
  try simp only [Act.put, List.setIfInBounds_toArray, List.set_cons_zero, List.set_cons_succ, List.getElem_toArray, List.getElem_cons_zero, List.getElem_cons_succ]
  refine Seq.take_lat (i := 17) (v := .agg (na Z)) rfl (by kernel_rfl) (by kernel_rfl) (by kernel_rfl) (fun _ _ _ h => h) (by rfl) (fun w' hLat => exec_node Tryd.underlying28 infoN (.tmp 9) rfl G2 rfl Z HZ.out.1 HZ.out.2 ((HL.out w' (below_to HX4.out.1 hLat)).2.2.1)) ?_
  try simp only [Act.put, List.setIfInBounds_toArray, List.set_cons_zero, List.set_cons_succ, List.getElem_toArray, List.getElem_cons_zero, List.getElem_cons_succ]
  refine Seq.take_lat (i := 19) (v := .agg (na Z)) rfl (by kernel_rfl) (by kernel_rfl) (by kernel_rfl) (fun _ _ _ h => h) (by rfl) (fun w' hLat => exec_node Tryd.underlying36 infoM (.tmp 11) rfl G3 rfl Z HZ.out.1 HZ.out.2 ((HL.out w' (below_to HX4.out.1 hLat)).2.2.2.1)) ?_
  try simp only [Act.put, List.setIfInBounds_toArray, List.set_cons_zero, List.set_cons_succ, List.getElem_toArray, List.getElem_cons_zero, List.getElem_cons_succ]
  refine Seq.only_lat (i := 18) rfl (by kernel_rfl) (fun KK hK => ?_)
  rw [if_pos (by rfl)]
  go_simp
  refine Calls.mono (refs_any Z x4 HZ.out.1 HZ.out.2) ?_
  rintro e x18 ⟨rfl, hb⟩
  have HX18 : Box (Below w6.heap.size w6 x18) := ⟨below_to HX4.out.1 hb⟩
  refine hK.out _ _ hb ?_
  clear hb
  clear hK KK
  try simp only [Act.put, List.setIfInBounds_toArray, List.set_cons_zero, List.set_cons_succ, List.getElem_toArray, List.getElem_cons_zero, List.getElem_cons_succ]
  refine Seq.take_lat (i := 20) (v := .bool false) rfl (by kernel_rfl) (by kernel_rfl) (by kernel_rfl) (fun _ _ _ h => h) (by rfl) (fun w' hLat => exec_neN0 rt35 Tryd.underlying36 guardM (.tmp 54) (.tmp 55) _ rfl Z HZ.out.1 HZ.out.2 rfl rfl) ?_
  try simp only [Act.put, List.setIfInBounds_toArray, List.set_cons_zero, List.set_cons_succ, List.getElem_toArray, List.getElem_cons_zero, List.getElem_cons_succ]
  refine Seq.take_lat (i := 21) (v := ?_) rfl (by kernel_rfl) (by kernel_rfl) (by kernel_rfl) (fun _ _ _ h => h) (by rfl) ?_ ?_
  rotate_left
  · intro w' hLat; change Below _ _ _ at hLat; go_simp <;> with_reducible rfl
  try simp only [Act.put, List.setIfInBounds_toArray, List.set_cons_zero, List.set_cons_succ, List.getElem_toArray, List.getElem_cons_zero, List.getElem_cons_succ]
  refine Seq.take_lat (i := 22) (v := ?_) rfl (by kernel_rfl) (by kernel_rfl) (by kernel_rfl) (fun _ _ _ h => h) (by rfl) ?_ ?_
  rotate_left
  · intro w' hLat; change Below _ _ _ at hLat; go_simp <;> with_reducible rfl
  try simp only [Act.put, List.setIfInBounds_toArray, List.set_cons_zero, List.set_cons_succ, List.getElem_toArray, List.getElem_cons_zero, List.getElem_cons_succ]
  refine Seq.take_lat (i := 23) (v := ?_) rfl (by kernel_rfl) (by kernel_rfl) (by kernel_rfl) (fun _ _ _ h => h) (by rfl) ?_ ?_
  rotate_left
  · intro w' hLat; change Below _ _ _ at hLat; go_simp <;> with_reducible rfl
  try simp only [Act.put, List.setIfInBounds_toArray, List.set_cons_zero, List.set_cons_succ, List.getElem_toArray, List.getElem_cons_zero, List.getElem_cons_succ]
  refine Seq.take_lat (i := 24) (v := ?_) rfl (by kernel_rfl) (by kernel_rfl) (by kernel_rfl) (fun _ _ _ h => h) (by rfl) ?_ ?_
  rotate_left
  · intro w' hLat; change Below _ _ _ at hLat; go_simp <;> with_reducible rfl
  try simp only [Act.put, List.setIfInBounds_toArray, List.set_cons_zero, List.set_cons_succ, List.getElem_toArray, List.getElem_cons_zero, List.getElem_cons_succ]
  refine Seq.take_lat (i := 25) (v := .bool false) rfl (by kernel_rfl) (by kernel_rfl) (by kernel_rfl) (fun _ _ _ h => h) (by rfl) (fun w' hLat => exec_neK _ _ _ rfl 11 rfl rfl) ?_
  try simp only [Act.put, List.setIfInBounds_toArray, List.set_cons_zero, List.set_cons_succ, List.getElem_toArray, List.getElem_cons_zero, List.getElem_cons_succ]
  refine Seq.take_lat (i := 26) (v := ?_) rfl (by kernel_rfl) (by kernel_rfl) (by kernel_rfl) (fun _ _ _ h => h) (by rfl) ?_ ?_
  rotate_left
  · intro w' hLat; change Below _ _ _ at hLat; go_simp <;> with_reducible rfl
  try simp only [Act.put, List.setIfInBounds_toArray, List.set_cons_zero, List.set_cons_succ, List.getElem_toArray, List.getElem_cons_zero, List.getElem_cons_succ]
  refine wpAnyH_done (by kernel_rfl) ?_ _
  go_upto_region 12 with fail
  refine Seq.begin_any (by kernel_rfl) (fun wd hd => ?_)
  have HY0 : Box (Below w6.heap.size w6 wd) := ⟨below_to HX18.out hd⟩
  clear hd
  refine Seq.take_lat (i := 0) (v := ?_) rfl (by kernel_rfl) (by kernel_rfl) (by kernel_rfl) (fun _ _ _ h => h) (by rfl) ?_ ?_
  rotate_left
  · intro w' hLat; change Below _ _ _ at hLat; go_simp <;> with_reducible rfl
  try simp only [Act.put, List.setIfInBounds_toArray, List.set_cons_zero, List.set_cons_succ, List.getElem_toArray, List.getElem_cons_zero]
  refine Seq.take_lat (i := 1) (v := .bool true) rfl (by kernel_rfl) (by kernel_rfl) (by kernel_rfl) (fun _ _ _ h => h) (by rfl) (fun w' hLat => exec_neK1 _ _ _ rfl 11 0 (by decide) rfl rfl) ?_
  try simp only [Act.put, List.setIfInBounds_toArray, List.set_cons_zero, List.set_cons_succ, List.getElem_toArray, List.getElem_cons_zero, List.getElem_cons_succ]
  refine Seq.take_lat (i := 2) (v := ?_) rfl (by kernel_rfl) (by kernel_rfl) (by kernel_rfl) (fun _ _ _ h => h) (by rfl) ?_ ?_
  rotate_left
  · intro w' hLat; change Below _ _ _ at hLat; go_simp <;> with_reducible rfl
  try simp only [Act.put, List.setIfInBounds_toArray, List.set_cons_zero, List.set_cons_succ, List.getElem_toArray, List.getElem_cons_zero, List.getElem_cons_succ]
  refine Seq.pass_lat (i := 3) rfl (by kernel_rfl) (by kernel_rfl) (by kernel_rfl) (fun _ _ _ h => h) (by rfl) ?_
  try simp only [Act.put, List.setIfInBounds_toArray, List.set_cons_zero, List.set_cons_succ, List.getElem_toArray, List.getElem_cons_zero, List.getElem_cons_succ]
  refine Seq.pass_lat (i := 4) rfl (by kernel_rfl) (by kernel_rfl) (by kernel_rfl) (fun _ _ _ h => h) (by rfl) ?_
  try simp only [Act.put, List.setIfInBounds_toArray, List.set_cons_zero, List.set_cons_succ, List.getElem_toArray, List.getElem_cons_zero, List.getElem_cons_succ]
  refine Seq.pass_lat (i := 5) rfl (by kernel_rfl) (by kernel_rfl) (by kernel_rfl) (fun _ _ _ h => h) (by rfl) ?_
  try simp only [Act.put, List.setIfInBounds_toArray, List.set_cons_zero, List.set_cons_succ, List.getElem_toArray, List.getElem_cons_zero, List.getElem_cons_succ]
  refine Seq.pass_lat (i := 6) rfl (by kernel_rfl) (by kernel_rfl) (by kernel_rfl) (fun _ _ _ h => h) (by rfl) ?_
  try simp only [Act.put, List.setIfInBounds_toArray, List.set_cons_zero, List.set_cons_succ, List.getElem_toArray, List.getElem_cons_zero, List.getElem_cons_succ]
  refine Seq.pass_lat (i := 7) rfl (by kernel_rfl) (by kernel_rfl) (by kernel_rfl) (fun _ _ _ h => h) (by rfl) ?_
  try simp only [Act.put, List.setIfInBounds_toArray, List.set_cons_zero, List.set_cons_succ, List.getElem_toArray, List.getElem_cons_zero, List.getElem_cons_succ]
  refine Seq.pass_lat (i := 8) rfl (by kernel_rfl) (by kernel_rfl) (by kernel_rfl) (fun _ _ _ h => h) (by rfl) ?_
  try simp only [Act.put, List.setIfInBounds_toArray, List.set_cons_zero, List.set_cons_succ, List.getElem_toArray, List.getElem_cons_zero, List.getElem_cons_succ]
  refine Seq.take_lat (i := 9) (v := ?_) rfl (by kernel_rfl) (by kernel_rfl) (by kernel_rfl) (fun _ _ _ h => h) (by rfl) ?_ ?_
  rotate_left
  · intro w' hLat; change Below _ _ _ at hLat; go_simp <;> with_reducible rfl
  try simp only [Act.put, List.setIfInBounds_toArray, List.set_cons_zero, List.set_cons_succ, List.getElem_toArray, List.getElem_cons_zero, List.getElem_cons_succ]
  refine Seq.take_lat (i := 10) (v := ?_) rfl (by kernel_rfl) (by kernel_rfl) (by kernel_rfl) (fun _ _ _ h => h) (by rfl) ?_ ?_
  rotate_left
  · intro w' hLat; change Below _ _ _ at hLat; go_simp <;> with_reducible rfl
  try simp only [Act.put, List.setIfInBounds_toArray, List.set_cons_zero, List.set_cons_succ, List.getElem_toArray, List.getElem_cons_zero, List.getElem_cons_succ]
  refine wpAnyH_done (by kernel_rfl) ?_ _
  go_wp2
  go_ret
  exact ⟨rfl, below_to HE.out HY0.out⟩
set_option maxRecDepth 20000 in
set_option maxHeartbeats 1000000 in
theorem nodes_long (N : List Rf) (b : Option Addr) (len cap : Nat) (w : World) (hT : Dig.Tabs w) (hl : 300 < len) (hm : len ≤ maxLen) :
    Calls Tryd.prog 3 #[.agg (na N), .slice b len cap] w fun e w' => e = .returned (.bool true) ∧ Below w.heap.size w w' := by
  unfold maxLen at hm
  have hg : 300 < (len : Int) := by omega
  have H1 : Box (Below w.heap.size w (w.alloc (.cells (na N) 28)) ∧ Dig.Tabs (w.alloc (.cells (na N) 28))) := ⟨(Below.refl _ _).alloc (Nat.le_refl _) _, hT.below ((Below.refl _ _).alloc (Nat.le_refl _) _)⟩
  clear hT hl
  go_enter Tryd.func3, Tryd.ntmps3
  go_upto_region 1 with fail
  generalize w.alloc (.cells (na N) 28) = w1 at H1 ⊢
  go_wp2_with (go_at_call 8; refine Calls.mono (awake_any w1 H1.out.2) ?_; rintro e w2 ⟨rfl, hb⟩; have HB : Box (Below w.heap.size w w2) := ⟨below_to H1.out.1 hb⟩; clear hb)
  go_ret
  exact ⟨rfl, HB.out⟩
theorem treeNodes_walk (N : List Rf) (b : Option Addr) (len cap : Nat) (z : List Int) (w : World) (hT : Dig.Tabs w) (hN : OkN N) (h4 : N.length = 4) (hr : IsRow .u8 w b len cap z) :
    Calls Tryd.prog 3 #[.agg (na N), .slice b len cap] w fun e w' => e = .returned (.bool true) ∧ Below w.heap.size w w' := by
  obtain ⟨h1, h2, h3⟩ := hr.pc
  have hm := hr.len
  generalize z.take len = B at h1
  by_cases hl : len ≤ 300
  · by_cases he : len = 160
    · subst he
      refine nodes_a N (ofN B 4) b 160 cap B w hT ⟨hN, h4⟩ ⟨okN_of B h1.2.1 4 (by rw [h1.1]; exact Nat.le_refl _), len_ofN B 4⟩ h1 hl ⟨fun x hx => tget_ok b cap B x (h1.below hx) h2 h3⟩ ⟨fun x hx => rnget_ok b cap B x (h1.below hx)⟩ ⟨decide_eq_true ?_⟩
      rw [nb_ofN B h1.2.1 4 (by rw [h1.1]; exact Nat.le_refl _), List.take_of_length_le (by rw [h1.1]; exact Nat.le_refl _)]
    · exact nodes_b N zn b len cap B w hT ⟨hN, h4⟩ ⟨okN_zn, rfl⟩ h1 hl ⟨fun x hx => tget_no b len cap x he hm⟩ ⟨fun x hx => rnget_no b len cap x he hm⟩
  · exact nodes_long N b len cap w hT (by omega) hm
end Go.Proofs.YtlbapcpcabieaaaDoor
