/-
  TreeDigests, walked.
-/
import Derived.Test.YtlbapcpcabieaaaDoorG8
import Derived.Test.YtlbapcpcabieaaaDoorG9
import Derived.Test.YtlbapcpcabieaaaDoorV4
namespace Go.Proofs.YtlbapcpcabieaaaDoor
set_option linter.unusedVariables false
open Go.RowKit Plain

theorem exec_eqS1 {o : Oper} {ρ : Operand → Value} {w' : World} (x y : Operand) (ty : TypeId) (ho : o.op = .binOp .eql 23 x y ty) (A : List Int) (hA : A.length = 32) (hx : ρ x = .agg (u8s A)) (hy : ρ y = .agg (u8s A)) :
    (execOp ρ o).run Tryd.prog w' = .ok (.value (.bool true)) w' := by
  have := exec_eqS (w' := w') x y ty ho A A hA hA hx hy
  simpa using this
set_option maxRecDepth 20000 in
set_option maxHeartbeats 1000000 in
theorem digests_long (l p : Int) (a : Option Addr) (len cap : Nat) (D : List Int) (w : World) (hT : Dig.Tabs w) (hl : 1000 < len) (hm : len ≤ maxLen) (hD : D.length = 32) :
    Calls Tryd.prog 4 #[.int .i64 l, .int .u32 p, .slice a len cap, .agg (u8s D)] w fun e w' => e = .returned (.bool true) ∧ Below w.heap.size w w' := by
  unfold maxLen at hm
  have hg : 1000 < (len : Int) := by omega
  have H1 : Box (Below w.heap.size w (w.alloc (.cells (u8s D) 23)) ∧ Dig.Tabs (w.alloc (.cells (u8s D) 23))) := ⟨(Below.refl _ _).alloc (Nat.le_refl _) _, hT.below ((Below.refl _ _).alloc (Nat.le_refl _) _)⟩
  clear hT hl
  go_enter Tryd.func4, Tryd.ntmps4
  go_upto_region 1 with fail
  generalize w.alloc (.cells (u8s D) 23) = w1 at H1 ⊢
  go_wp2_with (go_at_call 8; refine Calls.mono (awake_any w1 H1.out.2) ?_; rintro e w2 ⟨rfl, hb⟩; have HB : Box (Below w.heap.size w w2) := ⟨below_to H1.out.1 hb⟩; clear hb)
  go_ret
  exact ⟨rfl, HB.out⟩
set_option maxRecDepth 20000 in
set_option maxHeartbeats 1000000 in
theorem digests_short (l p : Int) (a : Option Addr) (len cap : Nat) (L D : List Int) (w : World) (hT : Dig.Tabs w) (hp : 0 ≤ p ∧ p ≤ 4294967295) (hB : Bytes w a len L) (hl : len ≤ 1000) (hc : len ≤ cap) (hm : cap ≤ 9223372036854775807) (hD : D.length = 32) (hDb : Byt D) :
    Calls Tryd.prog 4 #[.int .i64 l, .int .u32 p, .slice a len cap, .agg (u8s D)] w fun e w' => e = .returned (.bool true) ∧ Below w.heap.size w w' := by
  have hg : ¬ 1000 < (len : Int) := by omega
  obtain ⟨X, HX⟩ : ∃ X, Box (dsha (dg l p L) = X) := ⟨_, ⟨rfl⟩⟩
  have HXs : Box (X.length = 32 ∧ Byt X) := ⟨by rw [← HX.out, length_dsha], by rw [← HX.out]; exact byt_dsha _⟩
  have HDs : Box (D.length = 32 ∧ Byt D) := ⟨hD, hDb⟩
  have C0 : Box (∀ x, Below w.heap.size w x → Calls Tryd.prog 14 #[.int .i64 l, .int .u32 p, .slice a len cap] x fun e w' => e = .returned (.agg (u8s X)) ∧ Below x.heap.size x w') := ⟨fun x hx => by
    rw [← HX.out]
    exact digest_any l p a len cap L x (hT.below hx) hp (hB.below hx) (by omega) hc hm⟩
  have C1 : Box (∀ x, Below w.heap.size w x → Calls Tryd.prog 16 #[.agg (ra ⟨X, 9⟩), .int .i64 l, .int .u32 p, .slice a len cap] x fun e w' => e = .returned (.bool true) ∧ Below x.heap.size x w') := ⟨fun x hx => by
    have := check_any ⟨X, 9⟩ l p a len cap L x ⟨HXs.out.1, HXs.out.2, ⟨by simp, by simp⟩⟩ (hT.below hx) hp (hB.below hx) (by omega) hc hm
    rw [HX.out] at this
    simpa using this⟩
  have C2 : Box (∀ x, Below w.heap.size w x → Calls Tryd.prog 16 #[.agg (ra ⟨D, 0⟩), .int .i64 l, .int .u32 p, .slice a len cap] x fun e w' => e = .returned (.bool (decide (D = X))) ∧ Below x.heap.size x w') := ⟨fun x hx => by
    have := check_any ⟨D, 0⟩ l p a len cap L x ⟨hD, hDb, ⟨by simp, by simp⟩⟩ (hT.below hx) hp (hB.below hx) (by omega) hc hm
    rwa [HX.out] at this⟩
  have C3 : Box (∀ x, Calls Tryd.prog 15 #[.int .i64 l, .int .u32 p, .string (strOfNums L)] x fun e w' => e = .returned (.agg (u8s X)) ∧ Below x.heap.size x w') := ⟨fun x => by
    rw [← HX.out]
    exact rdigest_any l p L x hp hB.2.1 (by rw [hB.1]; omega)⟩
  have HS0 : Box (∀ x, Below w.heap.size w x → Dig.Tabs x ∧ Bytes x a len L) := ⟨fun x hx => ⟨hT.below hx, hB.below hx⟩⟩
  obtain ⟨S, hS⟩ : ∃ S, w.heap.size = S := ⟨_, rfl⟩
  have HS : Box (w.heap.size = S) := ⟨hS⟩
  have H1 : Box (Below w.heap.size w (w.alloc (.cells (u8s D) 23)) ∧ LiesS (w.alloc (.cells (u8s D) 23)) S D) := ⟨(Below.refl _ _).alloc (Nat.le_refl _) _, al_at hS⟩
  clear hT hB hp hl hc hm hD hDb hS HX
  go_enter Tryd.func4, Tryd.ntmps4
  go_upto_region 1 with fail
  rw [HS.out]
  generalize w.alloc (.cells (u8s D) 23) = w1 at H1 ⊢
  go_upto_region 6 with (go_at_call 8; refine Calls.mono (awake_any w1 (HS0.out w1 H1.out.1).1) ?_; rintro e w2 ⟨rfl, hb⟩; have H2 : Box (Below w.heap.size w w2 ∧ LiesS w2 S D) := ⟨below_to H1.out.1 hb, H1.out.2.below hb⟩; clear hb)
  go_upto_region 7 with (first
    | (go_at_call 14; refine Calls.mono (C0.out w2 H2.out.1) ?_; rintro e w2' ⟨rfl, hb⟩; have H2' : Box (Below w.heap.size w w2' ∧ LiesS w2' S D) := ⟨below_to H2.out.1 hb, H2.out.2.below hb⟩; clear hb)
    | (refine wpList_run rfl _ _ (exec_alloc 23 rfl _ zeroS) ?_)
    | (refine wpList_newS w2' X HXs.out.1 rfl _ _ rfl rfl rfl rfl ?_; intro w3 hl hb; have H3 : Box (Below w.heap.size w w3 ∧ LiesS w3 S D ∧ LiesS w3 w2'.heap.size X) := ⟨below_to H2'.out.1 hb, H2'.out.2.below hb, hl⟩; clear hl hb))
  generalize w2'.heap.size = G1 at H3 ⊢
  go_upto_region 8 with (first
    | (refine atConv _ _ ?_; refine wpList_run rfl _ _ (exec_conv (.tmp 24) rfl rfl (HS0.out w3 H3.out.1).2) ?_)
    | (go_at_call 15; refine Calls.mono (C3.out w3) ?_; rintro e w3' ⟨rfl, hb⟩; have H3' : Box (Below w.heap.size w w3' ∧ LiesS w3' S D ∧ LiesS w3' G1 X) := ⟨below_to H3.out.1 hb, H3.out.2.1.below hb, H3.out.2.2.below hb⟩; clear hb)
    | (refine wpList_run rfl _ _ (exec_alloc 23 rfl _ zeroS) ?_)
    | (refine wpList_newS w3' X HXs.out.1 rfl _ _ rfl rfl rfl rfl ?_; intro w4 hl hb; have H4 : Box (Below w.heap.size w w4 ∧ LiesS w4 S D ∧ LiesS w4 G1 X ∧ LiesS w4 w3'.heap.size X) := ⟨below_to H3'.out.1 hb, H3'.out.2.1.below hb, H3'.out.2.2.below hb, hl⟩; clear hl hb))
  generalize w3'.heap.size = G2 at H4 ⊢
  have HL : Box (∀ x, Below w4.heap.size w4 x → Below w.heap.size w x ∧ LiesS x S D ∧ LiesS x G1 X ∧ LiesS x G2 X) := ⟨fun x hx => ⟨below_to H4.out.1 hx, H4.out.2.1.below hx, H4.out.2.2.1.below hx, H4.out.2.2.2.below hx⟩⟩
  clear H1 H2 H2' H3 H3' C0 C3
  simp only [Act.put, List.setIfInBounds_toArray, List.set_cons_zero, List.set_cons_succ]
  refine Seq.begin_any (by kernel_rfl) (fun wd hd => ?_)
  have HX0 : Box (Below w4.heap.size w4 wd) := ⟨hd⟩
  clear hd
  refine Seq.take_lat (i := 0) (v := .agg (u8s X)) rfl (by kernel_rfl) (by kernel_rfl) (by kernel_rfl) (fun _ _ _ h => h) (by rfl) (fun w' hLat => exec_sumL (.tmp 10) rfl G1 rfl X HXs.out.1 HXs.out.2 ((HL.out w' (below_to HX0.out hLat)).2.2.1)) ?_
  try simp only [Act.put, List.setIfInBounds_toArray, List.set_cons_zero, List.set_cons_succ, List.getElem_toArray, List.getElem_cons_zero]
  refine Seq.take_lat (i := 1) (v := .agg (u8s X)) rfl (by kernel_rfl) (by kernel_rfl) (by kernel_rfl) (fun _ _ _ h => h) (by rfl) (fun w' hLat => exec_sumL (.tmp 11) rfl G2 rfl X HXs.out.1 HXs.out.2 ((HL.out w' (below_to HX0.out hLat)).2.2.2)) ?_
  try simp only [Act.put, List.setIfInBounds_toArray, List.set_cons_zero, List.set_cons_succ, List.getElem_toArray, List.getElem_cons_zero, List.getElem_cons_succ]
  refine Seq.take_lat (i := 2) (v := .bool true) rfl (by kernel_rfl) (by kernel_rfl) (by kernel_rfl) (fun _ _ _ h => h) (by rfl) (fun w' hLat => exec_eqS1 (.tmp 27) (.tmp 28) _ rfl X HXs.out.1 rfl rfl) ?_
  try simp only [Act.put, List.setIfInBounds_toArray, List.set_cons_zero, List.set_cons_succ, List.getElem_toArray, List.getElem_cons_zero, List.getElem_cons_succ]
  refine Seq.take_lat (i := 3) (v := ?_) rfl (by kernel_rfl) (by kernel_rfl) (by kernel_rfl) (fun _ _ _ h => h) (by rfl) ?_ ?_
  rotate_left
  · intro w' hLat; change Below _ _ _ at hLat; go_simp <;> with_reducible rfl
  try simp only [Act.put, List.setIfInBounds_toArray, List.set_cons_zero, List.set_cons_succ, List.getElem_toArray, List.getElem_cons_zero, List.getElem_cons_succ]
  refine Seq.take_lat (i := 4) (v := .agg (u8s X)) rfl (by kernel_rfl) (by kernel_rfl) (by kernel_rfl) (fun _ _ _ h => h) (by rfl) (fun w' hLat => exec_sumL (.tmp 10) rfl G1 rfl X HXs.out.1 HXs.out.2 ((HL.out w' (below_to HX0.out hLat)).2.2.1)) ?_
  try simp only [Act.put, List.setIfInBounds_toArray, List.set_cons_zero, List.set_cons_succ, List.getElem_toArray, List.getElem_cons_zero, List.getElem_cons_succ]
  refine Seq.take_lat (i := 5) (v := .agg (ra ⟨X, 9⟩)) rfl (by kernel_rfl) (by kernel_rfl) (by kernel_rfl) (fun _ _ _ h => h) (by rfl) (fun w' hLat => exec_built 26 [(0, .tmp 31), (1, .const (.int .u64 9))] rfl _ rfl _ (built_Rs X 9 HXs.out.1)) ?_
  try simp only [Act.put, List.setIfInBounds_toArray, List.set_cons_zero, List.set_cons_succ, List.getElem_toArray, List.getElem_cons_zero, List.getElem_cons_succ]
  refine Seq.take_lat (i := 6) (v := ?_) rfl (by kernel_rfl) (by kernel_rfl) (by kernel_rfl) (fun _ _ _ h => h) (by rfl) ?_ ?_
  rotate_left
  · intro w' hLat; change Below _ _ _ at hLat; go_simp <;> with_reducible rfl
  try simp only [Act.put, List.setIfInBounds_toArray, List.set_cons_zero, List.set_cons_succ, List.getElem_toArray, List.getElem_cons_zero, List.getElem_cons_succ]
  refine Seq.take_lat (i := 7) (v := ?_) rfl (by kernel_rfl) (by kernel_rfl) (by kernel_rfl) (fun _ _ _ h => h) (by rfl) ?_ ?_
  rotate_left
  · intro w' hLat; change Below _ _ _ at hLat; go_simp <;> with_reducible rfl
  try simp only [Act.put, List.setIfInBounds_toArray, List.set_cons_zero, List.set_cons_succ, List.getElem_toArray, List.getElem_cons_zero, List.getElem_cons_succ]
  refine Seq.take_lat (i := 8) (v := ?_) rfl (by kernel_rfl) (by kernel_rfl) (by kernel_rfl) (fun _ _ _ h => h) (by rfl) ?_ ?_
  rotate_left
  · intro w' hLat; change Below _ _ _ at hLat; go_simp <;> with_reducible rfl
  try simp only [Act.put, List.setIfInBounds_toArray, List.set_cons_zero, List.set_cons_succ, List.getElem_toArray, List.getElem_cons_zero, List.getElem_cons_succ]
  refine Seq.only_lat (i := 9) rfl (by kernel_rfl) (fun KK hK => ?_)
  rw [if_pos (by rfl)]
  go_simp
  refine Calls.mono (C1.out wd (HL.out wd HX0.out).1) ?_
  rintro e x9 ⟨rfl, hb⟩
  have HX9 : Box (Below w4.heap.size w4 x9) := ⟨below_to HX0.out hb⟩
  refine hK.out _ _ hb ?_
  clear hb
  clear hK KK
  try simp only [Act.put, List.setIfInBounds_toArray, List.set_cons_zero, List.set_cons_succ, List.getElem_toArray, List.getElem_cons_zero, List.getElem_cons_succ]
  refine Seq.take_lat (i := 10) (v := ?_) rfl (by kernel_rfl) (by kernel_rfl) (by kernel_rfl) (fun _ _ _ h => h) (by rfl) ?_ ?_
  rotate_left
  · intro w' hLat; change Below _ _ _ at hLat; go_simp <;> with_reducible rfl
  try simp only [Act.put, List.setIfInBounds_toArray, List.set_cons_zero, List.set_cons_succ, List.getElem_toArray, List.getElem_cons_zero, List.getElem_cons_succ]
  refine Seq.take_lat (i := 11) (v := ?_) rfl (by kernel_rfl) (by kernel_rfl) (by kernel_rfl) (fun _ _ _ h => h) (by rfl) ?_ ?_
  rotate_left
  · intro w' hLat; change Below _ _ _ at hLat; go_simp <;> with_reducible rfl
  try simp only [Act.put, List.setIfInBounds_toArray, List.set_cons_zero, List.set_cons_succ, List.getElem_toArray, List.getElem_cons_zero, List.getElem_cons_succ]
  refine Seq.take_lat (i := 12) (v := .agg (u8s D)) rfl (by kernel_rfl) (by kernel_rfl) (by kernel_rfl) (fun _ _ _ h => h) (by rfl) (fun w' hLat => exec_sumL (.tmp 7) rfl S rfl D HDs.out.1 HDs.out.2 ((HL.out w' (below_to HX9.out hLat)).2.1)) ?_
  try simp only [Act.put, List.setIfInBounds_toArray, List.set_cons_zero, List.set_cons_succ, List.getElem_toArray, List.getElem_cons_zero, List.getElem_cons_succ]
  refine Seq.take_lat (i := 13) (v := .agg (ra ⟨D, 0⟩)) rfl (by kernel_rfl) (by kernel_rfl) (by kernel_rfl) (fun _ _ _ h => h) (by rfl) (fun w' hLat => exec_built 26 [(0, .tmp 39)] rfl _ rfl _ (built_R D HDs.out.1)) ?_
  try simp only [Act.put, List.setIfInBounds_toArray, List.set_cons_zero, List.set_cons_succ, List.getElem_toArray, List.getElem_cons_zero, List.getElem_cons_succ]
  refine Seq.take_lat (i := 14) (v := ?_) rfl (by kernel_rfl) (by kernel_rfl) (by kernel_rfl) (fun _ _ _ h => h) (by rfl) ?_ ?_
  rotate_left
  · intro w' hLat; change Below _ _ _ at hLat; go_simp <;> with_reducible rfl
  try simp only [Act.put, List.setIfInBounds_toArray, List.set_cons_zero, List.set_cons_succ, List.getElem_toArray, List.getElem_cons_zero, List.getElem_cons_succ]
  refine Seq.take_lat (i := 15) (v := ?_) rfl (by kernel_rfl) (by kernel_rfl) (by kernel_rfl) (fun _ _ _ h => h) (by rfl) ?_ ?_
  rotate_left
  · intro w' hLat; change Below _ _ _ at hLat; go_simp <;> with_reducible rfl
  try simp only [Act.put, List.setIfInBounds_toArray, List.set_cons_zero, List.set_cons_succ, List.getElem_toArray, List.getElem_cons_zero, List.getElem_cons_succ]
  refine Seq.take_lat (i := 16) (v := ?_) rfl (by kernel_rfl) (by kernel_rfl) (by kernel_rfl) (fun _ _ _ h => h) (by rfl) ?_ ?_
  rotate_left
  · intro w' hLat; change Below _ _ _ at hLat; go_simp <;> with_reducible rfl
  try simp only [Act.put, List.setIfInBounds_toArray, List.set_cons_zero, List.set_cons_succ, List.getElem_toArray, List.getElem_cons_zero, List.getElem_cons_succ]
  refine Seq.take_lat (i := 18) (v := .agg (u8s D)) rfl (by kernel_rfl) (by kernel_rfl) (by kernel_rfl) (fun _ _ _ h => h) (by rfl) (fun w' hLat => exec_sumL (.tmp 7) rfl S rfl D HDs.out.1 HDs.out.2 ((HL.out w' (below_to HX9.out hLat)).2.1)) ?_
  try simp only [Act.put, List.setIfInBounds_toArray, List.set_cons_zero, List.set_cons_succ, List.getElem_toArray, List.getElem_cons_zero, List.getElem_cons_succ]
  refine Seq.take_lat (i := 19) (v := .agg (u8s X)) rfl (by kernel_rfl) (by kernel_rfl) (by kernel_rfl) (fun _ _ _ h => h) (by rfl) (fun w' hLat => exec_sumL (.tmp 11) rfl G2 rfl X HXs.out.1 HXs.out.2 ((HL.out w' (below_to HX9.out hLat)).2.2.2)) ?_
  try simp only [Act.put, List.setIfInBounds_toArray, List.set_cons_zero, List.set_cons_succ, List.getElem_toArray, List.getElem_cons_zero, List.getElem_cons_succ]
  refine Seq.take_lat (i := 20) (v := .bool (decide (D = X))) rfl (by kernel_rfl) (by kernel_rfl) (by kernel_rfl) (fun _ _ _ h => h) (by rfl) (fun w' hLat => exec_eqS (.tmp 45) (.tmp 46) _ rfl D X HDs.out.1 HXs.out.1 rfl rfl) ?_
  try simp only [Act.put, List.setIfInBounds_toArray, List.set_cons_zero, List.set_cons_succ, List.getElem_toArray, List.getElem_cons_zero, List.getElem_cons_succ]
  refine Seq.only_lat (i := 17) rfl (by kernel_rfl) (fun KK hK => ?_)
  rw [if_pos (by rfl)]
  go_simp
  refine Calls.mono (C2.out x9 (HL.out x9 HX9.out).1) ?_
  rintro e x17 ⟨rfl, hb⟩
  have HX17 : Box (Below w4.heap.size w4 x17) := ⟨below_to HX9.out hb⟩
  refine hK.out _ _ hb ?_
  clear hb
  clear hK KK
  try simp only [Act.put, List.setIfInBounds_toArray, List.set_cons_zero, List.set_cons_succ, List.getElem_toArray, List.getElem_cons_zero, List.getElem_cons_succ]
  refine Seq.take_lat (i := 21) (v := .bool true) rfl (by kernel_rfl) (by kernel_rfl) (by kernel_rfl) (fun _ _ _ h => h) (by rfl) (fun w' hLat => exec_bb (.tmp 44) (.tmp 47) _ rfl (decide (D = X)) rfl rfl) ?_
  try simp only [Act.put, List.setIfInBounds_toArray, List.set_cons_zero, List.set_cons_succ, List.getElem_toArray, List.getElem_cons_zero, List.getElem_cons_succ]
  refine Seq.take_lat (i := 22) (v := ?_) rfl (by kernel_rfl) (by kernel_rfl) (by kernel_rfl) (fun _ _ _ h => h) (by rfl) ?_ ?_
  rotate_left
  · intro w' hLat; change Below _ _ _ at hLat; go_simp <;> with_reducible rfl
  try simp only [Act.put, List.setIfInBounds_toArray, List.set_cons_zero, List.set_cons_succ, List.getElem_toArray, List.getElem_cons_zero, List.getElem_cons_succ]
  refine Seq.take_lat (i := 23) (v := ?_) rfl (by kernel_rfl) (by kernel_rfl) (by kernel_rfl) (fun _ _ _ h => h) (by rfl) ?_ ?_
  rotate_left
  · intro w' hLat; change Below _ _ _ at hLat; go_simp <;> with_reducible rfl
  try simp only [Act.put, List.setIfInBounds_toArray, List.set_cons_zero, List.set_cons_succ, List.getElem_toArray, List.getElem_cons_zero, List.getElem_cons_succ]
  refine wpAnyH_done (by kernel_rfl) ?_ _
  go_wp2
  go_ret
  exact ⟨rfl, (HL.out _ HX17.out).1⟩
theorem treeDigests_walk (l p : Int) (a : Option Addr) (len cap : Nat) (z : List Int) (D : List Int) (w : World) (hT : Dig.Tabs w) (hl : (Lit.int .i64 l).wf = true) (hp : (Lit.int .u32 p).wf = true) (hr : IsRow .u8 w a len cap z) (hD : D.length = 32) (hDb : Byt D) :
    Calls Tryd.prog 4 #[.int .i64 l, .int .u32 p, .slice a len cap, .agg (u8s D)] w fun e w' => e = .returned (.bool true) ∧ Below w.heap.size w w' := by
  have b := bounds_u32 hp
  obtain ⟨h1, h2, h3⟩ := hr.pc
  by_cases h : len ≤ 1000
  · exact digests_short l p a len cap (z.take len) D w hT ⟨by omega, by omega⟩ h1 h h2 h3 hD hDb
  · exact digests_long l p a len cap D w hT (by omega) hr.len hD
end Go.Proofs.YtlbapcpcabieaaaDoor
