/-
  What known of package vault answers: a map that holds the top's ref.
-/
import Derived.Test.YtnicgmimhgbcfaaGreatDoorW6
namespace Go.Proofs.YtnicgmimhgbcfaaGreatDoor
set_option linter.unusedVariables false
set_option maxRecDepth 100000
open Go.RowKit Go.Shelf Plain Go.Proofs.YtnicgmimhgbcfaaGreatDoor.Shap.Plain

section
variable {P : Program} {md : Region.Mode} {ops : Array Oper} {Q : Exit → Act → World → Prop} {S : World → Prop}
/-- What is read may be read first, if it reads the same in every world that may come. -/
theorem take_s {i : Nat} {oi : Oper} {v : Value} {fuel : Nat} {listed : Array Bool} {a : Act} {w : World} (hi : ops[i]? = some oi)
    (hs : Region.noSelect ops = true) (hf : Region.free md ops listed i = true) (hr : (Region.ready md ops listed).contains i = true)
    (hQ : ∀ c a w, Q (.panic c) (a.put oi.dst v) w → Q (.panic c) a w) (hw : Region.wanted oi (yielded ops a.tmps) = true)
    (hv : ∀ w', S w' → (execOp a.eval oi).run P w' = .ok (.value v) w') (hS : S w)
    (h : wpAnyH P md ops Q S fuel (listed.setIfInBounds i true) (a.put oi.dst v) w) : wpAnyH P md ops Q S (fuel + 1) listed a w :=
  wpAnyH_take hi hs hf hr hQ (Or.inl ⟨hw, hv⟩) hS h
theorem wp_put {t k e : TypeId} {o : Oper} {a : Act} {w : World} {K : Act → World → Prop} (m x y : Operand) (ho : o.op = .mapUpdate t m x y ∨ o.op = .insert t m x y) (ht : P.underlying t = some (.map k e)) (hk : P.underlying k = some (.int .i64)) (b : Nat) (f : Int → Option Value) (hm : a.eval m = .map (some b)) (hM : Mp w b f) (i : Int) (hx : a.eval x = .int .i64 i) (u : Value) (hy : a.eval y = u)
    (h : ∀ w', Mp w' b (fput f i u) → But b w w' → w'.heap.size = w.heap.size → K (a.put o.dst undef) w') : Oper.wp P o a w K Q := by
  obtain ⟨w', h1, h2, h3, h4⟩ := exec_put (ρ := a.eval) m x y ho ht hk b f hm hM i hx
  unfold Oper.wp
  rw [h1]
  rw [hy] at h2
  exact h w' h2 h3 h4
theorem exec_mkmap {o : Oper} {ρ : Operand → Value} {w : World} {t : TypeId} (ho : o.op = .makeMap t none) : (execOp ρ o).run P w = .ok (.value (.map (some w.heap.size))) (w.alloc (.map #[] 0)) := by
  unfold execOp
  simp [ho, Instr.makeMap]
end
set_option maxHeartbeats 2000000 in
theorem known_v {w0 w : World} {V D : Nat} {fp : Nat → Prop} {v : Vt} {d : Disk.Dk} {sa : Option Addr} {sc : Nat} (C : VC w0 w V D fp v d sa sc) :
    Calls Tryz.prog 61 #[.pointer (some ⟨V, 0, none⟩)] w fun e w' => ∃ kb, e = .returned (.map (some kb)) ∧ Mp w' kb (fput (fun _ => none) (itm v.n (topL v.n) 0 : Nat) (.agg (ra v.top))) ∧ Below w.heap.size w w' ∧ w.heap.size ≤ kb := by
  have CT : Box (∀ x, Below w.heap.size w x → Calls Tryz.prog 53 #[.pointer (some ⟨V, 0, none⟩)] x fun e w' => e = .returned (.int .i64 (itm v.n (topL v.n) 0 : Nat)) ∧ Below x.heap.size x w') := ⟨fun x hx => topItem_v (C.below hx)⟩
  have HTP : Box (∀ x, Below w.heap.size w x → x.rangeAt V 35 (rc v.top)) := ⟨fun x hx => (C.below hx).rd.top⟩
  have HTL : Box ((Tryz.prog.info? 26).map (·.size) = some (rc v.top).length) := ⟨by rw [rc_len C.ok.top]; exact infoRef⟩
  have HAL : Box (∀ (x : World) (o : Obj), Below w.heap.size w x → Below w.heap.size w (x.alloc o)) := ⟨fun x o hx => hx.alloc hx.size o⟩
  have HBT : Box (∀ (x y : World) (G : Nat), Below w.heap.size w x → But G x y → w.heap.size ≤ G → Below w.heap.size w y) := ⟨fun x y G hx hb hG => ⟨hb.os.trans hx.os, hb.tape.trans hx.tape, hb.output.trans hx.output, Nat.le_trans hx.size hb.size, fun k hk => (hb.block k (Nat.lt_of_lt_of_le hk hx.size) (by omega)).trans (hx.block k hk)⟩⟩
  clear C
  generalize itm v.n (topL v.n) 0 = tp at *
  go_enter Tryz.func61, Tryz.ntmps61
  go_upto_region 1 with fail
  refine Disk.begin_keep (S := fun x => Below w.heap.size w x) (by kernel_rfl) (fun wd hwd => ?_)
  have hS : Below w.heap.size w wd := by rw [hwd]; exact (Below.refl _ _).drew
  clear hwd
  refine take_s (i := 1) (v := ?_) rfl (by kernel_rfl) (by kernel_rfl) (by kernel_rfl) (fun _ _ _ h => h) (by rfl) ?_ hS ?_
  rotate_left
  · intro w' hLat; clear hLat; go_simp <;> with_reducible rfl
  try simp only [Act.put, List.setIfInBounds_toArray, List.set_cons_zero, List.set_cons_succ, List.getElem_toArray, List.getElem_cons_zero, List.getElem_cons_succ]
  refine take_s (i := 3) (v := ?_) rfl (by kernel_rfl) (by kernel_rfl) (by kernel_rfl) (fun _ _ _ h => h) (by rfl) ?_ hS ?_
  rotate_left
  · intro w' hLat; clear hLat; go_simp <;> with_reducible rfl
  try simp only [Act.put, List.setIfInBounds_toArray, List.set_cons_zero, List.set_cons_succ, List.getElem_toArray, List.getElem_cons_zero, List.getElem_cons_succ]
  refine take_s (i := 4) (v := ?_) rfl (by kernel_rfl) (by kernel_rfl) (by kernel_rfl) (fun _ _ _ h => h) (by rfl) ?_ hS ?_
  rotate_left
  · intro w' hLat; clear hLat; go_simp <;> with_reducible rfl
  try simp only [Act.put, List.setIfInBounds_toArray, List.set_cons_zero, List.set_cons_succ, List.getElem_toArray, List.getElem_cons_zero, List.getElem_cons_succ]
  refine take_s (i := 5) (v := ?_) rfl (by kernel_rfl) (by kernel_rfl) (by kernel_rfl) (fun _ _ _ h => h) (by rfl) ?_ hS ?_
  rotate_left
  · intro w' hLat; clear hLat; go_simp <;> with_reducible rfl
  try simp only [Act.put, List.setIfInBounds_toArray, List.set_cons_zero, List.set_cons_succ, List.getElem_toArray, List.getElem_cons_zero, List.getElem_cons_succ]
  refine take_s (i := 6) (v := .agg (ra v.top)) rfl (by kernel_rfl) (by kernel_rfl) (by kernel_rfl) (fun _ _ _ h => h) (by rfl) (fun w' hLat => exec_load_mid 26 _ _ rfl Tryz.underlying26 rfl V 35 rfl (rc v.top) HTL.out (HTP.out w' hLat)) hS ?_
  try simp only [Act.put, List.setIfInBounds_toArray, List.set_cons_zero, List.set_cons_succ, List.getElem_toArray, List.getElem_cons_zero, List.getElem_cons_succ]
  refine Disk.two_keep (i := 0) (j := 2) (by kernel_rfl) ?_ ?_
  · refine Disk.keep_step rfl (by rfl) ?_
    unfold Oper.wp
    rw [exec_mkmap (w := wd) rfl]
    refine ⟨HAL.out _ _ hS, ?_⟩
    try simp only [Act.put, List.setIfInBounds_toArray, List.set_cons_zero, List.set_cons_succ, List.getElem_toArray, List.getElem_cons_zero]
    have hkb : w.heap.size ≤ wd.heap.size := hS.size
    refine Disk.one_keep (i := 2) (by kernel_rfl) ?_
    refine Disk.keep_step rfl (by rfl) ?_
    go_simp
    refine Calls.mono (CT.out (wd.alloc (.map #[] 0)) (HAL.out _ _ hS)) ?_
    rintro e x2 ⟨rfl, hb⟩
    have hS2 : Below w.heap.size w x2 := below_to (HAL.out _ _ hS) hb
    have hM : Mp x2 wd.heap.size (fun _ => none) := (mp_new wd).same (hb.block _ (by simp))
    refine ⟨hS2, ?_⟩
    try simp only [Act.put, List.setIfInBounds_toArray, List.set_cons_zero, List.set_cons_succ, List.getElem_toArray, List.getElem_cons_zero, List.getElem_cons_succ]
    refine Disk.one_keep (i := 7) (by kernel_rfl) ?_
    refine Disk.keep_step rfl (by rfl) ?_
    refine wp_put (.tmp 3) (.tmp 5) (.tmp 9) (.inr rfl) Tryz.underlying130 Tryz.underlying3 (wd.heap.size) _ rfl hM _ rfl _ rfl (fun x3 m3 b3 z3 => ?_)
    have hS3 : Below w.heap.size w x3 := HBT.out _ _ wd.heap.size hS2 b3 hkb
    refine ⟨hS3, ?_⟩
    try simp only [Act.put, List.getElem_toArray, List.getElem_cons_zero, List.getElem_cons_succ]
    refine take_s (i := 8) (v := ?_) rfl (by kernel_rfl) (by kernel_rfl) (by kernel_rfl) (fun _ _ _ h => h) (by rfl) ?_ hS3 ?_
    rotate_left
    · intro w' hLat; clear hLat; go_simp <;> with_reducible rfl
    try simp only [Act.put, List.setIfInBounds_toArray, List.set_cons_zero, List.set_cons_succ, List.getElem_toArray, List.getElem_cons_zero, List.getElem_cons_succ]
    refine take_s (i := 9) (v := ?_) rfl (by kernel_rfl) (by kernel_rfl) (by kernel_rfl) (fun _ _ _ h => h) (by rfl) ?_ hS3 ?_
    rotate_left
    · intro w' hLat; clear hLat; go_simp <;> with_reducible rfl
    try simp only [Act.put, List.setIfInBounds_toArray, List.set_cons_zero, List.set_cons_succ, List.getElem_toArray, List.getElem_cons_zero, List.getElem_cons_succ]
    refine wpAnyH_done (by kernel_rfl) ?_ _
    go_wp2
    go_ret
    exact ⟨wd.heap.size, rfl, m3, hS3, hkb⟩
  · refine Disk.keep_step rfl (by rfl) ?_
    go_simp
    refine Calls.mono (CT.out wd hS) ?_
    rintro e x1 ⟨rfl, hb⟩
    have hS1 : Below w.heap.size w x1 := below_to hS hb
    refine ⟨hS1, ?_⟩
    try simp only [Act.put, List.setIfInBounds_toArray, List.set_cons_zero, List.set_cons_succ, List.getElem_toArray, List.getElem_cons_zero, List.getElem_cons_succ]
    refine Disk.one_keep (i := 0) (by kernel_rfl) ?_
    refine Disk.keep_step rfl (by rfl) ?_
    unfold Oper.wp
    rw [exec_mkmap (w := x1) rfl]
    refine ⟨HAL.out _ _ hS1, ?_⟩
    try simp only [Act.put, List.setIfInBounds_toArray, List.set_cons_zero, List.set_cons_succ, List.getElem_toArray, List.getElem_cons_zero]
    have hkb : w.heap.size ≤ x1.heap.size := hS1.size
    obtain ⟨x2, hx2⟩ : ∃ x2, x1.alloc (.map #[] 0) = x2 := ⟨_, rfl⟩
    have hM : Mp x2 x1.heap.size (fun _ => none) := by rw [← hx2]; exact mp_new x1
    have hS2 : Below w.heap.size w x2 := by rw [← hx2]; exact HAL.out _ _ hS1
    rw [hx2]
    refine Disk.one_keep (i := 7) (by kernel_rfl) ?_
    refine Disk.keep_step rfl (by rfl) ?_
    refine wp_put (.tmp 3) (.tmp 5) (.tmp 9) (.inr rfl) Tryz.underlying130 Tryz.underlying3 (x1.heap.size) _ rfl hM _ rfl _ rfl (fun x3 m3 b3 z3 => ?_)
    have hS3 : Below w.heap.size w x3 := HBT.out _ _ x1.heap.size hS2 b3 hkb
    refine ⟨hS3, ?_⟩
    try simp only [Act.put, List.getElem_toArray, List.getElem_cons_zero, List.getElem_cons_succ]
    refine take_s (i := 8) (v := ?_) rfl (by kernel_rfl) (by kernel_rfl) (by kernel_rfl) (fun _ _ _ h => h) (by rfl) ?_ hS3 ?_
    rotate_left
    · intro w' hLat; clear hLat; go_simp <;> with_reducible rfl
    try simp only [Act.put, List.setIfInBounds_toArray, List.set_cons_zero, List.set_cons_succ, List.getElem_toArray, List.getElem_cons_zero, List.getElem_cons_succ]
    refine take_s (i := 9) (v := ?_) rfl (by kernel_rfl) (by kernel_rfl) (by kernel_rfl) (fun _ _ _ h => h) (by rfl) ?_ hS3 ?_
    rotate_left
    · intro w' hLat; clear hLat; go_simp <;> with_reducible rfl
    try simp only [Act.put, List.setIfInBounds_toArray, List.set_cons_zero, List.set_cons_succ, List.getElem_toArray, List.getElem_cons_zero, List.getElem_cons_succ]
    refine wpAnyH_done (by kernel_rfl) ?_ _
    go_wp2
    go_ret
    exact ⟨x1.heap.size, rfl, m3, hS3, hkb⟩
end Go.Proofs.YtnicgmimhgbcfaaGreatDoor
