/-
  What the Go function Get of package cell answers, for any bytes.
-/
import Derived.Test.YtejpbbgnammgkaaX6
namespace Go.Proofs.Ytejpbbgnammgkaa
set_option linter.unusedVariables false
open Go.RowKit Plain

/-- Where Get of package cell stands: noughts for the answer in block S, the cell in block G. -/
structure Gt (w wr : World) (S G : Nat) (C : Cl) : Prop where
  res : Lies wr S zc
  cel : Lies wr G C
  bel : Below S w wr
  lt : S < G
theorem Gt.on {w wr w' : World} {S G : Nat} {C : Cl} (h : Gt w wr S G C) (hb : Below wr.heap.size wr w') : Gt w w' S G C :=
  ⟨h.res.below hb, h.cel.below hb, h.bel.trans (hb.mono (Nat.le_of_lt h.res.lt)), h.lt⟩
theorem Gt.set {w wr : World} {S G : Nat} {C : Cl} (h : Gt w wr S G C) (hC : Ok C) (k : Nat) (hk : k < 4) (x : Int) : Gt w (wr.setCell ⟨G, 32 + k, none⟩ (.int .u64 x)) S G (setN C k x) :=
  ⟨(heap_setCell_other wr ⟨G, 32 + k, none⟩ S _ (by have := h.lt; simp; omega)).trans h.res, h.cel.set hC k hk x, below_set h.bel (Nat.le_of_lt h.lt) _, h.lt⟩
theorem gt_start {w w1 wd : World} {S : Nat} {L : List Int} (hS : w.heap.size = S) (h1 : Lies w1 S zc) (hb1 : Below S w w1) (hd : Below w1.heap.size w1 wd) (h0 : (av (upto L 0)).size = (av zc).size) : Gt w ((wd.alloc (.cells (av zc) 26)).setRow wd.heap.size (av (upto L 0))) S wd.heap.size (upto L 0) := by
  have l1 := h1.lt
  have l2 := hd.size
  refine ⟨?_, setRow_heap _ _ _ _ _ _ (al_at rfl), ?_, by omega⟩
  · have := (h1.below hd).below ((Below.refl _ wd).alloc (Nat.le_refl _) (.cells (av zc) 26))
    unfold Lies
    rw [setRow_other _ _ _ _ (by omega)]
    exact this
  · exact below_setRow ((hb1.trans (hd.mono (by omega))).alloc (by omega) _) (by omega) _

set_option maxRecDepth 20000 in
set_option maxHeartbeats 1000000 in
theorem cget_no (a : Option Addr) (len cap : Nat) (w : World) (hl : len ≠ 96) (hm : len ≤ maxLen) : Calls Try.prog 9 #[.slice a len cap] w fun e w' => e = .returned (.tuple #[.agg (av zc), .int .i64 11]) ∧ Below w.heap.size w w' := by
  unfold maxLen at hm
  have hne : ((len : Int) == 96) = false := by simp; omega
  obtain ⟨Z, HZ⟩ : ∃ Z, Box (av zc = Z ∧ Z.size = 68 ∧ Z.all (·.oneCell') = true) := ⟨_, rfl, size_av ok_zc, all_av _⟩
  have hz := zeroC
  have hb := built_C
  rw [HZ.out.1] at hz hb
  have HR : Box (∀ x : World, x.heap[w.heap.size]? = some (.cells Z 26 (0, 0)) → Lies x w.heap.size zc) := ⟨fun x hx => by unfold Lies; rw [HZ.out.1]; exact hx⟩
  clear hl
  go_enter Try.func9, Try.ntmps9
  go_wp2_with (first
    | (refine wpList_run rfl _ _ (exec_built 26 [] rfl [] rfl _ hb) ?_)
    | (refine wpList_run rfl _ _ (exec_alloc 26 rfl _ hz) ?_)
    | (refine wpList_store_row rfl 26 _ _ rfl w.heap.size Z rfl rfl 26 Z (al_at rfl) (by rw [HZ.out.2.1]; exact infoC) rfl HZ.out.2.2 ?_))
  (try simp only [Exit.inBlock, Exit.then])
  refine bodyPost_ret (results_C2 rfl _ _ w.heap.size zc ok_zc rfl (HR.out _ (setRow_heap _ _ _ _ _ _ (al_at rfl)))) rfl ?_
  exact ⟨rfl, below_setRow ((Below.refl _ w).alloc (Nat.le_refl _) _) (Nat.le_refl _) _⟩

set_option maxRecDepth 20000 in
set_option maxHeartbeats 1000000 in
theorem cget_ok (a : Option Addr) (cap : Nat) (L : List Int) (w : World) (hB : Bytes w a 96 L) (hc : 96 ≤ cap) : Calls Try.prog 9 #[.slice a 96 cap] w fun e w' => e = .returned (.tuple #[.agg (av (ofB L)), .int .i64 0]) ∧ Below w.heap.size w w' := by
  obtain ⟨S, hS⟩ : ∃ S, w.heap.size = S := ⟨_, rfl⟩
  obtain ⟨a1, e1, f1⟩ := slice_hi a 96 cap 32 (by omega) hc
  obtain ⟨a2, e2, f2⟩ := slice_lo a 96 cap 64 (by omega) hc
  have g1 := f1 w L hB
  have g2 := f2 w L hB
  obtain ⟨b1, o1, rfl, -, -⟩ := g1.2.2 (by omega)
  obtain ⟨b2, o2, rfl, -, -⟩ := g2.2.2 (by omega)
  have eT : L.drop 64 = (L.drop 64).take 32 := by rw [List.take_of_length_le (by simp [hB.1])]
  have HX : Box ((∀ x, (Instr.sliceAt 27 (.slice a 96 cap) none (some (.int .i64 32)) none).run Try.prog x = .ok (.slice (some ⟨b1, o1, none⟩) 32 cap) x) ∧ ∀ x, (Instr.sliceAt 27 (.slice a 96 cap) (some (.int .i64 64)) none none).run Try.prog x = .ok (.slice (some ⟨b2, o2, none⟩) 32 (cap - 64)) x) := ⟨e1, e2⟩
  have HO : Box (∀ k, Ok (upto L k)) := ⟨ok_upto L hB.2.1 hB.1⟩
  have HN : Box ((av (upto L 0)).size = 68 ∧ (av zc).size = 68) := ⟨size_av (HO.out 0), size_av ok_zc⟩
  have HZ : Box (Try.prog.built 26 [(0, .agg (u8s (L.take 32))), (5, .agg (u8s ((L.drop 64).take 32)))] = some (av (upto L 0))) := ⟨built_rt _ _ (by simp [hB.1]) (by simp [hB.1])⟩
  have HW : Box (Lies (w.alloc (.cells (av zc) 26)) S zc ∧ Below S w (w.alloc (.cells (av zc) 26)) ∧ Bytes w a 96 L) := ⟨hS ▸ lies_new w zc, (Below.refl _ _).alloc (by omega) _, hB⟩
  have HV : Box (Bytes (w.alloc (.cells (av zc) 26)) (some ⟨b1, o1, none⟩) 32 (L.take 32) ∧ Bytes (w.alloc (.cells (av zc) 26)) (some ⟨b2, o2, none⟩) 32 ((L.drop 64).take 32)) := ⟨g1.below ((Below.refl _ _).alloc (Nat.le_refl _) _), by rw [← eT]; exact g2.below ((Below.refl _ _).alloc (Nat.le_refl _) _)⟩
  have HS : Box (w.heap.size = S) := ⟨hS⟩
  clear e1 e2 f1 f2 g1 g2 eT hB hc hS
  go_enter Try.func9, Try.ntmps9
  go_upto_region 3 with (refine wpList_run rfl _ _ (exec_alloc 26 rfl _ zeroC) ?_)
  rw [HS.out]
  generalize w.alloc (.cells (av zc) 26) = w1 at HW HV ⊢
  refine Seq.begin_any (by kernel_rfl) (fun wd hd => ?_)
  have HY : Box ((∀ x, Below wd.heap.size wd x → Bytes x (some ⟨b1, o1, none⟩) 32 (L.take 32)) ∧ ∀ x, Below wd.heap.size wd x → Bytes x (some ⟨b2, o2, none⟩) 32 ((L.drop 64).take 32)) := ⟨fun x hx => (HV.out.1.below hd).below hx, fun x hx => (HV.out.2.below hd).below hx⟩
  have HD : Box (Below w1.heap.size w1 wd) := ⟨hd⟩
  clear hd HV
  refine Seq.take_lat (i := 0) (v := ?_) rfl (by kernel_rfl) (by kernel_rfl) (by kernel_rfl) (fun _ _ _ h => h) (by rfl) ?_ ?_
  rotate_left
  · intro w' hLat; change Below _ _ _ at hLat; go_simp <;> with_reducible rfl
  try simp only [Act.put, List.setIfInBounds_toArray, List.set_cons_zero, List.set_cons_succ, List.getElem_toArray, List.getElem_cons_zero]
  refine Seq.take_lat (i := 1) (v := .slice (some ⟨b1, o1, none⟩) 32 cap) rfl (by kernel_rfl) (by kernel_rfl) (by kernel_rfl) (fun _ _ _ h => h) (by rfl) (fun w' hLat => exec_slice 27 (.tmp 11) none (some (.const (.int .i64 32))) rfl _ (HX.out.1 w')) ?_
  try simp only [Act.put, List.setIfInBounds_toArray, List.set_cons_zero, List.set_cons_succ, List.getElem_toArray, List.getElem_cons_zero, List.getElem_cons_succ]
  refine Seq.take_lat (i := 2) (v := .pointer (some ⟨b1, o1, none⟩)) rfl (by kernel_rfl) (by kernel_rfl) (by kernel_rfl) (fun _ _ _ h => h) (by rfl) (fun w' hLat => exec_arr (.tmp 12) rfl _ cap rfl) ?_
  try simp only [Act.put, List.setIfInBounds_toArray, List.set_cons_zero, List.set_cons_succ, List.getElem_toArray, List.getElem_cons_zero, List.getElem_cons_succ]
  refine Seq.take_lat (i := 3) (v := .agg (u8s (L.take 32))) rfl (by kernel_rfl) (by kernel_rfl) (by kernel_rfl) (fun _ _ _ h => h) (by rfl) (fun w' hLat => exec_sum (.tmp 13) rfl b1 o1 rfl _ (HY.out.1 w' hLat)) ?_
  try simp only [Act.put, List.setIfInBounds_toArray, List.set_cons_zero, List.set_cons_succ, List.getElem_toArray, List.getElem_cons_zero, List.getElem_cons_succ]
  refine Seq.take_lat (i := 4) (v := ?_) rfl (by kernel_rfl) (by kernel_rfl) (by kernel_rfl) (fun _ _ _ h => h) (by rfl) ?_ ?_
  rotate_left
  · intro w' hLat; change Below _ _ _ at hLat; go_simp <;> with_reducible rfl
  try simp only [Act.put, List.setIfInBounds_toArray, List.set_cons_zero, List.set_cons_succ, List.getElem_toArray, List.getElem_cons_zero, List.getElem_cons_succ]
  refine Seq.take_lat (i := 5) (v := .slice (some ⟨b2, o2, none⟩) 32 (cap - 64)) rfl (by kernel_rfl) (by kernel_rfl) (by kernel_rfl) (fun _ _ _ h => h) (by rfl) (fun w' hLat => exec_slice 27 (.tmp 15) (some (.const (.int .i64 64))) none rfl _ (HX.out.2 w')) ?_
  try simp only [Act.put, List.setIfInBounds_toArray, List.set_cons_zero, List.set_cons_succ, List.getElem_toArray, List.getElem_cons_zero, List.getElem_cons_succ]
  refine Seq.take_lat (i := 6) (v := .pointer (some ⟨b2, o2, none⟩)) rfl (by kernel_rfl) (by kernel_rfl) (by kernel_rfl) (fun _ _ _ h => h) (by rfl) (fun w' hLat => exec_arr (.tmp 16) rfl _ (cap - 64) rfl) ?_
  try simp only [Act.put, List.setIfInBounds_toArray, List.set_cons_zero, List.set_cons_succ, List.getElem_toArray, List.getElem_cons_zero, List.getElem_cons_succ]
  refine Seq.take_lat (i := 7) (v := .agg (u8s ((L.drop 64).take 32))) rfl (by kernel_rfl) (by kernel_rfl) (by kernel_rfl) (fun _ _ _ h => h) (by rfl) (fun w' hLat => exec_sum (.tmp 17) rfl b2 o2 rfl _ (HY.out.2 w' hLat)) ?_
  try simp only [Act.put, List.setIfInBounds_toArray, List.set_cons_zero, List.set_cons_succ, List.getElem_toArray, List.getElem_cons_zero, List.getElem_cons_succ]
  refine Seq.take_lat (i := 8) (v := .agg (av (upto L 0))) rfl (by kernel_rfl) (by kernel_rfl) (by kernel_rfl) (fun _ _ _ h => h) (by rfl) (fun w' hLat => exec_built 26 [(0, .tmp 14), (5, .tmp 18)] rfl _ rfl _ HZ.out) ?_
  try simp only [Act.put, List.setIfInBounds_toArray, List.set_cons_zero, List.set_cons_succ, List.getElem_toArray, List.getElem_cons_zero, List.getElem_cons_succ]
  refine alloc_lat (i := 9) rfl (by kernel_rfl) (by rfl) 26 rfl (av zc) zeroC (Below.refl _ _) ?_
  try simp only [Act.put, List.setIfInBounds_toArray, List.set_cons_zero, List.set_cons_succ, List.getElem_toArray, List.getElem_cons_zero, List.getElem_cons_succ]
  refine store_lat (i := 10) rfl (by kernel_rfl) (by rfl) (by kernel_rfl) 26 _ _ rfl wd.heap.size (av (upto L 0)) rfl rfl 26 (av zc) (al_at rfl) (by rw [HN.out.1]; exact infoC) (by rw [HN.out.1, HN.out.2]) (all_av _) ((Below.refl _ _).alloc (Nat.le_refl _) _) (Nat.le_refl _) ?_
  try simp only [Act.put, List.getElem_toArray, List.getElem_cons_zero, List.getElem_cons_succ]
  have H1 : Box (Gt w ((wd.alloc (.cells (av zc) 26)).setRow wd.heap.size (av (upto L 0))) S wd.heap.size (upto L 0)) := ⟨gt_start HS.out HW.out.1 HW.out.2.1 HD.out (by rw [HN.out.1, HN.out.2])⟩
  have HB : Box (∀ x, Below S w x → Bytes x a 96 L) := ⟨fun x hx => HW.out.2.2.below (by rw [HS.out]; exact hx)⟩
  generalize (wd.alloc (.cells (av zc) 26)).setRow wd.heap.size (av (upto L 0)) = w2 at H1 ⊢
  generalize wd.heap.size = G at H1 ⊢
  clear HX HY HD HZ HW HN
  go_wp2_with (go_at_call 16; refine Calls.mono (numbers_any G _) ?_; rintro e w4 ⟨rfl, hb⟩; have H4 : Box (Gt w w4 S G (upto L 0)) := ⟨H1.out.on hb⟩; clear hb H1)
  go_loopw [21] (fun i wr => ∃ k : Nat, k ≤ 4 ∧ i = .int .i64 k ∧ Box (Gt w wr S G (upto L k))) (fun i _ => 4 - (intOf i).toNat)
  case atStart => exact ⟨0, by omega, rfl, H4⟩
  case round =>
    obtain ⟨k, hk, rfl, HP⟩ := hrel
    clear H4
    by_cases hlt : k < 4
    · have hix := index4 G k hlt
      have hc : wr.cell? ⟨G, 32 + k, none⟩ = some _ := HP.out.cel.num (HO.out k) k hlt
      have hf : wr.frozen? ⟨G, 32 + k, none⟩ = false := HP.out.cel.froz _
      have HG : Box (Bytes wr a 96 L) := ⟨HB.out _ HP.out.bel⟩
      have HT : Box (Gt w (wr.setCell ⟨G, 32 + k, none⟩ (.int .u64 (num L (32 + 8 * k) 8))) S G (upto L (k + 1))) := ⟨by rw [← upto_succ L k hlt]; exact HP.out.set (HO.out k) k hlt _⟩
      clear HP
      go_wp2_with (go_at_call 18; refine Calls.mono (get_k a cap L (32 + 8 * k) _ _ HG.out (by omega) (by omega)) ?_; rintro e w5 ⟨rfl, rfl⟩)
      go_roundw
      case rel => exact ⟨k + 1, by omega, by go_num, HT⟩
      case measure => simp [intOf]; omega
    · obtain rfl : k = 4 := by omega
      rw [upto_four] at HP
      have h4 := HO.out 4
      rw [upto_four] at h4
      have HF : Box (Ok (ofB L) ∧ (av (ofB L)).size = 68 ∧ (av zc).size = 68 ∧ (vs (ofB L)).length = 68) := ⟨h4, size_av h4, size_av ok_zc, len_vs h4⟩
      clear h4 HO HB
      obtain ⟨C, HC⟩ : ∃ C, Box (ofB L = C) := ⟨_, ⟨rfl⟩⟩
      rw [HC.out] at HP HF
      go_wp2_with (first
        | (refine wpList_load_mid rfl 26 _ rfl G 0 rfl (vs C) _ (range_vs HP.out.cel) Try.underlying26 rfl (by rw [HF.out.2.2.2]; exact infoC) ?_)
        | (refine wpList_store_row rfl 26 _ _ rfl S (av C) rfl rfl 26 (av zc) HP.out.res (by rw [HF.out.2.1]; exact infoC) (by rw [HF.out.2.1, HF.out.2.2.1]) (all_av C) ?_))
      (try simp only [Exit.inBlock, Exit.then])
      refine bodyPost_ret (results_C2 rfl _ _ S C HF.out.1 rfl (setRow_heap _ _ _ _ _ _ HP.out.res)) rfl ?_
      exact ⟨by rw [HC.out]; rfl, by rw [HS.out]; exact below_setRow HP.out.bel (Nat.le_refl _) _⟩
end Go.Proofs.Ytejpbbgnammgkaa
