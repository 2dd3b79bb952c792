/-
  What the reference's Put of layer 15 answers.
-/
import Derived.Test.YthjfobcfdpogeaaBS
namespace Go.Proofs.Ythjfobcfdpogeaa
set_option linter.unusedVariables false
open Go.RowKit Plain

theorem size_str (bs : List Int) : (strOfNums bs).size = bs.length := strOfNums_size bs
theorem built_B (b : Int) (s : ByteArray) : Try.prog.built 49 [(0, .int .u64 b), (1, .string s)] = some #[.int .u64 b, .string s, .int .i64 0] := by kernel_rfl
theorem lenZ {y : World} {S : Nat} {a : Option Addr} {m c : Nat} (h : y.cell? ⟨S, 1, none⟩ = some (.slice a m c)) : lenC y S = m := by
  unfold lenC
  rw [h]
set_option maxRecDepth 20000 in
set_option maxHeartbeats 2000000 in
theorem rput_arg (w : World) (n : Int) (rv : Value) (L : List Kp) (h : RRow w rv L) (b : Int) (bs : List Int) (hb : bs.length ≠ 160) :
    Calls Try.prog 12 #[.agg #[.int .i64 n, rv], .int .u64 b, .string (strOfNums bs)] w fun e w' => e = .returned (.tuple #[.agg #[.int .i64 n, rv], .int .i64 1]) ∧ Below w.heap.size w w' := by
  obtain ⟨a, cap, rfl, hc, hm⟩ := h.form
  obtain ⟨S, hS⟩ : ∃ S, w.heap.size = S := ⟨_, rfl⟩
  obtain ⟨N, hN⟩ : ∃ N, L.length = N := ⟨_, rfl⟩
  have HB0 : Box _ := ⟨bz_new w n (.slice a L.length cap)⟩
  have HR0 : Box (∀ y, Below w.heap.size w y → RRow y (.slice a L.length cap) L) := ⟨fun y hy => h.below hy⟩
  rw [hN] at HB0 HR0 hc ⊢
  have hcm : cap ≤ 9223372036854775807 := hm
  have hz : (((strOfNums bs).size : Int) != 160) = true := by rw [size_str]; simp; omega
  clear h hN hm hb
  generalize strOfNums bs = s at hz ⊢
  go_enter Try.func12, Try.ntmps12
  go_upto_region 1 with (refine atAlloc _ ?_; refine wpList_run rfl _ _ (exec_alloc 28 rfl _ zeroC) ?_)
  (try simp only [hS] at HB0)
  (try simp only [hS])
  generalize (w.alloc (.cells #[.int .i64 n, .slice a N cap] 28)).alloc (.cells #[.int .i64 0, .slice none 0 0] 28) = w1 at HB0 ⊢
  have k1 := HB0.out.c1
  go_wp2_with (first
    | (refine atLoad _ ?_; refine wpList_load_mid rfl 28 _ rfl S 0 rfl [.int .i64 n, .slice a N cap] _ HB0.out.range Try.underlying28 rfl sizeC ?_)
    | (refine atStore _ ?_; refine wpList_store_mid rfl 28 _ _ rfl (S + 1) 0 #[.int .i64 n, .slice a N cap] rfl rfl HB0.out.there sizeC (by simp [Value.oneCell']) ?_))
  have hB := HB0.out.put
  refine bodyPost_ret (results_C2 rfl _ _ (S + 1) [.int .i64 n, .slice a N cap] rfl rfl hB.b1) rfl ?_
  exact ⟨rfl, hB.bl⟩
set_option maxRecDepth 20000 in
set_option maxHeartbeats 2000000 in
theorem rput_old (w : World) (n : Int) (rv : Value) (L : List Kp) (h : RRow w rv L) (hl : L.length < 900000) (b : Int) (i : Nat) (hi : i < L.length) (hf : Fs L b i) (bs : List Int) (hb : bs.length = 160) :
    Calls Try.prog 12 #[.agg #[.int .i64 n, rv], .int .u64 b, .string (strOfNums bs)] w fun e w' => ∃ rv', e = .returned (.tuple #[.agg #[.int .i64 n, rv'], .int .i64 0]) ∧ Rq w w' rv' ({ L[i] with bs := bs } :: L.eraseIdx i) := by
  obtain ⟨a, cap, rfl, hc, hm⟩ := h.form
  obtain ⟨S, hS⟩ : ∃ S, w.heap.size = S := ⟨_, rfl⟩
  obtain ⟨N, hN⟩ : ∃ N, L.length = N := ⟨_, rfl⟩
  have HB0 : Box _ := ⟨bz_new w n (.slice a L.length cap)⟩
  have HR0 : Box (∀ y, Below w.heap.size w y → RRow y (.slice a L.length cap) L) := ⟨fun y hy => h.below hy⟩
  rw [hN] at HB0 HR0 hc ⊢
  have hcm : cap ≤ 9223372036854775807 := hm
  have HF : Box (∀ y, Below w.heap.size w y → Calls Try.prog 26 #[.slice a N cap, .int .u64 b] y fun e w' => e = .returned (.int .i64 (i : Int)) ∧ y = w') := ⟨fun y hy => rfind_ok y _ L (HR0.out y hy) (by omega) b i hf⟩
  have HL : Box (L.length < 1000000 ∧ i < L.length) := ⟨by omega, hi⟩
  have HE : Box ((L.eraseIdx i).length < 900000) := ⟨by rw [List.length_eraseIdx, if_pos hi]; omega⟩
  obtain ⟨g, rfl, hgr⟩ : ∃ g, a = some ⟨g, 0, none⟩ ∧ ∀ y, Below w.heap.size w y → y.rangeAt g (i * 3) (rc L[i]) := by
    obtain ⟨g, e, _, hr⟩ := h.ways (by omega)
    refine ⟨g, e, fun y hy => ?_⟩
    obtain ⟨g', e', _, hr'⟩ := (h.below hy).ways (by omega)
    rw [e] at e'
    simp only [Option.some.injEq, Addr.mk.injEq, and_true] at e'
    subst e'
    exact hr' i hi
  have HG : Box (∀ y, Below w.heap.size w y → y.rangeAt g (i * 3) (rc L[i])) := ⟨hgr⟩
  have hiN : i < N := by omega
  have hz : (((strOfNums bs).size : Int) != 160) = false := by rw [size_str, hb]; rfl
  obtain ⟨x0, hx0⟩ : ∃ x, L[i] = x := ⟨_, rfl⟩
  rw [hx0] at HG ⊢
  obtain ⟨x, hx⟩ : ∃ x, ({ x0 with bs := bs } : Kp) = x := ⟨_, rfl⟩
  have hrx : rc x = [.int .u64 x0.b, .string (strOfNums bs), .int .i64 x0.h] := by rw [← hx]; rfl
  rw [hx]
  have hneg : decide (0 ≤ (i : Int)) = true := by simp
  clear h hN hm hf hgr hx0 hx hb
  generalize strOfNums bs = s at hz hrx ⊢
  go_enter Try.func12, Try.ntmps12
  go_upto_region 1 with (refine atAlloc _ ?_; refine wpList_run rfl _ _ (exec_alloc 28 rfl _ zeroC) ?_)
  (try simp only [hS] at HB0)
  (try simp only [hS])
  generalize (w.alloc (.cells #[.int .i64 n, .slice (some ⟨g, 0, none⟩) N cap] 28)).alloc (.cells #[.int .i64 0, .slice none 0 0] 28) = w1 at HB0 ⊢
  have k1 := HB0.out.c1
  have HF1 : Box _ := ⟨HF.out w1 HB0.out.bl⟩
  go_upto_region 5 with (go_at_call 26; refine HF1.out.mono ?_; rintro e w2 ⟨rfl, rfl⟩)
  obtain ⟨X, hX⟩ : ∃ X, w1.heap.size = X := ⟨_, rfl⟩
  have hNw := laid_new w1 #[.int .u64 0, .string ByteArray.empty, .int .i64 0] 49 (rc x0) rfl
  have HT : Box ((w1.alloc (.cells #[.int .u64 0, .string ByteArray.empty, .int .i64 0] 49)).there X 0 (rc x0).toArray.size) := ⟨there_row (al_at hX) (Nat.le_refl _)⟩
  have HG1 : Box (w1.rangeAt g (i * 3) (rc x0)) := ⟨HG.out w1 HB0.out.bl⟩
  rw [hX] at hNw
  have HB1 : Box (Bz w ((w1.alloc (.cells #[.int .u64 0, .string ByteArray.empty, .int .i64 0] 49)).setCells X 0 (rc x0)) S n (.slice (some ⟨g, 0, none⟩) N cap) #[.int .i64 0, .slice none 0 0] ∧ S + 2 ≤ X) := ⟨HB0.out.below (by rw [hX]; exact hNw.1), by rw [← hX]; exact HB0.out.lt⟩
  have HX1 : Box (((w1.alloc (.cells #[.int .u64 0, .string ByteArray.empty, .int .i64 0] 49)).setCells X 0 (rc x0)).heap[X]? = some (.cells (rc x0).toArray 49 (0, 0))) := ⟨hNw.2.2⟩
  clear hNw
  go_upto_region 6 with (first
    | (refine atAlloc _ ?_; refine wpList_run rfl _ _ (exec_alloc 49 rfl _ zeroB) ?_)
    | (refine atStore _ ?_; (try simp only [hX]); refine wpList_store_mid rfl 49 _ _ rfl X 0 (rc x0).toArray rfl rfl HT.out sizeB (by simp [rc, Value.oneCell']) ?_)
    | (refine atLoad _ ?_; refine wpList_load_mid rfl 49 _ rfl g (i * 3) rfl (rc x0) _ HG1.out Try.underlying49 rfl sizeB ?_))
  (try simp only [hX])
  generalize (w1.alloc (.cells #[.int .u64 0, .string ByteArray.empty, .int .i64 0] 49)).setCells X 0 (rc x0).toArray.toList = w2 at HB1 HX1 ⊢
  clear HG1 HT hX HB0 HF HF1 HG k1
  have d1 : w2.cell? ⟨X, 1, none⟩ = some (.string (strOfNums x0.bs)) := by rw [cell_of_row _ _ _ _ _ _ HX1.out]; rfl
  have f1 : w2.frozen? ⟨X, 1, none⟩ = false := frozen_of_row w2 X _ _ _ HX1.out
  have hBt : But X w2 (w2.setCell ⟨X, 1, none⟩ (.string s)) := (But.refl X w2).setCell 1 _
  have hle : w.heap.size ≤ X := by have := HB1.out.1.sz; have := HB1.out.2; omega
  have HB : Box (Bz w (w2.setCell ⟨X, 1, none⟩ (.string s)) S n (.slice (some ⟨g, 0, none⟩) N cap) #[.int .i64 0, .slice none 0 0]) := ⟨by
    have h := HB1.out
    refine ⟨?_, ?_, below_set h.1.bl hle _, h.1.sz⟩
    · rw [hBt.block S (Array.getElem?_eq_some_iff.1 h.1.b0).1 (by omega)]; exact h.1.b0
    · rw [hBt.block (S + 1) (Array.getElem?_eq_some_iff.1 h.1.b1).1 (by omega)]; exact h.1.b1⟩
  have HX : Box ((w2.setCell ⟨X, 1, none⟩ (.string s)).rangeAt X 0 (rc x) ∧ S + 2 ≤ X ∧ X < (w2.setCell ⟨X, 1, none⟩ (.string s)).heap.size) := ⟨by
    rw [hrx]
    refine range_arr (heap_setCell_same w2 X 1 _ _ _ HX1.out) _ (fun j v hv => ?_)
    simpa [rc] using hv, HB1.out.2, by simpa using (Array.getElem?_eq_some_iff.1 HX1.out).1⟩
  have HR : Box (RRow (w2.setCell ⟨X, 1, none⟩ (.string s)) (.slice (some ⟨g, 0, none⟩) N cap) L) := ⟨HR0.out _ HB.out.bl⟩
  clear hBt hle
  go_upto_region 7 with fail
  generalize w2.setCell ⟨X, 1, none⟩ (.string s) = w3 at HB HX HR ⊢
  clear d1 f1 HB1 HX1 HR0
  obtain ⟨V, hV⟩ : ∃ V : Array Value, #[.int .i64 0, .slice none 0 0] = V := ⟨_, rfl⟩
  rw [hV] at HB
  clear hrx
  refine begin_keep (S := fun y => y.rangeAt X 0 (rc x)) (by kernel_rfl) (fun wd hwd => ?_)
  have hBd : Bz w wd S n (.slice (some ⟨g, 0, none⟩) N cap) V := by rw [hwd]; exact HB.out.below ((Below.refl _ _).drew)
  have hRd : RRow wd (.slice (some ⟨g, 0, none⟩) N cap) L := by rw [hwd]; exact HR.out.below ((Below.refl _ _).drew)
  have hS : wd.rangeAt X 0 (rc x) := by rw [hwd]; exact HX.out.1
  have hXd : S + 2 ≤ X ∧ X < wd.heap.size := by rw [hwd]; exact HX.out.2
  clear hwd
  refine take_s (i := 0) (v := .agg (rc x).toArray) rfl (by kernel_rfl) (by kernel_rfl) (by kernel_rfl) (fun _ _ _ h => h) (by rfl) (fun w' hLat => exec_load_mid 49 _ _ rfl Try.underlying49 rfl _ _ rfl _ sizeB hLat) hS ?_
  try simp only [Act.put, List.setIfInBounds_toArray, List.set_cons_zero, List.set_cons_succ, List.getElem_toArray, List.getElem_cons_zero]
  refine take_s (i := 1) (v := ?_) rfl (by kernel_rfl) (by kernel_rfl) (by kernel_rfl) (fun _ _ _ h => h) (by rfl) ?_ hS ?_
  rotate_left
  · intro w' hLat; clear hLat; go_simp <;> with_reducible rfl
  try simp only [Act.put, List.setIfInBounds_toArray, List.set_cons_zero, List.set_cons_succ, List.getElem_toArray, List.getElem_cons_zero, List.getElem_cons_succ]
  refine take_s (i := 3) (v := ?_) rfl (by kernel_rfl) (by kernel_rfl) (by kernel_rfl) (fun _ _ _ h => h) (by rfl) ?_ hS ?_
  rotate_left
  · intro w' hLat; clear hLat; go_simp <;> with_reducible rfl
  try simp only [Act.put, List.setIfInBounds_toArray, List.set_cons_zero, List.set_cons_succ, List.getElem_toArray, List.getElem_cons_zero, List.getElem_cons_succ]
  refine one_keep (i := 2) (by kernel_rfl) ?_
  refine keep_step rfl (by rfl) ?_
  refine wp_val (.slice (some ⟨g, 0, none⟩) N cap) (exec_load1 26 _ _ rfl Try.underlying26 rfl _ rfl _ hBd.c1) ?_
  refine ⟨hS, ?_⟩
  try simp only [Act.put, List.setIfInBounds_toArray, List.set_cons_zero, List.set_cons_succ, List.getElem_toArray, List.getElem_cons_zero, List.getElem_cons_succ]
  refine one_keep (i := 4) (by kernel_rfl) ?_
  refine keep_step rfl (by rfl) ?_
  go_simp
  refine Calls.mono (without_any wd (.slice (some ⟨g, 0, none⟩) N cap) L hRd HL.out.1 i HL.out.2) ?_
  rintro e y1 ⟨rv1, rfl, hR1, hb1, _⟩
  have hB1 := hBd.below hb1
  have hS : y1.rangeAt X 0 (rc x) := range_below hS hb1 hXd.2
  have hXs := hb1.size
  refine ⟨hS, ?_⟩
  try simp only [Act.put, List.setIfInBounds_toArray, List.set_cons_zero, List.set_cons_succ, List.getElem_toArray, List.getElem_cons_zero, List.getElem_cons_succ]
  refine one_keep (i := 5) (by kernel_rfl) ?_
  refine keep_step rfl (by rfl) ?_
  go_simp
  refine Calls.mono (first_any y1 rv1 (L.eraseIdx i) x hR1 HE.out) ?_
  rintro e y2 ⟨rv2, rfl, hR2, hb2, hn2⟩
  have hB2 := hB1.below hb2
  have hS : y2.rangeAt X 0 (rc x) := range_below hS hb2 (by omega)
  obtain ⟨a2, c2, rfl, _, _⟩ := hR2.form
  refine ⟨hS, ?_⟩
  try simp only [Act.put, List.setIfInBounds_toArray, List.set_cons_zero, List.set_cons_succ, List.getElem_toArray, List.getElem_cons_zero, List.getElem_cons_succ]
  refine take_s (i := 6) (v := ?_) rfl (by kernel_rfl) (by kernel_rfl) (by kernel_rfl) (fun _ _ _ h => h) (by rfl) ?_ hS ?_
  rotate_left
  · intro w' hLat; clear hLat; go_simp <;> with_reducible rfl
  try simp only [Act.put, List.setIfInBounds_toArray, List.set_cons_zero, List.set_cons_succ, List.getElem_toArray, List.getElem_cons_zero, List.getElem_cons_succ]
  refine one_keep (i := 7) (by kernel_rfl) ?_
  refine keep_step rfl (by rfl) ?_
  refine wp_store_one 26 (.tmp 34) (.tmp 33) rfl (by kernel_rfl) (.slice a2 (x :: L.eraseIdx i).length c2) rfl rfl rfl rfl (by rw [hB2.c1]; rfl) hB2.f1 ?_
  have hB3 := hB2.set0 (.slice a2 (x :: L.eraseIdx i).length c2)
  have hR3 : RRow (y2.setCell ⟨S, 1, none⟩ (.slice a2 (x :: L.eraseIdx i).length c2)) (.slice a2 (x :: L.eraseIdx i).length c2) (x :: L.eraseIdx i) := own_same hR2 (fun k hk => heap_setCell_other y2 ⟨S, 1, none⟩ k _ (fun e => by have h1 := hn2 k hk; have h2 := hb1.size; have e' : k = S := e; omega))
  have hS : (y2.setCell ⟨S, 1, none⟩ (.slice a2 (x :: L.eraseIdx i).length c2)).rangeAt X 0 (rc x) := fun j v hv => but_cell ((But.refl S y2).setCell 1 _) (hS j v hv) (by show X ≠ S; omega)
  have hXs3 : S + 2 ≤ X ∧ X < (y2.setCell ⟨S, 1, none⟩ (.slice a2 (x :: L.eraseIdx i).length c2)).heap.size := ⟨hXd.1, by have h2 := hb2.size; simp; omega⟩
  obtain ⟨N2, hN2⟩ : ∃ N2, (x :: L.eraseIdx i).length = N2 := ⟨_, rfl⟩
  rw [hN2] at hB3 hR3 hS hXs3 ⊢
  have H4 : Box _ := ⟨hB3⟩
  have R4 : Box _ := ⟨hR3⟩
  have X4 : Box _ := ⟨And.intro hS hXs3⟩
  generalize y2.setCell ⟨S, 1, none⟩ (.slice a2 N2 c2) = w4 at H4 R4 X4 hS ⊢
  refine ⟨hS, ?_⟩
  try simp only [Act.put, List.getElem_toArray, List.getElem_cons_zero, List.getElem_cons_succ]
  refine wpAnyH_done (by kernel_rfl) ?_ _
  clear hB1 hB2 hB3 hR1 hR2 hR3 hRd hBd hb1 hb2 hn2 hXd hXs hXs3 hS HB HX HR
  rw [← hV] at H4
  clear hV
  go_wp2_with (first
    | (refine atLoad _ ?_; refine wpList_load_mid rfl 28 _ rfl S 0 rfl [.int .i64 n, .slice a2 N2 c2] _ H4.out.range Try.underlying28 rfl sizeC ?_)
    | (refine atStore _ ?_; refine wpList_store_mid rfl 28 _ _ rfl (S + 1) 0 #[.int .i64 n, .slice a2 N2 c2] rfl rfl H4.out.there sizeC (by simp [Value.oneCell']) ?_))
  have hB6 := H4.out.put
  refine bodyPost_ret (results_C2 rfl _ _ (S + 1) [.int .i64 n, .slice a2 N2 c2] rfl rfl hB6.b1) rfl ?_
  exact ⟨_, rfl, H4.out.row R4.out, hB6.bl⟩
end Go.Proofs.Ythjfobcfdpogeaa
