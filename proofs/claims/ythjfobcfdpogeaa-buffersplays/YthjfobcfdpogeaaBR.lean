/-
  What the reference's Get, Hold and Drop of layer 15 answer.
-/
import Derived.Test.YthjfobcfdpogeaaBQ
namespace Go.Proofs.Ythjfobcfdpogeaa
set_option linter.unusedVariables false
open Go.RowKit Plain

theorem wp_val {o : Oper} {a : Act} {w : World} {K : Act → World → Prop} {Q : Exit → Act → World → Prop} (v : Value) (hr : (execOp a.eval o).run Try.prog w = .ok (.value v) w) (h : K (a.put o.dst v) w) : Oper.wp Try.prog o a w K Q := by
  unfold Oper.wp
  rw [hr]
  exact h
/-- A cache of the reference's in a box, and the box of an answer behind it. -/
structure Bz (w y : World) (S : Nat) (n : Int) (rv : Value) (V : Array Value) : Prop where
  b0 : y.heap[S]? = some (.cells #[.int .i64 n, rv] 28 (0, 0))
  b1 : y.heap[S + 1]? = some (.cells V 28 (0, 0))
  bl : Below w.heap.size w y
  sz : w.heap.size = S
theorem Bz.below {w y z : World} {S : Nat} {n : Int} {rv : Value} {V : Array Value} (h : Bz w y S n rv V) (hb : Below y.heap.size y z) : Bz w z S n rv V :=
  ⟨(hb.block S (Array.getElem?_eq_some_iff.1 h.b0).1).trans h.b0, (hb.block (S + 1) (Array.getElem?_eq_some_iff.1 h.b1).1).trans h.b1, below_to h.bl hb, h.sz⟩
theorem Bz.c0 {w y : World} {S : Nat} {n : Int} {rv : Value} {V : Array Value} (h : Bz w y S n rv V) : y.cell? ⟨S, 0, none⟩ = some (.int .i64 n) := by rw [cell_of_row _ _ _ _ _ _ h.b0]; rfl
theorem Bz.c1 {w y : World} {S : Nat} {n : Int} {rv : Value} {V : Array Value} (h : Bz w y S n rv V) : y.cell? ⟨S, 1, none⟩ = some rv := by rw [cell_of_row _ _ _ _ _ _ h.b0]; rfl
theorem Bz.f1 {w y : World} {S : Nat} {n : Int} {rv : Value} {V : Array Value} (h : Bz w y S n rv V) : y.frozen? ⟨S, 1, none⟩ = false := frozen_of_row y S _ _ _ h.b0
theorem Bz.set0 {w y : World} {S : Nat} {n : Int} {rv : Value} {V : Array Value} (h : Bz w y S n rv V) (rv' : Value) : Bz w (y.setCell ⟨S, 1, none⟩ rv') S n rv' V :=
  ⟨heap_setCell_same y S 1 _ _ _ h.b0, by rw [heap_setCell_other y ⟨S, 1, none⟩ (S + 1) _ (by simp)]; exact h.b1, below_set h.bl (by rw [h.sz]; exact Nat.le_refl _) _, h.sz⟩
theorem Bz.lt {w y : World} {S : Nat} {n : Int} {rv : Value} {V : Array Value} (h : Bz w y S n rv V) : S + 2 ≤ y.heap.size := by have := (Array.getElem?_eq_some_iff.1 h.b1).1; omega
theorem Bz.range {w y : World} {S : Nat} {n : Int} {rv : Value} {V : Array Value} (h : Bz w y S n rv V) : y.rangeAt S 0 [.int .i64 n, rv] := range_arr h.b0 _ (fun j v hv => by simpa using hv)
theorem Bz.there {w y : World} {S : Nat} {n : Int} {rv v0 v1 : Value} (h : Bz w y S n rv #[v0, v1]) : y.there (S + 1) 0 2 := there_row h.b1 (Nat.le_refl _)
theorem Bz.put {w y : World} {S : Nat} {n : Int} {rv v0 v1 : Value} (h : Bz w y S n rv #[v0, v1]) : Bz w (y.setCells (S + 1) 0 [.int .i64 n, rv]) S n rv #[.int .i64 n, rv] := by
  have hb := But.setCells (G := S + 1) [.int .i64 n, rv] 0 (But.refl (S + 1) y)
  refine ⟨?_, ?_, ?_, h.sz⟩
  · rw [hb.block S (Array.getElem?_eq_some_iff.1 h.b0).1 (by omega)]
    exact h.b0
  · have := heap_setCells (S + 1) _ [.int .i64 n, rv] 0 y _ h.b1 (by simp)
    rw [this]
    simp [splice]
  · exact h.bl.trans (hb.below (by rw [h.sz]; omega) h.bl.size)
theorem Bz.row {w y : World} {S : Nat} {n : Int} {rv v0 v1 : Value} {L : List Kp} (h : Bz w y S n rv #[v0, v1]) (hr : RRow y rv L) : RRow (y.setCells (S + 1) 0 [.int .i64 n, rv]) rv L :=
  own_same hr (fun k hk => (But.setCells (G := S + 1) [.int .i64 n, rv] 0 (But.refl (S + 1) y)).block k (hr.lt k hk).2 (fun e => by
    obtain ⟨cs, hc⟩ := own_type hr hk
    rw [e, h.b1] at hc
    simp at hc))
theorem sizeC : (Try.prog.info? 28).map (·.size) = some 2 := by kernel_rfl
theorem zeroC : (Try.prog.info? 28).map (·.zero) = some (some (.agg #[.int .i64 0, .slice none 0 0])) := by kernel_rfl
theorem bz_new (w : World) (n : Int) (rv : Value) : Bz w ((w.alloc (.cells #[.int .i64 n, rv] 28)).alloc (.cells #[.int .i64 0, .slice none 0 0] 28)) w.heap.size n rv #[.int .i64 0, .slice none 0 0] :=
  ⟨al_old (al_at rfl), al_at (by simp), ((Below.refl _ w).alloc (Nat.le_refl _) _).alloc (by simp) _, rfl⟩
theorem results_C2 {fn : Func} {t u : Tmp} (h : fn.results = #[.cell t 28, .tmp u]) (tmps : Array Value) (w : World) (b : Nat) (V : List Value) (ht : tmps.getD t undef = .pointer (some ⟨b, 0, none⟩)) (hV : V.length = 2) (hg : w.heap[b]? = some (.cells V.toArray 28 (0, 0))) :
    (results fn tmps).run Try.prog w = .ok (.tuple #[.agg V.toArray, tmps.getD u undef]) w := by
  have hl := run_loadVar_row (P := Try.prog) w b _ 28 _ _ _ hg Try.underlying28 rfl (by rw [sizeC]; simp [hV])
  rw [results_cell_tmp h, ht]
  simp [asAddr, hl]
theorem results_C3 {fn : Func} {t u q : Tmp} (h : fn.results = #[.cell t 28, .tmp u, .tmp q]) (tmps : Array Value) (w : World) (b : Nat) (V : List Value) (ht : tmps.getD t undef = .pointer (some ⟨b, 0, none⟩)) (hV : V.length = 2) (hg : w.heap[b]? = some (.cells V.toArray 28 (0, 0))) :
    (results fn tmps).run Try.prog w = .ok (.tuple #[.agg V.toArray, tmps.getD u undef, tmps.getD q undef]) w := by
  have hl := run_loadVar_row (P := Try.prog) w b _ 28 _ _ _ hg Try.underlying28 rfl (by rw [sizeC]; simp [hV])
  simp only [Array.getD_eq_getD_getElem?] at ht
  simp [results, h, ht, hl, asAddr]
/-- What a call of the reference's leaves: a row, and nothing that was there has turned. -/
def Rq (w w' : World) (rv : Value) (L : List Kp) : Prop := RRow w' rv L ∧ Below w.heap.size w w'
theorem exec_idxB {op : Oper} {ρ : Operand → Value} {w' : World} (x y : Operand) (ho : op.op = .indexAddr 26 x y) (b len cap j : Nat) (hx : ρ x = .slice (some ⟨b, 0, none⟩) len cap) (hy : ρ y = .int .i64 (j : Int)) (hj : j < len) :
    (execOp ρ op).run Try.prog w' = .ok (.value (.pointer (some ⟨b, j * 3, none⟩))) w' := by
  have hc : (0 : Int) ≤ (j : Int) ∧ (j : Int) < (len : Int) := by omega
  unfold execOp
  simp [ho, hx, hy, Instr.indexAt, asIntOf, Sem.run_bind, run_underlying Try.underlying26, hc, Addr.add_mid]
  intro hh; omega
set_option maxRecDepth 20000 in
set_option maxHeartbeats 2000000 in
theorem rget_no (w : World) (n : Int) (rv : Value) (L : List Kp) (h : RRow w rv L) (hl : L.length < 900000) (b : Int) (hn : No L b) :
    Calls Try.prog 14 #[.agg #[.int .i64 n, rv], .int .u64 b] w fun e w' => e = .returned (.tuple #[.agg #[.int .i64 n, rv], .string ByteArray.empty, .bool false]) ∧ Below w.heap.size w w' := by
  obtain ⟨a, cap, rfl, hc, hm⟩ := h.form
  obtain ⟨S, hS⟩ : ∃ S, w.heap.size = S := ⟨_, rfl⟩
  obtain ⟨N, hN⟩ : ∃ N, L.length = N := ⟨_, rfl⟩
  have HB0 : Box _ := ⟨bz_new w n (.slice a L.length cap)⟩
  have HR0 : Box (∀ y, Below w.heap.size w y → RRow y (.slice a L.length cap) L) := ⟨fun y hy => h.below hy⟩
  rw [hN] at HB0 HR0 hc ⊢
  have hcm : cap ≤ 9223372036854775807 := hm
  have HF : Box (∀ y, Below w.heap.size w y → Calls Try.prog 26 #[.slice a N cap, .int .u64 b] y fun e w' => e = .returned (.int .i64 (-1)) ∧ y = w') := ⟨fun y hy => rfind_no y _ L (HR0.out y hy) (by omega) b hn⟩
  clear h hN hm hn
  go_enter Try.func14, Try.ntmps14
  go_upto_region 1 with (refine atAlloc _ ?_; refine wpList_run rfl _ _ (exec_alloc 28 rfl _ zeroC) ?_)
  (try simp only [hS] at HB0)
  (try simp only [hS])
  generalize (w.alloc (.cells #[.int .i64 n, .slice a N cap] 28)).alloc (.cells #[.int .i64 0, .slice none 0 0] 28) = w1 at HB0 ⊢
  have k1 := HB0.out.c1
  have HF1 : Box _ := ⟨HF.out w1 HB0.out.bl⟩
  clear HF
  go_wp2_with (first
    | (go_at_call 26; refine HF1.out.mono ?_; rintro e w2 ⟨rfl, rfl⟩)
    | (refine atLoad _ ?_; refine wpList_load_mid rfl 28 _ rfl S 0 rfl [.int .i64 n, .slice a N cap] _ HB0.out.range Try.underlying28 rfl sizeC ?_)
    | (refine atStore _ ?_; refine wpList_store_mid rfl 28 _ _ rfl (S + 1) 0 #[.int .i64 n, .slice a N cap] rfl rfl HB0.out.there sizeC (by simp [Value.oneCell']) ?_))
  have hB := HB0.out.put
  refine bodyPost_ret (results_C3 rfl _ _ (S + 1) [.int .i64 n, .slice a N cap] rfl rfl hB.b1) rfl ?_
  exact ⟨rfl, hB.bl⟩
set_option maxRecDepth 20000 in
set_option maxHeartbeats 2000000 in
theorem rget_ok (w : World) (n : Int) (rv : Value) (L : List Kp) (h : RRow w rv L) (hl : L.length < 900000) (b : Int) (i : Nat) (hi : i < L.length) (hf : Fs L b i) :
    Calls Try.prog 14 #[.agg #[.int .i64 n, rv], .int .u64 b] w fun e w' => ∃ rv', e = .returned (.tuple #[.agg #[.int .i64 n, rv'], .string (strOfNums L[i].bs), .bool true]) ∧ Rq w w' rv' (fro L i hi) := by
  obtain ⟨a, cap, rfl, hc, hm⟩ := h.form
  obtain ⟨S, hS⟩ : ∃ S, w.heap.size = S := ⟨_, rfl⟩
  obtain ⟨N, hN⟩ : ∃ N, L.length = N := ⟨_, rfl⟩
  have HB0 : Box _ := ⟨bz_new w n (.slice a L.length cap)⟩
  have HR0 : Box (∀ y, Below w.heap.size w y → RRow y (.slice a L.length cap) L) := ⟨fun y hy => h.below hy⟩
  rw [hN] at HB0 HR0 hc ⊢
  have hcm : cap ≤ 9223372036854775807 := hm
  have HF : Box (∀ y, Below w.heap.size w y → Calls Try.prog 26 #[.slice a N cap, .int .u64 b] y fun e w' => e = .returned (.int .i64 (i : Int)) ∧ y = w') := ⟨fun y hy => rfind_ok y _ L (HR0.out y hy) (by omega) b i hf⟩
  have HL : Box (L.length < 1000000 ∧ i < L.length) := ⟨by omega, hi⟩
  have HE : Box ((L.eraseIdx i).length < 900000) := ⟨by rw [List.length_eraseIdx, if_pos hi]; omega⟩
  obtain ⟨g, rfl, hgr⟩ : ∃ g, a = some ⟨g, 0, none⟩ ∧ ∀ y, Below w.heap.size w y → y.rangeAt g (i * 3) (rc L[i]) := by
    obtain ⟨g, e, _, hr⟩ := h.ways (by omega)
    refine ⟨g, e, fun y hy => ?_⟩
    obtain ⟨g', e', _, hr'⟩ := (h.below hy).ways (by omega)
    rw [e] at e'
    simp only [Option.some.injEq, Addr.mk.injEq, and_true] at e'
    subst e'
    exact hr' i hi
  have HG : Box (∀ y, Below w.heap.size w y → y.rangeAt g (i * 3) (rc L[i])) := ⟨hgr⟩
  have hiN : i < N := by omega
  obtain ⟨x, hx⟩ : ∃ x, L[i] = x := ⟨_, rfl⟩
  have HE2 : Box (fro L i hi = x :: L.eraseIdx i) := ⟨by rw [fro, hx]⟩
  rw [hx] at HG ⊢
  have hneg : decide ((i : Int) < 0) = false := by simp
  clear h hN hm hf hgr hx
  go_enter Try.func14, Try.ntmps14
  go_upto_region 1 with (refine atAlloc _ ?_; refine wpList_run rfl _ _ (exec_alloc 28 rfl _ zeroC) ?_)
  (try simp only [hS] at HB0)
  (try simp only [hS])
  generalize (w.alloc (.cells #[.int .i64 n, .slice (some ⟨g, 0, none⟩) N cap] 28)).alloc (.cells #[.int .i64 0, .slice none 0 0] 28) = w1 at HB0 ⊢
  have k1 := HB0.out.c1
  have HF1 : Box _ := ⟨HF.out w1 HB0.out.bl⟩
  go_upto_region 4 with (go_at_call 26; refine HF1.out.mono ?_; rintro e w2 ⟨rfl, rfl⟩)
  obtain ⟨X, hX⟩ : ∃ X, w1.heap.size = X := ⟨_, rfl⟩
  have hNw := laid_new w1 #[.int .u64 0, .string ByteArray.empty, .int .i64 0] 49 (rc x) rfl
  have HT : Box ((w1.alloc (.cells #[.int .u64 0, .string ByteArray.empty, .int .i64 0] 49)).there X 0 (rc x).toArray.size) := ⟨there_row (al_at hX) (Nat.le_refl _)⟩
  have HG1 : Box (w1.rangeAt g (i * 3) (rc x)) := ⟨HG.out w1 HB0.out.bl⟩
  rw [hX] at hNw
  have HB : Box (Bz w ((w1.alloc (.cells #[.int .u64 0, .string ByteArray.empty, .int .i64 0] 49)).setCells X 0 (rc x)) S n (.slice (some ⟨g, 0, none⟩) N cap) #[.int .i64 0, .slice none 0 0]) := ⟨HB0.out.below (by rw [hX]; exact hNw.1)⟩
  have HX : Box (((w1.alloc (.cells #[.int .u64 0, .string ByteArray.empty, .int .i64 0] 49)).setCells X 0 (rc x)).rangeAt X 0 (rc x) ∧ S + 2 ≤ X ∧ X < ((w1.alloc (.cells #[.int .u64 0, .string ByteArray.empty, .int .i64 0] 49)).setCells X 0 (rc x)).heap.size) := ⟨range_arr hNw.2.2 _ (fun j v hv => by simpa using hv), by rw [← hX]; exact HB0.out.lt, (Array.getElem?_eq_some_iff.1 hNw.2.2).1⟩
  have HR : Box (RRow ((w1.alloc (.cells #[.int .u64 0, .string ByteArray.empty, .int .i64 0] 49)).setCells X 0 (rc x)) (.slice (some ⟨g, 0, none⟩) N cap) L) := ⟨HR0.out _ HB.out.bl⟩
  clear hNw
  go_upto_region 5 with (first
    | (refine atAlloc _ ?_; refine wpList_run rfl _ _ (exec_alloc 49 rfl _ zeroB) ?_)
    | (refine atStore _ ?_; (try simp only [hX]); refine wpList_store_mid rfl 49 _ _ rfl X 0 (rc x).toArray rfl rfl HT.out sizeB (by simp [rc, Value.oneCell']) ?_)
    | (refine atLoad _ ?_; refine wpList_load_mid rfl 49 _ rfl g (i * 3) rfl (rc x) _ HG1.out Try.underlying49 rfl sizeB ?_))
  (try simp only [hX])
  generalize (w1.alloc (.cells #[.int .u64 0, .string ByteArray.empty, .int .i64 0] 49)).setCells X 0 (rc x).toArray.toList = w2 at HB HX HR ⊢
  clear HG1 HT hX HB0 HR0 HF HF1 HG k1
  obtain ⟨V, hV⟩ : ∃ V : Array Value, #[.int .i64 0, .slice none 0 0] = V := ⟨_, rfl⟩
  rw [hV] at HB
  refine begin_keep (S := fun y => y.rangeAt X 0 (rc x)) (by kernel_rfl) (fun wd hwd => ?_)
  have hBd : Bz w wd S n (.slice (some ⟨g, 0, none⟩) N cap) V := by rw [hwd]; exact HB.out.below ((Below.refl _ _).drew)
  have hRd : RRow wd (.slice (some ⟨g, 0, none⟩) N cap) L := by rw [hwd]; exact HR.out.below ((Below.refl _ _).drew)
  have hS : wd.rangeAt X 0 (rc x) := by rw [hwd]; exact HX.out.1
  have hXd : S + 2 ≤ X ∧ X < wd.heap.size := by rw [hwd]; exact HX.out.2
  clear hwd
  refine take_s (i := 0) (v := .agg (rc x).toArray) rfl (by kernel_rfl) (by kernel_rfl) (by kernel_rfl) (fun _ _ _ h => h) (by rfl) (fun w' hLat => exec_load_mid 49 _ _ rfl Try.underlying49 rfl _ _ rfl _ sizeB hLat) hS ?_
  try simp only [Act.put, List.setIfInBounds_toArray, List.set_cons_zero, List.set_cons_succ, List.getElem_toArray, List.getElem_cons_zero]
  refine take_s (i := 1) (v := ?_) rfl (by kernel_rfl) (by kernel_rfl) (by kernel_rfl) (fun _ _ _ h => h) (by rfl) ?_ hS ?_
  rotate_left
  · intro w' hLat; clear hLat; go_simp <;> with_reducible rfl
  try simp only [Act.put, List.setIfInBounds_toArray, List.set_cons_zero, List.set_cons_succ, List.getElem_toArray, List.getElem_cons_zero, List.getElem_cons_succ]
  refine take_s (i := 3) (v := ?_) rfl (by kernel_rfl) (by kernel_rfl) (by kernel_rfl) (fun _ _ _ h => h) (by rfl) ?_ hS ?_
  rotate_left
  · intro w' hLat; clear hLat; go_simp <;> with_reducible rfl
  try simp only [Act.put, List.setIfInBounds_toArray, List.set_cons_zero, List.set_cons_succ, List.getElem_toArray, List.getElem_cons_zero, List.getElem_cons_succ]
  refine one_keep (i := 2) (by kernel_rfl) ?_
  refine keep_step rfl (by rfl) ?_
  refine wp_val (.slice (some ⟨g, 0, none⟩) N cap) (exec_load1 26 _ _ rfl Try.underlying26 rfl _ rfl _ hBd.c1) ?_
  refine ⟨hS, ?_⟩
  try simp only [Act.put, List.setIfInBounds_toArray, List.set_cons_zero, List.set_cons_succ, List.getElem_toArray, List.getElem_cons_zero, List.getElem_cons_succ]
  refine one_keep (i := 4) (by kernel_rfl) ?_
  refine keep_step rfl (by rfl) ?_
  go_simp
  refine Calls.mono (without_any wd (.slice (some ⟨g, 0, none⟩) N cap) L hRd HL.out.1 i HL.out.2) ?_
  rintro e y1 ⟨rv1, rfl, hR1, hb1, _⟩
  have hB1 := hBd.below hb1
  have hS : y1.rangeAt X 0 (rc x) := range_below hS hb1 hXd.2
  have hXs := hb1.size
  refine ⟨hS, ?_⟩
  try simp only [Act.put, List.setIfInBounds_toArray, List.set_cons_zero, List.set_cons_succ, List.getElem_toArray, List.getElem_cons_zero, List.getElem_cons_succ]
  refine one_keep (i := 5) (by kernel_rfl) ?_
  refine keep_step rfl (by rfl) ?_
  go_simp
  refine Calls.mono (first_any y1 rv1 (L.eraseIdx i) x hR1 HE.out) ?_
  rintro e y2 ⟨rv2, rfl, hR2, hb2, hn2⟩
  have hB2 := hB1.below hb2
  have hS : y2.rangeAt X 0 (rc x) := range_below hS hb2 (by omega)
  obtain ⟨a2, c2, rfl, _, _⟩ := hR2.form
  refine ⟨hS, ?_⟩
  try simp only [Act.put, List.setIfInBounds_toArray, List.set_cons_zero, List.set_cons_succ, List.getElem_toArray, List.getElem_cons_zero, List.getElem_cons_succ]
  refine take_s (i := 6) (v := ?_) rfl (by kernel_rfl) (by kernel_rfl) (by kernel_rfl) (fun _ _ _ h => h) (by rfl) ?_ hS ?_
  rotate_left
  · intro w' hLat; clear hLat; go_simp <;> with_reducible rfl
  try simp only [Act.put, List.setIfInBounds_toArray, List.set_cons_zero, List.set_cons_succ, List.getElem_toArray, List.getElem_cons_zero, List.getElem_cons_succ]
  refine one_keep (i := 7) (by kernel_rfl) ?_
  refine keep_step rfl (by rfl) ?_
  refine wp_store_one 26 (.tmp 27) (.tmp 26) rfl (by kernel_rfl) (.slice a2 (x :: L.eraseIdx i).length c2) rfl rfl rfl rfl (by rw [hB2.c1]; rfl) hB2.f1 ?_
  have hB3 := hB2.set0 (.slice a2 (x :: L.eraseIdx i).length c2)
  have hR3 : RRow (y2.setCell ⟨S, 1, none⟩ (.slice a2 (x :: L.eraseIdx i).length c2)) (.slice a2 (x :: L.eraseIdx i).length c2) (x :: L.eraseIdx i) := own_same hR2 (fun k hk => heap_setCell_other y2 ⟨S, 1, none⟩ k _ (fun e => by have h1 := hn2 k hk; have h2 := hb1.size; have e' : k = S := e; omega))
  have hS : (y2.setCell ⟨S, 1, none⟩ (.slice a2 (x :: L.eraseIdx i).length c2)).rangeAt X 0 (rc x) := fun j v hv => but_cell ((But.refl S y2).setCell 1 _) (hS j v hv) (by show X ≠ S; omega)
  have hXs3 : S + 2 ≤ X ∧ X < (y2.setCell ⟨S, 1, none⟩ (.slice a2 (x :: L.eraseIdx i).length c2)).heap.size := ⟨hXd.1, by have h2 := hb2.size; simp; omega⟩
  obtain ⟨N2, hN2⟩ : ∃ N2, (x :: L.eraseIdx i).length = N2 := ⟨_, rfl⟩
  rw [hN2] at hB3 hR3 hS hXs3 ⊢
  have H3 : Box _ := ⟨hB3⟩
  have R3 : Box _ := ⟨hR3⟩
  have X3 : Box _ := ⟨And.intro hS hXs3⟩
  generalize y2.setCell ⟨S, 1, none⟩ (.slice a2 N2 c2) = w3 at H3 R3 X3 hS ⊢
  refine ⟨hS, ?_⟩
  try simp only [Act.put, List.getElem_toArray, List.getElem_cons_zero, List.getElem_cons_succ]
  refine wpAnyH_done (by kernel_rfl) ?_ _
  clear hB1 hB2 hB3 hR1 hR2 hR3 hRd hBd hb1 hb2 hn2 hXd hXs hXs3 hS HB HX HR
  rw [← hV] at H3
  clear hV
  go_upto_region 6 with fail
  refine begin_keep (S := fun y => y.rangeAt S 0 [.int .i64 n, .slice a2 N2 c2] ∧ y.rangeAt X 0 (rc x)) (by kernel_rfl) (fun wd hwd => ?_)
  have hBd : Bz w wd S n (.slice a2 N2 c2) #[.int .i64 0, .slice none 0 0] := by rw [hwd]; exact H3.out.below ((Below.refl _ _).drew)
  have hRd : RRow wd (.slice a2 N2 c2) (x :: L.eraseIdx i) := by rw [hwd]; exact R3.out.below ((Below.refl _ _).drew)
  have hS : wd.rangeAt S 0 [.int .i64 n, .slice a2 N2 c2] ∧ wd.rangeAt X 0 (rc x) := ⟨hBd.range, by rw [hwd]; exact X3.out.1⟩
  clear hwd
  refine take_s (i := 0) (v := .agg #[.int .i64 n, .slice a2 N2 c2]) rfl (by kernel_rfl) (by kernel_rfl) (by kernel_rfl) (fun _ _ _ h => h) (by rfl) (fun w' hLat => exec_load_mid 28 _ _ rfl Try.underlying28 rfl _ _ rfl _ sizeC hLat.1) hS ?_
  try simp only [Act.put, List.setIfInBounds_toArray, List.set_cons_zero, List.set_cons_succ, List.getElem_toArray, List.getElem_cons_zero]
  refine take_s (i := 1) (v := ?_) rfl (by kernel_rfl) (by kernel_rfl) (by kernel_rfl) (fun _ _ _ h => h) (by rfl) ?_ hS ?_
  rotate_left
  · intro w' hLat; clear hLat; go_simp <;> with_reducible rfl
  try simp only [Act.put, List.setIfInBounds_toArray, List.set_cons_zero, List.set_cons_succ, List.getElem_toArray, List.getElem_cons_zero, List.getElem_cons_succ]
  refine take_s (i := 2) (v := .string (strOfNums x.bs)) rfl (by kernel_rfl) (by kernel_rfl) (by kernel_rfl) (fun _ _ _ h => h) (by rfl) (fun w' hLat => exec_load1 9 _ _ rfl Try.underlying9 rfl _ rfl _ (hLat.2 1 _ rfl)) hS ?_
  try simp only [Act.put, List.setIfInBounds_toArray, List.set_cons_zero, List.set_cons_succ, List.getElem_toArray, List.getElem_cons_zero, List.getElem_cons_succ]
  refine one_keep (i := 3) (by kernel_rfl) ?_
  refine keep_step rfl (by rfl) ?_
  refine wp_store_mid 28 (.tmp 4) (.tmp 28) rfl (S + 1) 0 #[.int .i64 n, .slice a2 N2 c2] rfl rfl hBd.there sizeC (by simp [Value.oneCell']) ?_
  have hB4 := hBd.put
  have hR4 := hBd.row hRd
  have hS : (wd.setCells (S + 1) 0 [.int .i64 n, .slice a2 N2 c2]).rangeAt S 0 [.int .i64 n, .slice a2 N2 c2] ∧ (wd.setCells (S + 1) 0 [.int .i64 n, .slice a2 N2 c2]).rangeAt X 0 (rc x) := ⟨hB4.range, but_range (But.setCells (G := S + 1) _ 0 (But.refl (S + 1) wd)) hS.2 (by have := X3.out.2.1; omega)⟩
  refine ⟨hS, ?_⟩
  try simp only [Act.put, List.getElem_toArray, List.getElem_cons_zero, List.getElem_cons_succ]
  refine take_s (i := 4) (v := ?_) rfl (by kernel_rfl) (by kernel_rfl) (by kernel_rfl) (fun _ _ _ h => h) (by rfl) ?_ hS ?_
  rotate_left
  · intro w' hLat; clear hLat; go_simp <;> with_reducible rfl
  try simp only [Act.put, List.setIfInBounds_toArray, List.set_cons_zero, List.set_cons_succ, List.getElem_toArray, List.getElem_cons_zero, List.getElem_cons_succ]
  refine take_s (i := 5) (v := ?_) rfl (by kernel_rfl) (by kernel_rfl) (by kernel_rfl) (fun _ _ _ h => h) (by rfl) ?_ hS ?_
  rotate_left
  · intro w' hLat; clear hLat; go_simp <;> with_reducible rfl
  try simp only [Act.put, List.setIfInBounds_toArray, List.set_cons_zero, List.set_cons_succ, List.getElem_toArray, List.getElem_cons_zero, List.getElem_cons_succ]
  refine wpAnyH_done (by kernel_rfl) ?_ _
  have H4 : Box _ := ⟨hB4⟩
  have R4 : Box _ := ⟨hR4⟩
  clear hB4 hR4 hS hBd hRd
  go_wp2
  refine bodyPost_ret (results_C3 rfl _ _ (S + 1) [.int .i64 n, .slice a2 N2 c2] rfl rfl H4.out.b1) rfl ?_
  rw [HE2.out]
  exact ⟨_, rfl, R4.out, H4.out.bl⟩
end Go.Proofs.Ythjfobcfdpogeaa
