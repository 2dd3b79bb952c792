/-
  What the reference's Hold and Drop of layer 15 answer.
-/
import Derived.Test.YthjfobcfdpogeaaBR
namespace Go.Proofs.Ythjfobcfdpogeaa
set_option linter.unusedVariables false
open Go.RowKit Plain

theorem rcs_set (L : List Kp) (i j : Nat) (hi : i < L.length) (hj : j < 3) (v : Value) (x : Kp) (hx : (rc L[i]).set j v = rc x) : (rcs L).set (i * 3 + j) v = rcs (L.set i x) := by
  have e1 : rcs L = rcs (L.take i) ++ (rc L[i] ++ rcs (L.drop (i + 1))) := by
    rw [← rcs_cons, ← rcs_app, List.getElem_cons_drop, List.take_append_drop]
  have hl : (rcs (L.take i)).length = i * 3 := by rw [length_rcs, List.length_take, Nat.min_eq_left (by omega)]
  rw [e1, List.set_append_right _ _ (by omega), hl, show i * 3 + j - i * 3 = j by omega, List.set_append_left _ _ (by rw [length_rc]; exact hj), hx, ← rcs_cons, ← rcs_app, List.set_eq_take_append_cons_drop, if_pos hi]
/-- One field of a block of a row set anew. -/
theorem RRow.field {w : World} {g cap : Nat} {L : List Kp} (h : RRow w (.slice (some ⟨g, 0, none⟩) L.length cap) L) (i j : Nat) (hi : i < L.length) (hj : j < 3) (v : Value) (x : Kp) (hx : (rc L[i]).set j v = rc x) :
    RRow (w.setCell ⟨g, i * 3 + j, none⟩ v) (.slice (some ⟨g, 0, none⟩) L.length cap) (L.set i x) ∧ (w.cell? ⟨g, i * 3 + j, none⟩).isSome = true ∧ w.frozen? ⟨g, i * 3 + j, none⟩ = false := by
  rcases h.2 with ⟨h1, h2⟩ | ⟨g', cap', cur, h1, hb, hg, hc, hm, hs, htk⟩
  · omega
  · simp only [Value.slice.injEq, Option.some.injEq, Addr.mk.injEq, and_true, true_and] at h1
    obtain ⟨rfl, rfl⟩ := h1
    have hr := heap_setCell_same w g (i * 3 + j) cur _ v hg
    have hf2 : i * 3 + j < cur.size := by have := Nat.mul_le_mul_right 3 hc; omega
    refine ⟨⟨length_rcs _, .inr ⟨g, cap, _, by rw [List.length_set], Nat.zero_le _, hr, by rw [List.length_set]; exact hc, hm, by simpa using hs, ?_⟩⟩, ?_, frozen_of_row w g _ _ _ hg⟩
    · rw [List.length_set, Array.toList_setIfInBounds, ← rcs_set L i j hi hj v x hx, ← htk, List.take_set]
    · rw [cell_of_row _ _ _ _ _ _ hg]
      simp [hf2]
set_option maxRecDepth 20000 in
set_option maxHeartbeats 2000000 in
theorem rhold_no (w : World) (n : Int) (rv : Value) (L : List Kp) (h : RRow w rv L) (hl : L.length < 900000) (b : Int) (by_ : Int) (hn : No L b) :
    Calls Try.prog 16 #[.agg #[.int .i64 n, rv], .int .u64 b, .int .i64 by_] w fun e w' => e = .returned (.tuple #[.agg #[.int .i64 n, rv], .bool false]) ∧ Below w.heap.size w w' := by
  obtain ⟨a, cap, rfl, hc, hm⟩ := h.form
  obtain ⟨S, hS⟩ : ∃ S, w.heap.size = S := ⟨_, rfl⟩
  obtain ⟨N, hN⟩ : ∃ N, L.length = N := ⟨_, rfl⟩
  have HB0 : Box _ := ⟨bz_new w n (.slice a L.length cap)⟩
  have HR0 : Box (∀ y, Below w.heap.size w y → RRow y (.slice a L.length cap) L) := ⟨fun y hy => h.below hy⟩
  rw [hN] at HB0 HR0 hc ⊢
  have hcm : cap ≤ 9223372036854775807 := hm
  have HF : Box (∀ y, Below w.heap.size w y → Calls Try.prog 26 #[.slice a N cap, .int .u64 b] y fun e w' => e = .returned (.int .i64 (-1)) ∧ y = w') := ⟨fun y hy => rfind_no y _ L (HR0.out y hy) (by omega) b hn⟩
  clear h hN hm hn
  go_enter Try.func16, Try.ntmps16
  go_upto_region 1 with (refine atAlloc _ ?_; refine wpList_run rfl _ _ (exec_alloc 28 rfl _ zeroC) ?_)
  (try simp only [hS] at HB0)
  (try simp only [hS])
  generalize (w.alloc (.cells #[.int .i64 n, .slice a N cap] 28)).alloc (.cells #[.int .i64 0, .slice none 0 0] 28) = w1 at HB0 ⊢
  have k1 := HB0.out.c1
  have HF1 : Box _ := ⟨HF.out w1 HB0.out.bl⟩
  clear HF
  go_upto_region 3 with (go_at_call 26; refine HF1.out.mono ?_; rintro e w2 ⟨rfl, rfl⟩)
  go_wp2_with (first
    | (refine atLoad _ ?_; refine wpList_load_mid rfl 28 _ rfl S 0 rfl [.int .i64 n, .slice a N cap] _ HB0.out.range Try.underlying28 rfl sizeC ?_)
    | (refine atStore _ ?_; refine wpList_store_mid rfl 28 _ _ rfl (S + 1) 0 #[.int .i64 n, .slice a N cap] rfl rfl HB0.out.there sizeC (by simp [Value.oneCell']) ?_))
  have hB := HB0.out.put
  refine bodyPost_ret (results_C2 rfl _ _ (S + 1) [.int .i64 n, .slice a N cap] rfl rfl hB.b1) rfl ?_
  exact ⟨rfl, hB.bl⟩
set_option maxRecDepth 20000 in
set_option maxHeartbeats 2000000 in
theorem rhold_neg (w : World) (n : Int) (rv : Value) (L : List Kp) (h : RRow w rv L) (hl : L.length < 900000) (b : Int) (i : Nat) (hi : i < L.length) (hf : Fs L b i) (hh : L[i].h = 0) :
    Calls Try.prog 16 #[.agg #[.int .i64 n, rv], .int .u64 b, .int .i64 (-1)] w fun e w' => e = .returned (.tuple #[.agg #[.int .i64 n, rv], .bool false]) ∧ Below w.heap.size w w' := by
  obtain ⟨a, cap, rfl, hc, hm⟩ := h.form
  obtain ⟨S, hS⟩ : ∃ S, w.heap.size = S := ⟨_, rfl⟩
  obtain ⟨N, hN⟩ : ∃ N, L.length = N := ⟨_, rfl⟩
  have HB0 : Box _ := ⟨bz_new w n (.slice a L.length cap)⟩
  have HR0 : Box (∀ y, Below w.heap.size w y → RRow y (.slice a L.length cap) L) := ⟨fun y hy => h.below hy⟩
  rw [hN] at HB0 HR0 hc ⊢
  have hcm : cap ≤ 9223372036854775807 := hm
  have HF : Box (∀ y, Below w.heap.size w y → Calls Try.prog 26 #[.slice a N cap, .int .u64 b] y fun e w' => e = .returned (.int .i64 (i : Int)) ∧ y = w') := ⟨fun y hy => rfind_ok y _ L (HR0.out y hy) (by omega) b i hf⟩
  obtain ⟨g, rfl, hgr⟩ : ∃ g, a = some ⟨g, 0, none⟩ ∧ ∀ y, Below w.heap.size w y → y.rangeAt g (i * 3) (rc L[i]) := by
    obtain ⟨g, e, _, hr⟩ := h.ways (by omega)
    refine ⟨g, e, fun y hy => ?_⟩
    obtain ⟨g', e', _, hr'⟩ := (h.below hy).ways (by omega)
    rw [e] at e'
    simp only [Option.some.injEq, Addr.mk.injEq, and_true] at e'
    subst e'
    exact hr' i hi
  have HG : Box (∀ y, Below w.heap.size w y → y.cell? ⟨g, i * 3 + 2, none⟩ = some (.int .i64 L[i].h)) := ⟨fun y hy => hgr y hy 2 _ rfl⟩
  have hiN : i < N := by omega
  have hneg : decide ((i : Int) < 0) = false := by simp
  have hz : decide (L[i].h + -1 < 0) = true := by rw [hh]; decide
  have hw : IntKind.i64.wrap (L[i].h + -1) = L[i].h + -1 := by rw [hh]; decide
  obtain ⟨z, hzz⟩ : ∃ z, L[i].h = z := ⟨_, rfl⟩
  rw [hzz] at hz hw HG
  clear hh hzz
  clear h hN hm hf hgr
  go_enter Try.func16, Try.ntmps16
  go_upto_region 1 with (refine atAlloc _ ?_; refine wpList_run rfl _ _ (exec_alloc 28 rfl _ zeroC) ?_)
  (try simp only [hS] at HB0)
  (try simp only [hS])
  generalize (w.alloc (.cells #[.int .i64 n, .slice (some ⟨g, 0, none⟩) N cap] 28)).alloc (.cells #[.int .i64 0, .slice none 0 0] 28) = w1 at HB0 ⊢
  have k1 := HB0.out.c1
  have HF1 : Box _ := ⟨HF.out w1 HB0.out.bl⟩
  have d2 := HG.out w1 HB0.out.bl
  clear HF HG
  go_wp2_with (first
    | (go_at_call 26; refine HF1.out.mono ?_; rintro e w2 ⟨rfl, rfl⟩)
    | (refine atLoad _ ?_; refine wpList_load_mid rfl 28 _ rfl S 0 rfl [.int .i64 n, .slice (some ⟨g, 0, none⟩) N cap] _ HB0.out.range Try.underlying28 rfl sizeC ?_)
    | (refine atStore _ ?_; refine wpList_store_mid rfl 28 _ _ rfl (S + 1) 0 #[.int .i64 n, .slice (some ⟨g, 0, none⟩) N cap] rfl rfl HB0.out.there sizeC (by simp [Value.oneCell']) ?_))
  have hB := HB0.out.put
  refine bodyPost_ret (results_C2 rfl _ _ (S + 1) [.int .i64 n, .slice (some ⟨g, 0, none⟩) N cap] rfl rfl hB.b1) rfl ?_
  exact ⟨rfl, hB.bl⟩
set_option maxRecDepth 20000 in
set_option maxHeartbeats 2000000 in
theorem rhold_ok (w : World) (n : Int) (rv : Value) (L : List Kp) (h : RRow w rv L) (hl : L.length < 900000) (b : Int) (i : Nat) (hi : i < L.length) (hf : Fs L b i) (by_ : Int) (hby : -1 ≤ by_ ∧ by_ ≤ 1) (hh : 0 ≤ L[i].h + by_ ∧ L[i].h < 1000000) :
    Calls Try.prog 16 #[.agg #[.int .i64 n, rv], .int .u64 b, .int .i64 by_] w fun e w' => ∃ rv', e = .returned (.tuple #[.agg #[.int .i64 n, rv'], .bool true]) ∧ Rq w w' rv' (L.set i { L[i] with h := L[i].h + by_ }) := by
  obtain ⟨a, cap, rfl, hc, hm⟩ := h.form
  obtain ⟨S, hS⟩ : ∃ S, w.heap.size = S := ⟨_, rfl⟩
  obtain ⟨N, hN⟩ : ∃ N, L.length = N := ⟨_, rfl⟩
  have HB0 : Box _ := ⟨bz_new w n (.slice a L.length cap)⟩
  have HR0 : Box (∀ y, Below w.heap.size w y → RRow y (.slice a L.length cap) L) := ⟨fun y hy => h.below hy⟩
  rw [hN] at HB0 HR0 hc ⊢
  have hcm : cap ≤ 9223372036854775807 := hm
  have HF : Box (∀ y, Below w.heap.size w y → Calls Try.prog 26 #[.slice a N cap, .int .u64 b] y fun e w' => e = .returned (.int .i64 (i : Int)) ∧ y = w') := ⟨fun y hy => rfind_ok y _ L (HR0.out y hy) (by omega) b i hf⟩
  obtain ⟨g, rfl, hgr⟩ : ∃ g, a = some ⟨g, 0, none⟩ ∧ ∀ y, Below w.heap.size w y → y.rangeAt g (i * 3) (rc L[i]) := by
    obtain ⟨g, e, _, hr⟩ := h.ways (by omega)
    refine ⟨g, e, fun y hy => ?_⟩
    obtain ⟨g', e', _, hr'⟩ := (h.below hy).ways (by omega)
    rw [e] at e'
    simp only [Option.some.injEq, Addr.mk.injEq, and_true] at e'
    subst e'
    exact hr' i hi
  have HG : Box (∀ y, Below w.heap.size w y → y.cell? ⟨g, i * 3 + 2, none⟩ = some (.int .i64 L[i].h)) := ⟨fun y hy => hgr y hy 2 _ rfl⟩
  have hiN : i < N := by omega
  have hneg : decide ((i : Int) < 0) = false := by simp
  have hz : decide (L[i].h + by_ < 0) = false := by simp; omega
  have hw : IntKind.i64.wrap (L[i].h + by_) = L[i].h + by_ := by rw [IntKind.wrap_i64]; omega
  have HQ : Box (0 < L.length → ∀ y, Below w.heap.size w y → ∃ g' o, (some ⟨g, 0, none⟩ : Option Addr) = some ⟨g', o, none⟩ ∧ y.rangeAt g' o (rcs L)) := ⟨fun h0 y hy => by
    obtain ⟨g2, cap', e, _, _, hgl, hr⟩ := h.blk h0
    simp only [Value.slice.injEq, Option.some.injEq, true_and] at e
    refine ⟨g2, 0, by rw [e.1], range_below ?_ hy hgl⟩
    have := hr [] L [] (by simp)
    simpa using this⟩
  have HN : Box (L.length = N ∧ i < L.length) := ⟨hN, hi⟩
  have HP : Box (∀ (y : World) (v1 : Value) (V : Array Value), y.ownsRow w.heap.size 49 3 v1 (0 + N) (rcs ([] ++ L)) → Bz w y S n (.slice (some ⟨g, 0, none⟩) N cap) V → ∃ g2 cap2, v1 = .slice (some ⟨g2, 0, none⟩) N cap2 ∧ y.cell? ⟨g2, i * 3 + 2, none⟩ = some (.int .i64 L[i].h) ∧ y.frozen? ⟨g2, i * 3 + 2, none⟩ = false ∧ RRow (y.setCell ⟨g2, i * 3 + 2, none⟩ (.int .i64 (L[i].h + by_))) (.slice (some ⟨g2, 0, none⟩) N cap2) (L.set i { L[i] with h := L[i].h + by_ }) ∧ Bz w (y.setCell ⟨g2, i * 3 + 2, none⟩ (.int .i64 (L[i].h + by_))) S n (.slice (some ⟨g, 0, none⟩) N cap) V ∧ g2 ≠ S) := ⟨fun y v1 V ho hB => by
    rw [Nat.zero_add, List.nil_append, ← hN] at ho
    have hr1 : RRow y v1 L := own_low2 ho (Nat.zero_le _)
    obtain ⟨g2, cap2, rfl, _, _, _, hrr⟩ := hr1.blk (by omega)
    have hbase := own_base ho (k := g2) rfl
    obtain ⟨q1, q2, q3⟩ := hr1.field i 2 hi (by omega) (.int .i64 (L[i].h + by_)) { L[i] with h := L[i].h + by_ } rfl
    obtain ⟨cs, hcs⟩ := own_type hr1 (k := g2) rfl
    have hc2 : y.cell? ⟨g2, i * 3 + 2, none⟩ = some (.int .i64 L[i].h) := by
      obtain ⟨g3, e3, _, hr3⟩ := hr1.ways (by omega)
      simp only [Option.some.injEq, Addr.mk.injEq, and_true] at e3
      subst e3
      exact hr3 i hi 2 _ rfl
    have hne0 : S ≠ g2 := fun e => by rw [← e, hB.b0] at hcs; simp at hcs
    have hne1 : S + 1 ≠ g2 := fun e => by rw [← e, hB.b1] at hcs; simp at hcs
    rw [← hN]
    refine ⟨g2, cap2, rfl, hc2, q3, q1, ⟨?_, ?_, below_set hB.bl hbase _, hB.sz⟩, Ne.symm hne0⟩
    · rw [heap_setCell_other y ⟨g2, i * 3 + 2, none⟩ S _ hne0, hN]; exact hB.b0
    · rw [heap_setCell_other y ⟨g2, i * 3 + 2, none⟩ (S + 1) _ hne1]; exact hB.b1⟩
  obtain ⟨z, hzz⟩ : ∃ z, L[i].h = z := ⟨_, rfl⟩
  rw [hzz] at hz hw HG HP ⊢
  obtain ⟨M, hM⟩ : ∃ M, L.set i { L[i] with h := z + by_ } = M := ⟨_, rfl⟩
  rw [hM] at HP ⊢
  clear h hN hm hf hgr hh hzz hM
  go_enter Try.func16, Try.ntmps16
  go_upto_region 1 with (refine atAlloc _ ?_; refine wpList_run rfl _ _ (exec_alloc 28 rfl _ zeroC) ?_)
  (try simp only [hS] at HB0)
  (try simp only [hS])
  generalize (w.alloc (.cells #[.int .i64 n, .slice (some ⟨g, 0, none⟩) N cap] 28)).alloc (.cells #[.int .i64 0, .slice none 0 0] 28) = w1 at HB0 ⊢
  have k1 := HB0.out.c1
  have HF1 : Box _ := ⟨HF.out w1 HB0.out.bl⟩
  have d2 := HG.out w1 HB0.out.bl
  have HQ1 := HQ.out (by have := HN.out; omega) w1 HB0.out.bl
  have HQ2 : Box _ := ⟨HQ1⟩
  clear HF HG HQ HQ1
  have hsz1 : w.heap.size ≤ w1.heap.size := HB0.out.bl.size
  go_upto_region 6 with (first
    | (go_at_call 26; refine HF1.out.mono ?_; rintro e w2 ⟨rfl, rfl⟩)
    | (at_builtin; refine wpList_appB rfl _ _ rfl w1.heap.size 0 N cap (.slice none 0 0) [] L (some ⟨g, 0, none⟩) w1 rfl rfl (World.ownsRow_nil _ _ _ _) HN.out.1 (fun _ => HQ2.out) (by have := HN.out.1; omega) (Below.refl _ _) (Nat.le_refl _) ?_; intro v1 w3 H1))
  have hB3 := HB0.out.below H1.out.2.1
  obtain ⟨g2, cap2, rfl, d3, f3, hR4, hB4, hne⟩ := HP.out w3 v1 _ (own_low2 H1.out.1 hsz1) hB3
  have HB4 : Box _ := ⟨hB4⟩
  have HR4 : Box _ := ⟨hR4⟩
  clear H1 HP hB3 hB4 hR4 HF1 HQ2 hsz1 k1 d2
  go_upto_region 7 with fail
  generalize w3.setCell ⟨g2, i * 3 + 2, none⟩ (.int .i64 (z + by_)) = w4 at HB4 HR4 ⊢
  clear d3 f3
  have k4 := HB4.out.c1
  have f4 := HB4.out.f1
  have HB5 : Box _ := ⟨HB4.out.set0 (.slice (some ⟨g2, 0, none⟩) N cap2)⟩
  have HR5 : Box (RRow (w4.setCell ⟨S, 1, none⟩ (.slice (some ⟨g2, 0, none⟩) N cap2)) (.slice (some ⟨g2, 0, none⟩) N cap2) M) := ⟨own_same HR4.out (fun k hk => heap_setCell_other w4 ⟨S, 1, none⟩ k _ (fun e => by simp only [Value.ownBlock, Option.some.injEq] at hk; exact hne (hk.trans e)))⟩
  go_upto_region 8 with fail
  generalize w4.setCell ⟨S, 1, none⟩ (.slice (some ⟨g2, 0, none⟩) N cap2) = w5 at HB5 HR5 ⊢
  clear k4 f4 HB4 HR4
  go_wp2_with (first
    | (refine atLoad _ ?_; refine wpList_load_mid rfl 28 _ rfl S 0 rfl [.int .i64 n, .slice (some ⟨g2, 0, none⟩) N cap2] _ HB5.out.range Try.underlying28 rfl sizeC ?_)
    | (refine atStore _ ?_; refine wpList_store_mid rfl 28 _ _ rfl (S + 1) 0 #[.int .i64 n, .slice (some ⟨g2, 0, none⟩) N cap2] rfl rfl HB5.out.there sizeC (by simp [Value.oneCell']) ?_))
  have hB6 := HB5.out.put
  refine bodyPost_ret (results_C2 rfl _ _ (S + 1) [.int .i64 n, .slice (some ⟨g2, 0, none⟩) N cap2] rfl rfl hB6.b1) rfl ?_
  exact ⟨_, rfl, HB5.out.row HR5.out, hB6.bl⟩
set_option maxRecDepth 20000 in
set_option maxHeartbeats 2000000 in
theorem rdrop_no (w : World) (n : Int) (rv : Value) (L : List Kp) (h : RRow w rv L) (hl : L.length < 900000) (b : Int) (hn : No L b) :
    Calls Try.prog 19 #[.agg #[.int .i64 n, rv], .int .u64 b] w fun e w' => e = .returned (.tuple #[.agg #[.int .i64 n, rv], .bool false]) ∧ Below w.heap.size w w' := by
  obtain ⟨a, cap, rfl, hc, hm⟩ := h.form
  obtain ⟨S, hS⟩ : ∃ S, w.heap.size = S := ⟨_, rfl⟩
  obtain ⟨N, hN⟩ : ∃ N, L.length = N := ⟨_, rfl⟩
  have HB0 : Box _ := ⟨bz_new w n (.slice a L.length cap)⟩
  have HR0 : Box (∀ y, Below w.heap.size w y → RRow y (.slice a L.length cap) L) := ⟨fun y hy => h.below hy⟩
  rw [hN] at HB0 HR0 hc ⊢
  have hcm : cap ≤ 9223372036854775807 := hm
  have HF : Box (∀ y, Below w.heap.size w y → Calls Try.prog 26 #[.slice a N cap, .int .u64 b] y fun e w' => e = .returned (.int .i64 (-1)) ∧ y = w') := ⟨fun y hy => rfind_no y _ L (HR0.out y hy) (by omega) b hn⟩
  clear h hN hm hn
  go_enter Try.func19, Try.ntmps19
  go_upto_region 1 with (refine atAlloc _ ?_; refine wpList_run rfl _ _ (exec_alloc 28 rfl _ zeroC) ?_)
  (try simp only [hS] at HB0)
  (try simp only [hS])
  generalize (w.alloc (.cells #[.int .i64 n, .slice a N cap] 28)).alloc (.cells #[.int .i64 0, .slice none 0 0] 28) = w1 at HB0 ⊢
  have k1 := HB0.out.c1
  have HF1 : Box _ := ⟨HF.out w1 HB0.out.bl⟩
  clear HF
  go_wp2_with (first
    | (go_at_call 26; refine HF1.out.mono ?_; rintro e w2 ⟨rfl, rfl⟩)
    | (refine atLoad _ ?_; refine wpList_load_mid rfl 28 _ rfl S 0 rfl [.int .i64 n, .slice a N cap] _ HB0.out.range Try.underlying28 rfl sizeC ?_)
    | (refine atStore _ ?_; refine wpList_store_mid rfl 28 _ _ rfl (S + 1) 0 #[.int .i64 n, .slice a N cap] rfl rfl HB0.out.there sizeC (by simp [Value.oneCell']) ?_))
  have hB := HB0.out.put
  refine bodyPost_ret (results_C2 rfl _ _ (S + 1) [.int .i64 n, .slice a N cap] rfl rfl hB.b1) rfl ?_
  exact ⟨rfl, hB.bl⟩
set_option maxRecDepth 20000 in
set_option maxHeartbeats 2000000 in
theorem rdrop_held (w : World) (n : Int) (rv : Value) (L : List Kp) (h : RRow w rv L) (hl : L.length < 900000) (b : Int) (i : Nat) (hi : i < L.length) (hf : Fs L b i) (hh : 0 < L[i].h) :
    Calls Try.prog 19 #[.agg #[.int .i64 n, rv], .int .u64 b] w fun e w' => e = .returned (.tuple #[.agg #[.int .i64 n, rv], .bool false]) ∧ Below w.heap.size w w' := by
  obtain ⟨a, cap, rfl, hc, hm⟩ := h.form
  obtain ⟨S, hS⟩ : ∃ S, w.heap.size = S := ⟨_, rfl⟩
  obtain ⟨N, hN⟩ : ∃ N, L.length = N := ⟨_, rfl⟩
  have HB0 : Box _ := ⟨bz_new w n (.slice a L.length cap)⟩
  have HR0 : Box (∀ y, Below w.heap.size w y → RRow y (.slice a L.length cap) L) := ⟨fun y hy => h.below hy⟩
  rw [hN] at HB0 HR0 hc ⊢
  have hcm : cap ≤ 9223372036854775807 := hm
  have HF : Box (∀ y, Below w.heap.size w y → Calls Try.prog 26 #[.slice a N cap, .int .u64 b] y fun e w' => e = .returned (.int .i64 (i : Int)) ∧ y = w') := ⟨fun y hy => rfind_ok y _ L (HR0.out y hy) (by omega) b i hf⟩
  obtain ⟨g, rfl, hgr⟩ : ∃ g, a = some ⟨g, 0, none⟩ ∧ ∀ y, Below w.heap.size w y → y.rangeAt g (i * 3) (rc L[i]) := by
    obtain ⟨g, e, _, hr⟩ := h.ways (by omega)
    refine ⟨g, e, fun y hy => ?_⟩
    obtain ⟨g', e', _, hr'⟩ := (h.below hy).ways (by omega)
    rw [e] at e'
    simp only [Option.some.injEq, Addr.mk.injEq, and_true] at e'
    subst e'
    exact hr' i hi
  have HG : Box (∀ y, Below w.heap.size w y → y.cell? ⟨g, i * 3 + 2, none⟩ = some (.int .i64 L[i].h)) := ⟨fun y hy => hgr y hy 2 _ rfl⟩
  have hiN : i < N := by omega
  have hneg : decide ((i : Int) < 0) = false := by simp
  have hz : decide (0 < L[i].h) = true := by simpa using hh
  obtain ⟨z, hzz⟩ : ∃ z, L[i].h = z := ⟨_, rfl⟩
  rw [hzz] at hz HG
  clear hh hzz
  clear h hN hm hf hgr
  go_enter Try.func19, Try.ntmps19
  go_upto_region 1 with (refine atAlloc _ ?_; refine wpList_run rfl _ _ (exec_alloc 28 rfl _ zeroC) ?_)
  (try simp only [hS] at HB0)
  (try simp only [hS])
  generalize (w.alloc (.cells #[.int .i64 n, .slice (some ⟨g, 0, none⟩) N cap] 28)).alloc (.cells #[.int .i64 0, .slice none 0 0] 28) = w1 at HB0 ⊢
  have k1 := HB0.out.c1
  have HF1 : Box _ := ⟨HF.out w1 HB0.out.bl⟩
  have d2 := HG.out w1 HB0.out.bl
  clear HF HG
  go_wp2_with (first
    | (go_at_call 26; refine HF1.out.mono ?_; rintro e w2 ⟨rfl, rfl⟩)
    | (refine atLoad _ ?_; refine wpList_load_mid rfl 28 _ rfl S 0 rfl [.int .i64 n, .slice (some ⟨g, 0, none⟩) N cap] _ HB0.out.range Try.underlying28 rfl sizeC ?_)
    | (refine atStore _ ?_; refine wpList_store_mid rfl 28 _ _ rfl (S + 1) 0 #[.int .i64 n, .slice (some ⟨g, 0, none⟩) N cap] rfl rfl HB0.out.there sizeC (by simp [Value.oneCell']) ?_))
  have hB := HB0.out.put
  refine bodyPost_ret (results_C2 rfl _ _ (S + 1) [.int .i64 n, .slice (some ⟨g, 0, none⟩) N cap] rfl rfl hB.b1) rfl ?_
  exact ⟨rfl, hB.bl⟩
set_option maxRecDepth 20000 in
set_option maxHeartbeats 2000000 in
theorem rdrop_ok (w : World) (n : Int) (rv : Value) (L : List Kp) (h : RRow w rv L) (hl : L.length < 900000) (b : Int) (i : Nat) (hi : i < L.length) (hf : Fs L b i) (hh : L[i].h = 0) :
    Calls Try.prog 19 #[.agg #[.int .i64 n, rv], .int .u64 b] w fun e w' => ∃ rv', e = .returned (.tuple #[.agg #[.int .i64 n, rv'], .bool true]) ∧ Rq w w' rv' (L.eraseIdx i) := by
  obtain ⟨a, cap, rfl, hc, hm⟩ := h.form
  obtain ⟨S, hS⟩ : ∃ S, w.heap.size = S := ⟨_, rfl⟩
  obtain ⟨N, hN⟩ : ∃ N, L.length = N := ⟨_, rfl⟩
  have HB0 : Box _ := ⟨bz_new w n (.slice a L.length cap)⟩
  have HR0 : Box (∀ y, Below w.heap.size w y → RRow y (.slice a L.length cap) L) := ⟨fun y hy => h.below hy⟩
  rw [hN] at HB0 HR0 hc ⊢
  have hcm : cap ≤ 9223372036854775807 := hm
  have HF : Box (∀ y, Below w.heap.size w y → Calls Try.prog 26 #[.slice a N cap, .int .u64 b] y fun e w' => e = .returned (.int .i64 (i : Int)) ∧ y = w') := ⟨fun y hy => rfind_ok y _ L (HR0.out y hy) (by omega) b i hf⟩
  obtain ⟨g, rfl, hgr⟩ : ∃ g, a = some ⟨g, 0, none⟩ ∧ ∀ y, Below w.heap.size w y → y.rangeAt g (i * 3) (rc L[i]) := by
    obtain ⟨g, e, _, hr⟩ := h.ways (by omega)
    refine ⟨g, e, fun y hy => ?_⟩
    obtain ⟨g', e', _, hr'⟩ := (h.below hy).ways (by omega)
    rw [e] at e'
    simp only [Option.some.injEq, Addr.mk.injEq, and_true] at e'
    subst e'
    exact hr' i hi
  have HG : Box (∀ y, Below w.heap.size w y → y.cell? ⟨g, i * 3 + 2, none⟩ = some (.int .i64 L[i].h)) := ⟨fun y hy => hgr y hy 2 _ rfl⟩
  have hiN : i < N := by omega
  have hneg : decide ((i : Int) < 0) = false := by simp
  have HW : Box (∀ y, Below w.heap.size w y → Calls Try.prog 28 #[.slice (some ⟨g, 0, none⟩) N cap, .int .i64 (i : Int)] y fun e w' => ∃ rv', e = .returned rv' ∧ RRow w' rv' (L.eraseIdx i) ∧ Below y.heap.size y w' ∧ ∀ k, rv'.ownBlock = some k → y.heap.size ≤ k) := ⟨fun y hy => without_any y _ L (HR0.out y hy) (by omega) i hi⟩
  have hz : decide (0 < L[i].h) = false := by rw [hh]; rfl
  obtain ⟨z, hzz⟩ : ∃ z, L[i].h = z := ⟨_, rfl⟩
  rw [hzz] at hz HG
  obtain ⟨M, hM⟩ : ∃ M, L.eraseIdx i = M := ⟨_, rfl⟩
  rw [hM] at HW ⊢
  clear h hN hm hf hgr hh hzz hM
  go_enter Try.func19, Try.ntmps19
  go_upto_region 1 with (refine atAlloc _ ?_; refine wpList_run rfl _ _ (exec_alloc 28 rfl _ zeroC) ?_)
  (try simp only [hS] at HB0)
  (try simp only [hS])
  generalize (w.alloc (.cells #[.int .i64 n, .slice (some ⟨g, 0, none⟩) N cap] 28)).alloc (.cells #[.int .i64 0, .slice none 0 0] 28) = w1 at HB0 ⊢
  have k1 := HB0.out.c1
  have HF1 : Box _ := ⟨HF.out w1 HB0.out.bl⟩
  have HW1 : Box _ := ⟨HW.out w1 HB0.out.bl⟩
  have d2 := HG.out w1 HB0.out.bl
  clear HF HG HW
  go_upto_region 5 with (first
    | (go_at_call 26; refine HF1.out.mono ?_; rintro e w2 ⟨rfl, rfl⟩)
    | (go_at_call 28; refine HW1.out.mono ?_; rintro e w3 ⟨rv3, rfl, hr3, hb3, hn3⟩; obtain ⟨a3, c3, rfl, _, _⟩ := hr3.form; have hB3 := HB0.out.below hb3; have k3 := hB3.c1; have f3 := hB3.f1; have HB5 : Box _ := ⟨hB3.set0 (.slice a3 M.length c3)⟩; have HR5 : Box (RRow (w3.setCell ⟨S, 1, none⟩ (.slice a3 M.length c3)) (.slice a3 M.length c3) M) := ⟨own_same hr3 (fun k hk => heap_setCell_other w3 ⟨S, 1, none⟩ k _ (fun e => by have h1 := hn3 k hk; have h2 := HB0.out.lt; have e' : k = S := e; omega))⟩; clear hr3 hb3 hn3 hB3))
  clear k3 f3 k1 d2 HF1 HW1 HB0 HR0
  obtain ⟨N3, hN3⟩ : ∃ N3, M.length = N3 := ⟨_, rfl⟩
  rw [hN3] at HB5 HR5 ⊢
  generalize w3.setCell ⟨S, 1, none⟩ (.slice a3 N3 c3) = w5 at HB5 HR5 ⊢
  go_wp2_with (first
    | (refine atLoad _ ?_; refine wpList_load_mid rfl 28 _ rfl S 0 rfl [.int .i64 n, .slice a3 N3 c3] _ HB5.out.range Try.underlying28 rfl sizeC ?_)
    | (refine atStore _ ?_; refine wpList_store_mid rfl 28 _ _ rfl (S + 1) 0 #[.int .i64 n, .slice a3 N3 c3] rfl rfl HB5.out.there sizeC (by simp [Value.oneCell']) ?_))
  have hB6 := HB5.out.put
  refine bodyPost_ret (results_C2 rfl _ _ (S + 1) [.int .i64 n, .slice a3 N3 c3] rfl rfl hB6.b1) rfl ?_
  exact ⟨_, rfl, HB5.out.row HR5.out, hB6.bl⟩
end Go.Proofs.Ythjfobcfdpogeaa
