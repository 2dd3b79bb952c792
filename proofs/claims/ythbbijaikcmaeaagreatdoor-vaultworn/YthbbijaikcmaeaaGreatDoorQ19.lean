/-
  What the Go function Get of package tree answers, for any bytes. And what follows it.
-/
import Derived.Test.YthbbijaikcmaeaaGreatDoorQ18
namespace Go.Proofs.YthbbijaikcmaeaaGreatDoor
set_option maxRecDepth 100000
set_option linter.unusedVariables false
set_option maxRecDepth 100000
open Go.RowKit Plain
theorem slice_mid (a : Option Addr) (len cap lo hi : Nat) (h1 : lo ≤ hi) (hn : hi ≤ len) (hc : len ≤ cap) : ∃ a', (∀ x, (Instr.sliceAt 38 (.slice a len cap) (some (.int .i64 (lo : Int))) (some (.int .i64 (hi : Int))) none).run Tryz.prog x = .ok (.slice a' (hi - lo) (cap - lo)) x) ∧ ∀ x B, Bytes x a len B → Bytes x a' (hi - lo) ((B.take hi).drop lo) := by
  refine ⟨if cap = lo then a else a.map (·.add (lo * 1)), fun x => ?_, fun x B hB => ?_⟩
  · have hu : Tryz.prog.underlying 38 = some (.slice (Tryz.prog.elem 38)) := by kernel_rfl
    rw [run_sliceAt_slice (P := Tryz.prog) x 38 _ _ _ _ hu, run_slice_lh (P := Tryz.prog) x 38 a len cap hu .i64 .i64 (lo : Int) (hi : Int) (by omega) (by omega) (by omega)]
    have hs : (sizeOf (Tryz.prog.elem 38)).run Tryz.prog x = .ok 1 x := by kernel_rfl
    rw [hs, Result.andThen_ok, sliced]
    simp
  · refine ⟨by rw [List.length_drop, List.length_take, hB.1]; omega, byt_drop _ lo (byt_take B hi hB.2.1), fun hp => ?_⟩
    obtain ⟨b, off, rfl, hlt, hcl⟩ := hB.2.2 (by omega)
    rw [if_neg (by omega)]
    refine ⟨b, off + lo, by simp [Addr.add_mid], hlt, fun i hi' => ?_⟩
    rw [Nat.add_assoc, hcl (lo + i) (by omega)]
    simp [List.getD, List.getElem?_drop, show lo + i < hi by omega]
theorem nc_set {N : List Rf} (k : Nat) (hk : k < N.length) (r : Rf) : nc (N.set k r) = nc (N.take k) ++ (rc r ++ nc (N.drop (k + 1))) := by
  have hk' : k < (N.set k r).length := by simpa using hk
  rw [nc_split k hk', List.take_set_of_le (Nat.le_refl _), List.drop_set_of_lt (by omega), List.getElem_set_self]
theorem nc_put_sum {N : List Rf} (h : OkN N) (k : Nat) (hk : k < N.length) (D : List Int) (hD : D.length = 32) : splice (nc N) (k * 33) (D.map (Value.int .u8)) = nc (N.set k ⟨D, N[k].s⟩) := by
  have hl := len_nc (okN_take h k)
  have hd := (h.get k hk).ld
  rw [List.length_take, Nat.min_eq_left (Nat.le_of_lt hk)] at hl
  rw [nc_set k hk, nc_split k hk]
  simp only [splice, List.length_map, hD, rc]
  rw [List.take_append_of_le_length (by omega), List.take_of_length_le (by omega), List.drop_append, List.drop_of_length_le (by omega), List.nil_append, show k * 33 + 32 - (nc (N.take k)).length = 32 by omega, List.append_assoc (N[k].d.map (Value.int .u8)), List.drop_append, List.drop_of_length_le (by simp [hd]), List.nil_append, List.length_map, hd]
  simp
theorem nc_put_stamp {N : List Rf} (h : OkN N) (k : Nat) (hk : k < N.length) (x : Int) : (nc N).set (k * 33 + 32) (.int .u64 x) = nc (N.set k ⟨N[k].d, x⟩) := by
  have hl := len_nc (okN_take h k)
  have hd := (h.get k hk).ld
  rw [List.length_take, Nat.min_eq_left (Nat.le_of_lt hk)] at hl
  rw [nc_set k hk, nc_split k hk]
  simp only [rc]
  rw [List.set_append_right _ _ (by omega), show k * 33 + 32 - (nc (N.take k)).length = 32 by omega, List.append_assoc, List.set_append_right _ _ (by simp [hd]), List.length_map, hd, List.append_assoc]
  rfl
/-- The first k refs of bytes, and noughts. -/
def upN (B : List Int) (k : Nat) : List Rf := ofN B k ++ List.replicate (4 - k) zr
theorem len_upN (B : List Int) (k : Nat) (hk : k ≤ 4) : (upN B k).length = 4 := by simp [upN, len_ofN]; omega
theorem ok_upN (B : List Int) (hB : Byt B) (hl : B.length = 160) (k : Nat) (hk : k ≤ 4) : OkN (upN B k) := by
  intro r hr
  rw [upN, List.mem_append] at hr
  rcases hr with hr | hr
  · exact okN_of B hB k (by omega) r hr
  · rw [(List.mem_replicate.1 hr).2]; exact okR_zr
theorem upN_four (B : List Int) : upN B 4 = ofN B 4 := by simp [upN]
theorem upN_set (B : List Int) (k : Nat) (hk : k < 4) (r : Rf) : (upN B k).set k r = ofN B k ++ r :: List.replicate (3 - k) zr := by
  rw [upN, List.set_append_right _ _ (by rw [len_ofN]; exact Nat.le_refl _), len_ofN, Nat.sub_self, show 4 - k = (3 - k) + 1 by omega, List.replicate_succ, List.set_cons_zero]
theorem upN_succ (B : List Int) (k : Nat) (hk : k < 4) : (upN B k).set k (rfAt B k) = upN B (k + 1) := by
  rw [upN_set B k hk, upN, ofN, List.append_assoc, show 4 - (k + 1) = 3 - k by omega]
  rfl
theorem upN_at (B : List Int) (k : Nat) (hk : k < 4) : (upN B k)[k]'(by rw [len_upN B k (by omega)]; exact hk) = zr := by
  simp [upN, len_ofN]
/-- A node in a block. -/
def LiesN (w : World) (g : Nat) (t : TypeId) (N : List Rf) : Prop := w.heap[g]? = some (.cells (na N) t (0, 0))
theorem LiesN.lt {w : World} {g : Nat} {t : TypeId} {N : List Rf} (h : LiesN w g t N) : g < w.heap.size := (Array.getElem?_eq_some_iff.1 h).1
theorem LiesN.below {w w' : World} {g : Nat} {t : TypeId} {N : List Rf} (h : LiesN w g t N) (hb : Below w.heap.size w w') : LiesN w' g t N := (hb.block g h.lt).trans h
theorem LiesN.on {w w' : World} {g B : Nat} {t : TypeId} {N : List Rf} (h : LiesN w g t N) (hb : Below B w w') (hg : g < B) : LiesN w' g t N := (hb.block g hg).trans h
theorem LiesN.cell {w : World} {g : Nat} {t : TypeId} {N : List Rf} (h : LiesN w g t N) (k : Nat) : w.cell? ⟨g, k, none⟩ = (nc N)[k]? := by
  rw [cell_of_row _ _ _ _ _ _ h, na, List.getElem?_toArray]
theorem LiesN.froz {w : World} {g : Nat} {t : TypeId} {N : List Rf} (h : LiesN w g t N) (k : Nat) : w.frozen? ⟨g, k, none⟩ = false := frozen_of_row _ _ _ _ _ h
theorem LiesN.range {w : World} {g : Nat} {t : TypeId} {N : List Rf} (h : LiesN w g t N) : w.rangeAt g 0 (nc N) := range_arr h (nc N) (fun j v hv => by rw [Nat.zero_add, na, List.getElem?_toArray]; exact hv)
theorem LiesN.sum {w : World} {g : Nat} {t : TypeId} {N : List Rf} (h : LiesN w g t N) (hN : OkN N) (k : Nat) (hk : k < N.length) : Bytes w (some ⟨g, k * 33, none⟩) 32 N[k].d :=
  ⟨(hN.get k hk).ld, (hN.get k hk).bd, fun _ => ⟨g, k * 33, rfl, h.lt, fun i hi => by rw [h.cell, Nat.mul_comm]; exact nc_sum hN k hk i hi⟩⟩
theorem LiesN.stamp {w : World} {g : Nat} {t : TypeId} {N : List Rf} (h : LiesN w g t N) (hN : OkN N) (k : Nat) (hk : k < N.length) : w.cell? ⟨g, k * 33 + 32, none⟩ = some (.int .u64 N[k].s) := by
  rw [h.cell, Nat.mul_comm]; exact nc_stamp hN k hk
theorem LiesN.putSum {w : World} {g : Nat} {t : TypeId} {N : List Rf} (h : LiesN w g t N) (hN : OkN N) (k : Nat) (hk : k < N.length) (D : List Int) (hD : D.length = 32) : LiesN (w.setCells g (k * 33) (u8s D).toList) g t (N.set k ⟨D, N[k].s⟩) := by
  have hl := len_nc hN
  have := setCells_row g t (D.map (Value.int .u8)) (k * 33) (nc N) w h (by rw [List.length_map, hD, hl]; omega)
  unfold LiesN na
  rw [show (u8s D).toList = D.map (Value.int .u8) by simp [u8s], this, nc_put_sum hN k hk D hD]
theorem LiesN.putStamp {w : World} {g : Nat} {t : TypeId} {N : List Rf} (h : LiesN w g t N) (hN : OkN N) (k : Nat) (hk : k < N.length) (x : Int) : LiesN (w.setCell ⟨g, k * 33 + 32, none⟩ (.int .u64 x)) g t (N.set k ⟨N[k].d, x⟩) := by
  unfold LiesN
  rw [heap_setCell_same w g (k * 33 + 32) _ _ _ h, na, List.setIfInBounds_toArray, nc_put_stamp hN k hk x]
  rfl
/-- Where Get stands: noughts for the answer in block S, the node in block G. -/
structure Gn (w wr : World) (S G : Nat) (t : TypeId) (N : List Rf) : Prop where
  res : LiesN wr S t zn
  cel : LiesN wr G t N
  bel : Below S w wr
  lt : S < G
theorem Gn.on {w wr w' : World} {S G : Nat} {t : TypeId} {N : List Rf} (h : Gn w wr S G t N) (hb : Below wr.heap.size wr w') : Gn w w' S G t N :=
  ⟨h.res.below hb, h.cel.below hb, h.bel.trans (hb.mono (Nat.le_of_lt h.res.lt)), h.lt⟩
theorem below_setCells {S g : Nat} {w : World} (hg : S ≤ g) : ∀ (cs : List Value) (o : Nat) {w' : World}, Below S w w' → Below S w (w'.setCells g o cs)
  | [], _, _, h => h
  | v :: r, o, _, h => below_setCells hg r (o + 1) (below_set h hg v)
theorem setCells_other (g k : Nat) (hk : k ≠ g) : ∀ (cs : List Value) (o : Nat) (w : World), (w.setCells g o cs).heap[k]? = w.heap[k]?
  | [], _, _ => rfl
  | v :: r, o, w => by
    rw [World.setCells, setCells_other g k hk r (o + 1), heap_setCell_other w ⟨g, o, none⟩ k _ (fun e => hk e)]
theorem Gn.putSum {w wr : World} {S G : Nat} {t : TypeId} {N : List Rf} (h : Gn w wr S G t N) (hN : OkN N) (k : Nat) (hk : k < N.length) (D : List Int) (hD : D.length = 32) : Gn w (wr.setCells G (k * 33) (u8s D).toList) S G t (N.set k ⟨D, N[k].s⟩) :=
  ⟨(setCells_other G S (Nat.ne_of_lt h.lt) _ _ _).trans h.res, h.cel.putSum hN k hk D hD, below_setCells (Nat.le_of_lt h.lt) _ _ h.bel, h.lt⟩
theorem Gn.putStamp {w wr : World} {S G : Nat} {t : TypeId} {N : List Rf} (h : Gn w wr S G t N) (hN : OkN N) (k : Nat) (hk : k < N.length) (x : Int) : Gn w (wr.setCell ⟨G, k * 33 + 32, none⟩ (.int .u64 x)) S G t (N.set k ⟨N[k].d, x⟩) :=
  ⟨(heap_setCell_other wr ⟨G, k * 33 + 32, none⟩ S _ (by have := h.lt; simp; omega)).trans h.res, h.cel.putStamp hN k hk x, below_set h.bel (Nat.le_of_lt h.lt) _, h.lt⟩
theorem results_N2 {fn : Func} {ty el : TypeId} {n : Nat} {t u : Tmp} (h : fn.results = #[.cell t ty, .tmp u]) (hu : Tryz.prog.underlying ty = some (.array n el)) (hi : (Tryz.prog.info? ty).map (·.size) = some 132) (tmps : Array Value) (w : World) (b : Nat) (N : List Rf) (hN : OkN N) (h4 : N.length = 4) (ht : tmps.getD t undef = .pointer (some ⟨b, 0, none⟩)) (hg : LiesN w b ty N) :
    (results fn tmps).run Tryz.prog w = .ok (.tuple #[.agg (na N), tmps.getD u undef]) w := by
  have hl := run_loadVar_row (P := Tryz.prog) w b _ ty _ _ _ hg hu rfl (by rw [size_na hN h4]; exact hi)
  rw [results_cell_tmp h, ht]
  simp [asAddr, hl]
theorem get8 (a : Option Addr) (cap : Nat) (L : List Int) (p : Nat) (p' : Int) (w : World) (hb : Bytes w a 160 L) (hp : p + 8 ≤ 160) (he : p' = (p : Int)) :
    Calls Tryz.prog 85 #[.slice a 160 cap, .int .i64 p', .int .i64 8] w fun e w' => e = .returned (.tuple #[.int .u64 (num L p 8), .int .i64 0]) ∧ w = w' := by
  subst he
  exact get_ok a 160 cap L p 8 w hb (by decide) (by omega) (by omega) hp
set_option maxRecDepth 20000 in
set_option maxHeartbeats 1000000 in
theorem tget_ok (a : Option Addr) (cap : Nat) (L : List Int) (w : World) (hB : Bytes w a 160 L) (hc : 160 ≤ cap) (hm : cap ≤ 9223372036854775807) : Calls Tryz.prog 62 #[.slice a 160 cap] w fun e w' => e = .returned (.tuple #[.agg (na (ofN L 4)), .int .i64 0]) ∧ Below w.heap.size w w' := by
  obtain ⟨S, hS⟩ : ∃ S, w.heap.size = S := ⟨_, rfl⟩
  have HB : Box (∀ x, Below S w x → Bytes x a 160 L) := ⟨fun x hx => hB.below (by rw [hS]; exact hx)⟩
  have HO : Box (∀ k, k ≤ 4 → OkN (upN L k) ∧ (upN L k).length = 4) := ⟨fun k hk => ⟨ok_upN L hB.2.1 hB.1 k hk, len_upN L k hk⟩⟩
  have HX : Box (∀ k : Nat, k < 4 → ∃ b o, (∀ x, (Instr.sliceAt 38 (.slice a 160 cap) (some (.int .i64 ((k : Int) * 40))) (some (.int .i64 ((k : Int) * 40 + 32))) none).run Tryz.prog x = .ok (.slice (some ⟨b, o, none⟩) 32 (cap - k * 40)) x) ∧ ∀ x, Bytes x a 160 L → Bytes x (some ⟨b, o, none⟩) 32 (rfAt L k).d) := ⟨fun k hk => by
    obtain ⟨a', e, f⟩ := slice_mid a 160 cap (k * 40) (k * 40 + 32) (by omega) (by omega) hc
    have g := f w L hB
    rw [Nat.add_sub_cancel_left] at g
    obtain ⟨b, o, rfl, -, -⟩ := g.2.2 (by omega)
    refine ⟨b, o, fun x => ?_, fun x hx => ?_⟩
    · have := e x
      rw [Nat.add_sub_cancel_left] at this
      rw [← this]
      simp
    · have := f x L hx
      rw [Nat.add_sub_cancel_left] at this
      have e2 : (L.take (k * 40 + 32)).drop (k * 40) = (rfAt L k).d := by
        rw [rfAt, List.drop_take, Nat.add_sub_cancel_left, Nat.mul_comm]
      rwa [e2] at this⟩
  have HW : Box (Gn w ((w.alloc (.cells (na zn) 107)).alloc (.cells (na zn) 107)) S (S + 1) 107 (upN L 0)) := ⟨al_old (al_at hS), al_at (by simp [hS]), by rw [← hS]; exact ((Below.refl _ _).alloc (Nat.le_refl _) _).alloc (by simp) _, by omega⟩
  have HS : Box (w.heap.size = S) := ⟨hS⟩
  clear hB hc hS
  go_enter Tryz.func62, Tryz.ntmps62
  go_upto_region 2 with (refine wpList_run rfl _ _ (exec_alloc 107 rfl _ zeroN) ?_)
  have hs2 : (w.alloc (.cells (na zn) 107)).heap.size = S + 1 := by simp [HS.out]
  (try rw [hs2])
  simp only [HS.out]
  generalize (w.alloc (.cells (na zn) 107)).alloc (.cells (na zn) 107) = w1 at HW ⊢
  go_wp2
  go_loopw [11] (fun i wr => ∃ k : Nat, k ≤ 4 ∧ i = .int .i64 k ∧ Box (Gn w wr S (S + 1) 107 (upN L k))) (fun i _ => 4 - (intOf i).toNat)
  case atStart => exact ⟨0, by omega, rfl, HW⟩
  case round =>
    obtain ⟨k, hk, rfl, HP⟩ := hrel
    clear HW
    by_cases hlt : k < 4
    · obtain ⟨b, o, hsl, hby⟩ := HX.out k hlt
      have HD : Box (Bytes wr (some ⟨b, o, none⟩) 32 (rfAt L k).d) := ⟨hby wr (HB.out wr HP.out.bel)⟩
      have HY : Box (∀ x, (Instr.sliceAt 38 (.slice a 160 cap) (some (.int .i64 ((k : Int) * 40))) (some (.int .i64 ((k : Int) * 40 + 32))) none).run Tryz.prog x = .ok (.slice (some ⟨b, o, none⟩) 32 (cap - k * 40)) x) := ⟨hsl⟩
      clear hby hsl
      go_upto_region 8 with fail
      have HT : Box (Gn w (wr.setCells (S + 1) (k * 33) (u8s (rfAt L k).d).toList) S (S + 1) 107 ((upN L k).set k ⟨(rfAt L k).d, 0⟩) ∧ wr.there (S + 1) (k * 33) (u8s (rfAt L k).d).size ∧ (u8s (rfAt L k).d).size = 32) := by
        have h4 := (HO.out k hk).2
        have hz : (upN L k)[k].s = 0 := by rw [upN_at L k hlt]; rfl
        have := HP.out.putSum (HO.out k hk).1 k (by omega) (rfAt L k).d HD.out.1
        rw [hz] at this
        have h32 : (u8s (rfAt L k).d).size = 32 := by rw [size_u8s, HD.out.1]
        exact ⟨this, there_row HP.out.cel (by rw [h32, size_na (HO.out k hk).1 h4]; omega), h32⟩
      obtain ⟨D, HE⟩ : ∃ D, Box (D = (rfAt L k).d) := ⟨_, ⟨rfl⟩⟩
      rw [← HE.out] at HT HD
      go_upto_region 9 with (first
        | (refine atSlice _ ?_; refine wpList_run rfl _ _ (exec_slice 38 (.tmp 18) (some (.tmp 20)) (some (.tmp 21)) rfl _ (HY.out _)) ?_)
        | (refine atArr _ ?_; refine wpList_run rfl _ _ (exec_arr (.tmp 22) rfl _ (cap - k * 40) rfl) ?_)
        | (refine atLoad _ ?_; refine wpList_run rfl _ _ (exec_sum (.tmp 23) rfl b o rfl _ HD.out) ?_)
        | (refine atStore _ ?_; refine wpList_store_mid rfl 23 (.tmp 26) (.tmp 24) rfl (S + 1) (k * 33) (u8s D) rfl rfl HT.out.2.1 (by rw [HT.out.2.2]; exact infoS) (all_u8s D) ?_))
      have hlen : k < ((upN L k).set k ⟨D, 0⟩).length := by rw [List.length_set, (HO.out k hk).2]; exact hlt
      have HK : Box (OkN ((upN L k).set k ⟨D, 0⟩) ∧ ((upN L k).set k ⟨D, 0⟩)[k] = ⟨D, 0⟩ ∧ ((upN L k).set k ⟨D, 0⟩).set k ⟨D, num L (40 * k + 32) 8⟩ = upN L (k + 1)) := by
        refine ⟨okN_set (HO.out k hk).1 k _ ⟨HD.out.1, HD.out.2.1, ⟨by simp, by simp⟩⟩, by simp, ?_⟩
        rw [List.set_set, HE.out, ← upN_succ L k hlt]
        rfl
      generalize wr.setCells (S + 1) (k * 33) (u8s D).toList = w2 at HT ⊢
      have hc : w2.cell? ⟨S + 1, k * 33 + 32, none⟩ = some (.int .u64 0) := by rw [HT.out.1.cel.stamp HK.out.1 k hlen, HK.out.2.1]
      have hf : w2.frozen? ⟨S + 1, k * 33 + 32, none⟩ = false := HT.out.1.cel.froz _
      have HG : Box (Bytes w2 a 160 L) := ⟨HB.out _ HT.out.1.bel⟩
      have HU : Box (Gn w (w2.setCell ⟨S + 1, k * 33 + 32, none⟩ (.int .u64 (num L (40 * k + 32) 8))) S (S + 1) 107 (upN L (k + 1))) := ⟨by
        have := HT.out.1.putStamp HK.out.1 k hlen (num L (40 * k + 32) 8)
        rw [HK.out.2.1, HK.out.2.2] at this
        exact this⟩
      clear HT HP HD HE HK hlen
      simp only [Act.put]
      go_wp2_with (go_at_call 85; refine Calls.mono (get8 a cap L (40 * k + 32) _ _ HG.out (by omega) (by omega)) ?_; rintro e w5 ⟨rfl, rfl⟩)
      go_roundw
      case rel => exact ⟨k + 1, by omega, by go_num, HU⟩
      case measure => simp [intOf]; omega
    · obtain rfl : k = 4 := by omega
      have h4 := HO.out 4 (by omega)
      rw [upN_four] at HP h4
      have HF : Box (OkN (ofN L 4) ∧ (na (ofN L 4)).size = 132 ∧ (na zn).size = 132 ∧ (nc (ofN L 4)).length = 132 ∧ (ofN L 4).length = 4) := ⟨h4.1, size_na h4.1 h4.2, size_na okN_zn rfl, by rw [len_nc h4.1, h4.2], h4.2⟩
      clear h4 HO HB
      obtain ⟨N, HN⟩ : ∃ N, Box (ofN L 4 = N) := ⟨_, ⟨rfl⟩⟩
      rw [HN.out] at HP HF
      go_wp2_with (first
        | (refine wpList_load_mid rfl 107 _ rfl (S + 1) 0 rfl (nc N) _ HP.out.cel.range Tryz.underlying107 rfl (by rw [HF.out.2.2.2.1]; exact infoN) ?_)
        | (refine wpList_store_row rfl 107 _ _ rfl S (na N) rfl rfl 107 (na zn) HP.out.res (by rw [HF.out.2.1]; exact infoN) (by rw [HF.out.2.1, HF.out.2.2.1]) (all_na N) ?_))
      (try simp only [Exit.inBlock, Exit.then])
      refine bodyPost_ret (results_N2 rfl Tryz.underlying107 infoN _ _ S N HF.out.1 HF.out.2.2.2.2 rfl (setRow_heap _ _ _ _ _ _ HP.out.res)) rfl ?_
      exact ⟨by rw [HN.out]; rfl, by rw [HS.out]; exact below_setRow HP.out.bel (Nat.le_refl _) _⟩
end Go.Proofs.YthbbijaikcmaeaaGreatDoor
namespace Go.Proofs.YthbbijaikcmaeaaGreatDoor
set_option maxRecDepth 100000
set_option linter.unusedVariables false
open Go.RowKit Plain
/-- Go's == on refs, and on nodes. -/
def eqR (r q : Rf) : Bool := decide (r.d = q.d) && ((r.s == q.s) && true)
theorem eqR_iff (r q : Rf) : eqR r q = true ↔ r = q := by
  obtain ⟨d, s⟩ := r
  obtain ⟨d', s'⟩ := q
  simp [eqR]
/-- What is asked of the two types of refs, and of the two types of nodes. -/
structure RfT (t : TypeId) : Prop where
  fld : (Tryz.prog.fieldsOf t).toList.map (fun f => (f.name != "_", f.type, f.offset)) = [(true, 23, 0), (true, 34, 32)]
  und : Tryz.prog.underlying t = some (.struct (Tryz.prog.fieldsOf t))
  std : Tryz.prog.stoodInHeld t = false
  siz : (Tryz.prog.info? t).map (·.size) = some 33
  agg : ∀ w, (isAgg t).run Tryz.prog w = .ok true w
  one : ∀ w, (sizeOf t).run Tryz.prog w = .ok 33 w
  cel : Tryz.prog.cellsOf t = 33
theorem rt26 : RfT 36 := ⟨by kernel_rfl, by kernel_rfl, by kernel_rfl, by kernel_rfl, fun w => by kernel_rfl, fun w => by kernel_rfl, by kernel_rfl⟩
theorem ext_sum {r : Rf} (h : OkR r) : (ra r).extract 0 32 = u8s r.d := by
  have hr := h.ld
  apply Array.toList_inj.1
  simp [ra, rc, u8s, hr]
theorem part_sum {r : Rf} (h : OkR r) (w : World) : (part 23 (ra r) 0).run Tryz.prog w = .ok (.agg (u8s r.d)) w := by
  have hagg : (isAgg 23).run Tryz.prog w = .ok true w := by kernel_rfl
  have hsz : (sizeOf 23).run Tryz.prog w = .ok 32 w := by kernel_rfl
  simp [part, Sem.run_bind, hagg, ext_sum h]
theorem part_stamp {r : Rf} (h : OkR r) (w : World) : (part 34 (ra r) 32).run Tryz.prog w = .ok (.int .u64 r.s) w := by
  have hagg : (isAgg 34).run Tryz.prog w = .ok false w := by kernel_rfl
  have hv : (ra r)[32]? = some (.int .u64 r.s) := by rw [ra, List.getElem?_toArray]; exact rc_stamp h
  simp only [part, Sem.run_bind, hagg, Result.andThen_ok, Bool.false_eq_true, if_false, hv]
  rfl
theorem eq_refIn {t : TypeId} (ht : RfT t) (d : Nat) {r q : Rf} (hr : OkR r) (hq : OkR q) (w : World) : (Op.equalIn (d + 1 + 1 + 1) t (.agg (ra r)) (.agg (ra q))).run Tryz.prog w = .ok (eqR r q) w := by
  rw [run_equalIn_struct w (d + 1 + 1) t (ra r) (ra q) ht.und ht.std]
  have hF := ht.fld
  generalize (Tryz.prog.fieldsOf t).toList = fs at hF
  have hl : fs.length = 2 := by simpa using congrArg List.length hF
  match fs, hl, hF with
  | [f0, f1], _, hF =>
    simp only [List.map_cons, List.map_nil, List.cons.injEq, Prod.mk.injEq, and_true] at hF
    obtain ⟨⟨a0, b0, c0⟩, ⟨a1, b1, c1⟩⟩ := hF
    exact eqF_step (d + 1 + 1) _ _ f0 _ _ _ a0 b0 c0 _ _ w (part_sum hr w) (part_sum hq w) _ _ (eq_sumIn d _ _ hr.ld hq.ld w)
      (eqF_step (d + 1 + 1) _ _ f1 _ _ _ a1 b1 c1 _ _ w (part_stamp hr w) (part_stamp hq w) _ true (run_equalIn_int (P := Tryz.prog) w (d + 1) 34 .u64 .u64 _ _ Tryz.underlying34) (by simp [Op.eqFields]))
/-- A whole node is read. -/
theorem exec_node {o : Oper} {ρ : Operand → Value} {w' : World} {u t : TypeId} (hu : Tryz.prog.underlying u = some (.array 4 t)) (hi : (Tryz.prog.info? u).map (·.size) = some 132) (x : Operand) (ho : o.op = .load u x) (g : Nat) (hx : ρ x = .pointer (some ⟨g, 0, none⟩)) (N : List Rf) (hN : OkN N) (h4 : N.length = 4) (h : LiesN w' g u N) :
    (execOp ρ o).run Tryz.prog w' = .ok (.value (.agg (na N))) w' :=
  exec_load_mid u _ x ho hu rfl g 0 hx (nc N) (by rw [len_nc hN, h4]; exact hi) h.range
/-- An operation that is guarded, and wanted. -/
theorem wpList_runG {ops : Array Oper} {rest : List Oper} {o : Oper} {a : Act} {w : World} {Q : Exit → Act → World → Prop} (hw : Region.wanted o (yielded ops a.tmps) = true) (v : Value) (w' : World) (hr : (execOp a.eval o).run Tryz.prog w = .ok (.value v) w') (h : wpList Tryz.prog ops Q rest (a.put o.dst v) w') : wpList Tryz.prog ops Q (o :: rest) a w :=
  BigFrame.wpList_want hw fun _ hK => by unfold Oper.wp; rw [hr]; exact hK _ _ h
/-- A node stored into a block that has just been made. -/
theorem wpList_newN {ops : Array Oper} {rest : List Oper} {o : Oper} {a : Act} {v : World} {Q : Exit → Act → World → Prop} {u : TypeId} (hi : (Tryz.prog.info? u).map (·.size) = some 132) (w : World) (N : List Rf) (hN : OkN N) (h4 : N.length = 4) (hgd : o.guard = none) (x y : Operand) (ho : o.op = .store u x y)
    (hx : a.eval x = .pointer (some ⟨w.heap.size, 0, none⟩)) (hy : a.eval y = .agg (na N)) (hv : v = w.alloc (.cells (na zn) u))
    (h : ∀ z, LiesN z w.heap.size u N → Below w.heap.size w z → wpList Tryz.prog ops Q rest (a.put o.dst undef) z) : wpList Tryz.prog ops Q (o :: rest) a v := by
  subst hv
  have hs := size_na hN h4
  exact wpList_store_row hgd u x y ho w.heap.size (na N) hx hy u (na zn) (al_at rfl) (by rw [hs]; exact hi) (by rw [hs, size_na okN_zn rfl]) (all_na N)
    (h _ (setRow_heap _ _ _ _ _ _ (al_at rfl)) (below_setRow ((Below.refl _ _).alloc (Nat.le_refl _) _) (Nat.le_refl _) _))
/-- A digest in a block. -/
def LiesS (w : World) (g : Nat) (X : List Int) : Prop := w.heap[g]? = some (.cells (u8s X) 23 (0, 0))
theorem LiesS.lt {w : World} {g : Nat} {X : List Int} (h : LiesS w g X) : g < w.heap.size := (Array.getElem?_eq_some_iff.1 h).1
theorem LiesS.below {w w' : World} {g : Nat} {X : List Int} (h : LiesS w g X) (hb : Below w.heap.size w w') : LiesS w' g X := (hb.block g h.lt).trans h
end Go.Proofs.YthbbijaikcmaeaaGreatDoor
