/-
  What the reference's Get of layer 10 answers, for any bytes.
-/
import Derived.Test.YtlbapcpcabieaaaDoorGT
namespace Go.Proofs.YtlbapcpcabieaaaDoor
set_option linter.unusedVariables false
open Go.RowKit Plain

/-- The first k bytes, and noughts up to 32. -/
def pad32 (X : List Int) (k : Nat) : List Int := X.take k ++ List.replicate (32 - k) 0
theorem pad32_set (X : List Int) (k : Nat) (hX : X.length = 32) (hk : k < 32) : (pad32 X k).set k (X.getD k 0) = pad32 X (k + 1) := by
  unfold pad32
  rw [take_snoc X k (by omega), List.set_append_right _ _ (by simp; omega), show k - (X.take k).length = 0 by simp; omega, show 32 - k = (32 - (k + 1)) + 1 by omega, List.replicate_succ, List.set_cons_zero, List.append_assoc]
  rfl
theorem len_pad32 (X : List Int) (k : Nat) (hX : X.length = 32) (hk : k ≤ 32) : (pad32 X k).length = 32 := by simp [pad32, hX]; omega
theorem byt_pad32 (X : List Int) (k : Nat) (hX : Byt X) : Byt (pad32 X k) := byt_app _ _ (byt_take _ _ hX) (byt_zeros _)
theorem pad32_all (X : List Int) (hX : X.length = 32) : pad32 X 32 = X := by
  unfold pad32
  rw [List.take_of_length_le (by omega)]
  simp
theorem nc_put_byte {N : List Rf} (h : OkN N) (k : Nat) (hk : k < N.length) (i : Nat) (hi : i < 32) (x : Int) : (nc N).set (k * 33 + i) (.int .u8 x) = nc (N.set k ⟨N[k].d.set i x, N[k].s⟩) := by
  have hl := len_nc (okN_take h k)
  have hd := (h.get k hk).ld
  rw [List.length_take, Nat.min_eq_left (Nat.le_of_lt hk)] at hl
  rw [nc_set k hk, nc_split k hk]
  simp only [rc]
  rw [List.set_append_right _ _ (by omega), show k * 33 + i - (nc (N.take k)).length = i by omega, List.append_assoc, List.set_append_left _ _ (by simp [hd, hi]), List.append_assoc, List.map_set]
theorem LiesN.putByte {w : World} {g : Nat} {t : TypeId} {N : List Rf} (h : LiesN w g t N) (hN : OkN N) (k : Nat) (hk : k < N.length) (i : Nat) (hi : i < 32) (x : Int) : LiesN (w.setCell ⟨g, k * 33 + i, none⟩ (.int .u8 x)) g t (N.set k ⟨N[k].d.set i x, N[k].s⟩) := by
  unfold LiesN
  rw [heap_setCell_same w g (k * 33 + i) _ _ _ h, na, List.setIfInBounds_toArray, nc_put_byte hN k hk i hi x]
  rfl
theorem Gn.putByte {w wr : World} {S G : Nat} {t : TypeId} {N : List Rf} (h : Gn w wr S G t N) (hN : OkN N) (k : Nat) (hk : k < N.length) (i : Nat) (hi : i < 32) (x : Int) : Gn w (wr.setCell ⟨G, k * 33 + i, none⟩ (.int .u8 x)) S G t (N.set k ⟨N[k].d.set i x, N[k].s⟩) :=
  ⟨(heap_setCell_other wr ⟨G, k * 33 + i, none⟩ S _ (by have := h.lt; simp; omega)).trans h.res, h.cel.putByte hN k hk i hi x, below_set h.bel (Nat.le_of_lt h.lt) _, h.lt⟩
theorem Gn.drew {w wr : World} {S G : Nat} {t : TypeId} {N : List Rf} (h : Gn w wr S G t N) : Gn w wr.drew S G t N := ⟨h.res, h.cel, h.bel.drew, h.lt⟩
/-- The first k refs of bytes, i bytes of the next one, and noughts. -/
def inN (B : List Int) (k i : Nat) : List Rf := (upN B k).set k ⟨pad32 (rfAt B k).d i, 0⟩
theorem len_inN (B : List Int) (k i : Nat) (hk : k < 4) : (inN B k i).length = 4 := by rw [inN, List.length_set, len_upN B k (by omega)]
theorem len_rfd (B : List Int) (hl : B.length = 160) (k : Nat) (hk : k < 4) : (rfAt B k).d.length = 32 := by simp [rfAt]; omega
theorem ok_inN (B : List Int) (hB : Byt B) (hl : B.length = 160) (k i : Nat) (hk : k < 4) (hi : i ≤ 32) : OkN (inN B k i) :=
  okN_set (ok_upN B hB hl k (by omega)) k _ ⟨len_pad32 _ _ (len_rfd B hl k hk) hi, byt_pad32 _ _ (byt_take _ _ (byt_drop _ _ hB)), ⟨by simp, by simp⟩⟩
theorem inN_at (B : List Int) (k i : Nat) (hk : k < 4) : (inN B k i)[k]'(by rw [len_inN B k i hk]; exact hk) = ⟨pad32 (rfAt B k).d i, 0⟩ := by simp [inN]
theorem inN_zero (B : List Int) (k : Nat) (hk : k < 4) : inN B k 0 = upN B k := by
  have e : (⟨pad32 (rfAt B k).d 0, 0⟩ : Rf) = (upN B k)[k]'(by rw [len_upN B k (by omega)]; exact hk) := by rw [upN_at B k hk]; rfl
  rw [inN, e, List.set_getElem_self]
theorem rfd_at (B : List Int) (k i : Nat) (hi : i < 32) : (rfAt B k).d.getD i 0 = B.getD (40 * k + i) 0 := by simp [rfAt, List.getD, hi]
theorem inN_step (B : List Int) (hl : B.length = 160) (k i : Nat) (hk : k < 4) (hi : i < 32) : (inN B k i).set k ⟨((inN B k i)[k]'(by rw [len_inN B k i hk]; exact hk)).d.set i (B.getD (40 * k + i) 0), ((inN B k i)[k]'(by rw [len_inN B k i hk]; exact hk)).s⟩ = inN B k (i + 1) := by
  rw [inN_at B k i hk]
  simp only
  rw [← rfd_at B k i hi, pad32_set _ _ (len_rfd B hl k hk) hi, inN, List.set_set]
  rfl
theorem inN_all (B : List Int) (hl : B.length = 160) (k : Nat) (hk : k < 4) : (inN B k 32).set k ⟨((inN B k 32)[k]'(by rw [len_inN B k 32 hk]; exact hk)).d, num B (40 * k + 32) 8⟩ = upN B (k + 1) := by
  rw [inN_at B k 32 hk]
  simp only
  rw [pad32_all _ (len_rfd B hl k hk), inN, List.set_set, ← upN_succ B k hk]
  rfl
theorem rget8 (a : Option Addr) (cap : Nat) (L : List Int) (p : Nat) (p' : Int) (w : World) (hb : Bytes w a 160 L) (hp : p + 8 ≤ 160) (he : p' = (p : Int)) :
    Calls Tryd.prog 23 #[.slice a 160 cap, .int .i64 p', .int .i64 8] w fun e w' => e = .returned (.tuple #[.int .u64 (num L p 8), .int .i64 0]) ∧ w = w' := by
  subst he
  exact rget_ok a 160 cap L p 8 w hb (by decide) (by omega) (by omega) hp

set_option maxRecDepth 20000 in
set_option maxHeartbeats 1000000 in
theorem rnget_no (a : Option Addr) (len cap : Nat) (w : World) (hl : len ≠ 160) (hm : len ≤ maxLen) : Calls Tryd.prog 11 #[.slice a len cap] w fun e w' => e = .returned (.tuple #[.agg (na zn), .int .i64 11]) ∧ Below w.heap.size w w' := by
  unfold maxLen at hm
  have hne : ((len : Int) == 160) = false := by simp; omega
  obtain ⟨S, hS⟩ : ∃ S, w.heap.size = S := ⟨_, rfl⟩
  have H : Box (Gn w ((w.alloc (.cells (na zn) 36)).alloc (.cells (na zn) 36)) S (S + 1) 36 zn) := ⟨al_old (al_at hS), al_at (by simp [hS]), by rw [← hS]; exact ((Below.refl _ _).alloc (Nat.le_refl _) _).alloc (by simp) _, by omega⟩
  have HN : Box ((nc zn).length = 132 ∧ (na zn).size = 132) := ⟨by rw [len_nc okN_zn]; rfl, size_na okN_zn rfl⟩
  have HS : Box (w.heap.size = S) := ⟨hS⟩
  clear hl hS
  go_enter Tryd.func11, Tryd.ntmps11
  go_upto_region 2 with (refine wpList_run rfl _ _ (exec_alloc 36 rfl _ zeroM) ?_)
  have hs2 : (w.alloc (.cells (na zn) 36)).heap.size = S + 1 := by simp [HS.out]
  (try rw [hs2])
  (try simp only [HS.out])
  generalize (w.alloc (.cells (na zn) 36)).alloc (.cells (na zn) 36) = w1 at H ⊢
  clear hs2
  go_wp2_with (first
    | (refine wpList_load_mid rfl 36 _ rfl (S + 1) 0 rfl (nc zn) _ H.out.cel.range Tryd.underlying36 rfl (by rw [HN.out.1]; exact infoM) ?_)
    | (refine wpList_store_row rfl 36 _ _ rfl S (na zn) rfl rfl 36 (na zn) H.out.res (by rw [HN.out.2]; exact infoM) rfl (all_na zn) ?_))
  (try simp only [Exit.inBlock, Exit.then])
  refine bodyPost_ret (results_N2 rfl Tryd.underlying36 infoM _ _ S zn okN_zn rfl rfl (setRow_heap _ _ _ _ _ _ H.out.res)) rfl ?_
  exact ⟨rfl, by rw [HS.out]; exact below_setRow H.out.bel (Nat.le_refl _) _⟩

set_option maxRecDepth 20000 in
set_option maxHeartbeats 1000000 in
theorem rnget_ok (a : Option Addr) (cap : Nat) (L : List Int) (w : World) (hB : Bytes w a 160 L) : Calls Tryd.prog 11 #[.slice a 160 cap] w fun e w' => e = .returned (.tuple #[.agg (na (ofN L 4)), .int .i64 0]) ∧ Below w.heap.size w w' := by
  obtain ⟨S, hS⟩ : ∃ S, w.heap.size = S := ⟨_, rfl⟩
  have HB : Box (∀ x, Below S w x → Bytes x a 160 L) := ⟨fun x hx => hB.below (by rw [hS]; exact hx)⟩
  have HO : Box (∀ k, k ≤ 4 → OkN (upN L k) ∧ (upN L k).length = 4) := ⟨fun k hk => ⟨ok_upN L hB.2.1 hB.1 k hk, len_upN L k hk⟩⟩
  have HI : Box (Byt L ∧ L.length = 160) := ⟨hB.2.1, hB.1⟩
  have H : Box (Gn w ((w.alloc (.cells (na zn) 36)).alloc (.cells (na zn) 36)) S (S + 1) 36 (upN L 0)) := ⟨al_old (al_at hS), al_at (by simp [hS]), by rw [← hS]; exact ((Below.refl _ _).alloc (Nat.le_refl _) _).alloc (by simp) _, by omega⟩
  have HS : Box (w.heap.size = S) := ⟨hS⟩
  obtain ⟨b0, o0, rfl, -, -⟩ := hB.2.2 (by omega)
  clear hB hS
  go_enter Tryd.func11, Tryd.ntmps11
  go_upto_region 2 with (refine wpList_run rfl _ _ (exec_alloc 36 rfl _ zeroM) ?_)
  have hs2 : (w.alloc (.cells (na zn) 36)).heap.size = S + 1 := by simp [HS.out]
  (try rw [hs2])
  (try simp only [HS.out])
  generalize (w.alloc (.cells (na zn) 36)).alloc (.cells (na zn) 36) = w1 at H ⊢
  clear hs2
  go_wp2
  go_loopw [5] (fun i wr => ∃ k : Nat, k ≤ 4 ∧ i = .int .i64 k ∧ Box (Gn w wr S (S + 1) 36 (upN L k))) (fun i _ => 4 - (intOf i).toNat)
  case atStart => exact ⟨0, by omega, rfl, H⟩
  case round =>
    obtain ⟨k, hk, rfl, HP⟩ := hrel
    clear H
    by_cases hlt : k < 4
    · have hd : decide ((k : Int) < 4) = true := by simp; omega
      rw [← inN_zero L k hlt] at HP
      go_wp2
      (try rw [hd])
      go_loopw [6] (fun i wr => ∃ j : Nat, j ≤ 32 ∧ i = .int .i64 j ∧ Box (Gn w wr S (S + 1) 36 (inN L k j))) (fun i _ => 32 - (intOf i).toNat)
      case atStart => exact ⟨0, by omega, rfl, HP⟩
      case round =>
        obtain ⟨j, hj, rfl, HQ⟩ := hrel
        clear HP
        by_cases hjt : j < 32
        · obtain ⟨_, _, hcc⟩ := HB.out _ HQ.out.bel
          obtain ⟨b1, o1, he, _, hc⟩ := hcc (by omega)
          simp only [Option.some.injEq, Addr.mk.injEq, and_true] at he
          obtain ⟨rfl, rfl⟩ := he
          have c1 := hc (40 * k + j) (by omega)
          have hkl : k < (inN L k j).length := by rw [len_inN L k j hlt]; exact hlt
          have hok := ok_inN L HI.out.1 HI.out.2 k j hlt hj
          have g1 : wr.cell? ⟨S + 1, k * 33 + j, none⟩ = some (.int .u8 ((inN L k j)[k].d.getD j 0)) := by rw [HQ.out.cel.cell, Nat.mul_comm]; exact nc_sum hok k hkl j hjt
          have f1 : wr.frozen? ⟨S + 1, k * 33 + j, none⟩ = false := HQ.out.cel.froz _
          have HT : Box (Gn w (wr.drew.setCell ⟨S + 1, k * 33 + j, none⟩ (.int .u8 (L.getD (40 * k + j) 0))) S (S + 1) 36 (inN L k (j + 1))) := ⟨by rw [← inN_step L HI.out.2 k j hlt hjt]; exact HQ.out.drew.putByte hok k hkl j hjt _⟩
          clear hc hcc hok
          generalize L.getD (40 * k + j) 0 = z1 at c1 HT
          generalize (inN L k j)[k].d.getD j 0 = y1 at g1
          clear hkl HQ
          go_upto_region 10 with fail
          go_region
          go_wp2
          go_roundw
          case rel => exact ⟨j + 1, by omega, by go_num, HT⟩
          case measure => simp [intOf]; omega
        · have HJ : Box (j = 32) := ⟨by omega⟩
          have hd2 : decide ((j : Int) < 32) = false := by simp; omega
          have HQ' : Box (Gn w wr S (S + 1) 36 (inN L k 32)) := ⟨by
            have := HQ.out
            rwa [HJ.out] at this⟩
          have hkl : k < (inN L k 32).length := by rw [len_inN L k 32 hlt]; exact hlt
          have hok := ok_inN L HI.out.1 HI.out.2 k 32 hlt (Nat.le_refl _)
          have hc : wr.cell? ⟨S + 1, k * 33 + 32, none⟩ = some (.int .u64 (inN L k 32)[k].s) := HQ'.out.cel.stamp hok k hkl
          have hf : wr.frozen? ⟨S + 1, k * 33 + 32, none⟩ = false := HQ'.out.cel.froz _
          have HG : Box (Bytes wr (some ⟨b0, o0, none⟩) 160 L) := ⟨HB.out _ HQ'.out.bel⟩
          have HT : Box (Gn w (wr.setCell ⟨S + 1, k * 33 + 32, none⟩ (.int .u64 (num L (40 * k + 32) 8))) S (S + 1) 36 (upN L (k + 1))) := ⟨by rw [← inN_all L HI.out.2 k hlt]; exact HQ'.out.putStamp hok k hkl _⟩
          generalize (inN L k 32)[k].s = y1 at hc
          clear hok hkl HQ HQ' hjt hj
          go_wp2_with (go_at_call 23; refine Calls.mono (rget8 _ cap L (40 * k + 32) _ _ HG.out (by omega) (by omega)) ?_; rintro e w5 ⟨rfl, rfl⟩)
          go_roundw
          case rel => exact ⟨k + 1, by omega, by go_num, HT⟩
          case measure => simp [intOf]; omega
    · obtain rfl : k = 4 := by omega
      have h4 := HO.out 4 (by omega)
      rw [upN_four] at HP h4
      have HF : Box (OkN (ofN L 4) ∧ (na (ofN L 4)).size = 132 ∧ (na zn).size = 132 ∧ (nc (ofN L 4)).length = 132 ∧ (ofN L 4).length = 4) := ⟨h4.1, size_na h4.1 h4.2, size_na okN_zn rfl, by rw [len_nc h4.1, h4.2], h4.2⟩
      clear h4 HO HB HI
      obtain ⟨N, HN⟩ : ∃ N, Box (ofN L 4 = N) := ⟨_, ⟨rfl⟩⟩
      rw [HN.out] at HP HF
      go_wp2_with (first
        | (refine wpList_load_mid rfl 36 _ rfl (S + 1) 0 rfl (nc N) _ HP.out.cel.range Tryd.underlying36 rfl (by rw [HF.out.2.2.2.1]; exact infoM) ?_)
        | (refine wpList_store_row rfl 36 _ _ rfl S (na N) rfl rfl 36 (na zn) HP.out.res (by rw [HF.out.2.1]; exact infoM) (by rw [HF.out.2.1, HF.out.2.2.1]) (all_na N) ?_))
      (try simp only [Exit.inBlock, Exit.then])
      refine bodyPost_ret (results_N2 rfl Tryd.underlying36 infoM _ _ S N HF.out.1 HF.out.2.2.2.2 rfl (setRow_heap _ _ _ _ _ _ HP.out.res)) rfl ?_
      exact ⟨by rw [HN.out]; rfl, by rw [HS.out]; exact below_setRow HP.out.bel (Nat.le_refl _) _⟩
end Go.Proofs.YtlbapcpcabieaaaDoor
