/-
  What the reference's Get of layer 7 answers, for any bytes.
-/
import Derived.Test.YtejpbbgnammgkaaX8
namespace Go.Proofs.Ytejpbbgnammgkaa
set_option linter.unusedVariables false
open Go.RowKit Plain

/-- The first k bytes, and noughts up to 32. -/
def pad32 (X : List Int) (k : Nat) : List Int := X.take k ++ List.replicate (32 - k) 0
theorem pad32_set (X : List Int) (k : Nat) (hX : X.length = 32) (hk : k < 32) : (pad32 X k).set k (X.getD k 0) = pad32 X (k + 1) := by
  unfold pad32
  rw [take_snoc X k (by omega), List.set_append_right _ _ (by simp; omega), show k - (X.take k).length = 0 by simp; omega, show 32 - k = (32 - (k + 1)) + 1 by omega, List.replicate_succ, List.set_cons_zero, List.append_assoc]
  rfl
theorem len_pad32 (X : List Int) (k : Nat) (hX : X.length = 32) (hk : k ≤ 32) : (pad32 X k).length = 32 := by simp [pad32, hX]; omega
theorem byt_pad32 (X : List Int) (k : Nat) (hX : Byt X) : Byt (pad32 X k) := byt_app _ _ (byt_take _ _ hX) (byt_zeros _)
theorem pad32_all (X : List Int) (hX : X.length = 32) : pad32 X 32 = X := by
  unfold pad32
  rw [List.take_of_length_le (by omega)]
  simp
/-- Where the reference's loop stands. -/
def upr (L : List Int) (i j : Nat) : Cl := ⟨pad32 (L.take 32) i, 0, 0, 0, 0, pad32 ((L.drop 64).take 32) j⟩
theorem ok_upr (L : List Int) (hL : Byt L) (hl : L.length = 96) (i j : Nat) (hi : i ≤ 32) (hj : j ≤ 32) : Ok (upr L i j) := by
  have z : U64 0 := ⟨by decide, by decide⟩
  exact ⟨len_pad32 _ _ (by simp [hl]) hi, byt_pad32 _ _ (byt_take _ _ hL), z, z, z, z, len_pad32 _ _ (by simp [hl]) hj, byt_pad32 _ _ (byt_take _ _ (byt_drop _ _ hL))⟩
theorem upr_zero (L : List Int) : upr L 0 0 = zc := by
  simp [upr, zc, pad32]
theorem upr_all (L : List Int) (hl : L.length = 96) : upr L 32 32 = upto L 0 := by
  rw [upto_zero, upr, pad32_all _ (by simp [hl]), pad32_all _ (by simp [hl])]
theorem av_setR {C : Cl} (h : Ok C) (k : Nat) (hk : k < 32) (x : Int) : (av C).setIfInBounds k (.int .u8 x) = av { C with r := C.r.set k x } := by
  have hr := h.lr
  have key : (vs C).set k (.int .u8 x) = vs { C with r := C.r.set k x } := by
    unfold vs
    rw [List.set_append_left _ _ (by simp [hr, hk])]
    simp [List.map_set]
  simp [av, key]
theorem av_setT {C : Cl} (h : Ok C) (k : Nat) (hk : k < 32) (x : Int) : (av C).setIfInBounds (36 + k) (.int .u8 x) = av { C with t := C.t.set k x } := by
  have hr := h.lr
  have key : (vs C).set (36 + k) (.int .u8 x) = vs { C with t := C.t.set k x } := by
    unfold vs
    rw [List.set_append_right _ _ (by simp [hr]; omega), List.length_map, hr, List.set_append_right _ _ (by simp; omega)]
    simp [List.map_set, show 36 + k - 32 - 4 = k by omega]
  simp [av, key]
theorem upr_r (L : List Int) (hl : L.length = 96) (k j : Nat) (hk : k < 32) : { upr L k j with r := (upr L k j).r.set k (L.getD k 0) } = upr L (k + 1) j := by
  have e : (L.take 32).getD k 0 = L.getD k 0 := by simp [List.getD, hk]
  unfold upr
  rw [← pad32_set (L.take 32) k (by simp [hl]) hk, e]
theorem upr_t (L : List Int) (hl : L.length = 96) (k j : Nat) (hk : k < 32) : { upr L j k with t := (upr L j k).t.set k (L.getD (64 + k) 0) } = upr L j (k + 1) := by
  have e : ((L.drop 64).take 32).getD k 0 = L.getD (64 + k) 0 := by simp [List.getD, hk]
  unfold upr
  rw [← pad32_set ((L.drop 64).take 32) k (by simp [hl]) hk, e]
theorem Gt.setR {w wr : World} {S G : Nat} {C : Cl} (h : Gt w wr S G C) (hC : Ok C) (k : Nat) (hk : k < 32) (x : Int) : Gt w (wr.setCell ⟨G, k, none⟩ (.int .u8 x)) S G { C with r := C.r.set k x } :=
  ⟨(heap_setCell_other wr ⟨G, k, none⟩ S _ (by have := h.lt; simp; omega)).trans h.res, by unfold Lies; rw [heap_setCell_same wr G k _ _ _ h.cel, av_setR hC k hk x], below_set h.bel (Nat.le_of_lt h.lt) _, h.lt⟩
theorem Gt.setT {w wr : World} {S G : Nat} {C : Cl} (h : Gt w wr S G C) (hC : Ok C) (k : Nat) (hk : k < 32) (x : Int) : Gt w (wr.setCell ⟨G, 36 + k, none⟩ (.int .u8 x)) S G { C with t := C.t.set k x } :=
  ⟨(heap_setCell_other wr ⟨G, 36 + k, none⟩ S _ (by have := h.lt; simp; omega)).trans h.res, by unfold Lies; rw [heap_setCell_same wr G (36 + k) _ _ _ h.cel, av_setT hC k hk x], below_set h.bel (Nat.le_of_lt h.lt) _, h.lt⟩

set_option maxRecDepth 20000 in
set_option maxHeartbeats 1000000 in
theorem rcget_no (a : Option Addr) (len cap : Nat) (w : World) (hl : len ≠ 96) (hm : len ≤ maxLen) : Calls Try.prog 10 #[.slice a len cap] w fun e w' => e = .returned (.tuple #[.agg (av zc), .int .i64 11]) ∧ Below w.heap.size w w' := by
  unfold maxLen at hm
  have hne : ((len : Int) == 96) = false := by simp; omega
  obtain ⟨S, hS⟩ : ∃ S, w.heap.size = S := ⟨_, rfl⟩
  have H : Box (Gt w ((w.alloc (.cells (av zc) 26)).alloc (.cells (av zc) 26)) S (S + 1) zc) := ⟨al_old (al_at hS), al_at (by simp [hS]), by rw [← hS]; exact ((Below.refl _ _).alloc (Nat.le_refl _) _).alloc (by simp) _, by omega⟩
  have HN : Box ((vs zc).length = 68 ∧ (av zc).size = 68) := ⟨len_vs ok_zc, size_av ok_zc⟩
  have HS : Box (w.heap.size = S) := ⟨hS⟩
  clear hl hS
  go_enter Try.func10, Try.ntmps10
  go_upto_region 3 with (refine wpList_run rfl _ _ (exec_alloc 26 rfl _ zeroC) ?_)
  simp only [HS.out]
  generalize (w.alloc (.cells (av zc) 26)).alloc (.cells (av zc) 26) = w1 at H ⊢
  go_wp2_with (first
    | (refine wpList_load_mid rfl 26 _ rfl (S + 1) 0 rfl (vs zc) _ (range_vs H.out.cel) Try.underlying26 rfl (by rw [HN.out.1]; exact infoC) ?_)
    | (refine wpList_store_row rfl 26 _ _ rfl S (av zc) rfl rfl 26 (av zc) H.out.res (by rw [HN.out.2]; exact infoC) rfl (all_av zc) ?_))
  (try simp only [Exit.inBlock, Exit.then])
  refine bodyPost_ret (results_C2 rfl _ _ S zc ok_zc rfl (setRow_heap _ _ _ _ _ _ H.out.res)) rfl ?_
  exact ⟨rfl, by rw [HS.out]; exact below_setRow H.out.bel (Nat.le_refl _) _⟩

set_option maxRecDepth 20000 in
set_option maxHeartbeats 1000000 in
theorem rcget_ok (a : Option Addr) (cap : Nat) (L : List Int) (w : World) (hB : Bytes w a 96 L) : Calls Try.prog 10 #[.slice a 96 cap] w fun e w' => e = .returned (.tuple #[.agg (av (ofB L)), .int .i64 0]) ∧ Below w.heap.size w w' := by
  obtain ⟨S, hS⟩ : ∃ S, w.heap.size = S := ⟨_, rfl⟩
  have H : Box (Gt w ((w.alloc (.cells (av zc) 26)).alloc (.cells (av zc) 26)) S (S + 1) (upr L 0 0)) := ⟨by rw [upr_zero]; exact ⟨al_old (al_at hS), al_at (by simp [hS]), by rw [← hS]; exact ((Below.refl _ _).alloc (Nat.le_refl _) _).alloc (by simp) _, by omega⟩⟩
  have HB : Box (∀ x, Below S w x → Bytes x a 96 L) := ⟨fun x hx => hB.below (by rw [hS]; exact hx)⟩
  have HR : Box (∀ i j, i ≤ 32 → j ≤ 32 → Ok (upr L i j)) := ⟨ok_upr L hB.2.1 hB.1⟩
  have HO : Box (∀ k, Ok (upto L k)) := ⟨ok_upto L hB.2.1 hB.1⟩
  have HL : Box (L.length = 96) := ⟨hB.1⟩
  have HS : Box (w.heap.size = S) := ⟨hS⟩
  obtain ⟨b0, o0, rfl, -, -⟩ := hB.2.2 (by omega)
  clear hB hS
  go_enter Try.func10, Try.ntmps10
  go_upto_region 4 with (refine wpList_run rfl _ _ (exec_alloc 26 rfl _ zeroC) ?_)
  simp only [HS.out]
  generalize (w.alloc (.cells (av zc) 26)).alloc (.cells (av zc) 26) = w1 at H ⊢
  go_wp2
  go_loopw [5] (fun i wr => ∃ k : Nat, k ≤ 32 ∧ i = .int .i64 k ∧ Box (Gt w wr S (S + 1) (upr L k k))) (fun i _ => 32 - (intOf i).toNat)
  case atStart => exact ⟨0, by omega, rfl, H⟩
  case round =>
    obtain ⟨k, hk, rfl, HP⟩ := hrel
    clear H
    by_cases hlt : k < 32
    · obtain ⟨_, _, hcc⟩ := HB.out _ HP.out.bel
      obtain ⟨b1, o1, he, _, hc⟩ := hcc (by omega)
      simp only [Option.some.injEq, Addr.mk.injEq, and_true] at he
      obtain ⟨rfl, rfl⟩ := he
      have c1 := hc k (by omega)
      have g1 : wr.cell? ⟨S + 1, k, none⟩ = some (.int .u8 ((upr L k k).r.getD k 0)) := by rw [HP.out.cel.cell]; exact av_r (HR.out k k hk hk) k hlt
      have f1 : wr.frozen? ⟨S + 1, k, none⟩ = false := HP.out.cel.froz _
      have HT : Box (Gt w (wr.setCell ⟨S + 1, k, none⟩ (.int .u8 (L.getD k 0))) S (S + 1) (upr L (k + 1) k)) := ⟨by rw [← upr_r L HL.out k k hlt]; exact HP.out.setR (HR.out k k hk hk) k hlt _⟩
      clear hc hcc
      generalize L.getD k 0 = z1 at c1 HT
      generalize (upr L k k).r.getD k 0 = y1 at g1
      go_upto_region 8 with fail
      generalize wr.setCell ⟨S + 1, k, none⟩ (.int .u8 z1) = w2 at HT ⊢
      clear c1 g1 f1 HP
      obtain ⟨_, _, hcc⟩ := HB.out _ HT.out.bel
      obtain ⟨b1, o1, he, _, hc⟩ := hcc (by omega)
      simp only [Option.some.injEq, Addr.mk.injEq, and_true] at he
      obtain ⟨rfl, rfl⟩ := he
      have c1 := hc (64 + k) (by omega)
      have g1 : w2.cell? ⟨S + 1, 36 + k, none⟩ = some (.int .u8 ((upr L (k + 1) k).t.getD k 0)) := by rw [HT.out.cel.cell]; exact av_t (HR.out (k + 1) k (by omega) hk) k hlt
      have f1 : w2.frozen? ⟨S + 1, 36 + k, none⟩ = false := HT.out.cel.froz _
      have HU : Box (Gt w (w2.setCell ⟨S + 1, 36 + k, none⟩ (.int .u8 (L.getD (64 + k) 0))) S (S + 1) (upr L (k + 1) (k + 1))) := ⟨by rw [← upr_t L HL.out k (k + 1) hlt]; exact HT.out.setT (HR.out (k + 1) k (by omega) hk) k hlt _⟩
      clear hc hcc HT
      generalize L.getD (64 + k) 0 = z2 at c1 HU
      generalize (upr L (k + 1) k).t.getD k 0 = y2 at g1
      go_wp2
      go_roundw
      case rel => exact ⟨k + 1, by omega, by go_num, HU⟩
      case measure => simp [intOf]; omega
    · obtain rfl : k = 32 := by omega
      rw [upr_all L HL.out] at HP
      clear HR hk hlt
      have g0 : wr.cell? ⟨S + 1, 32, none⟩ = some _ := HP.out.cel.num (HO.out 0) 0 (by omega)
      have f0 : wr.frozen? ⟨S + 1, 32, none⟩ = false := HP.out.cel.froz _
      have HG0 : Box (Bytes wr (some ⟨b0, o0, none⟩) 96 L) := ⟨HB.out _ HP.out.bel⟩
      have HT0 : Box (Gt w (wr.setCell ⟨S + 1, 32, none⟩ (.int .u64 (num L 32 8))) S (S + 1) (upto L 1)) := ⟨by rw [← upto_succ L 0 (by omega)]; exact HP.out.set (HO.out 0) 0 (by omega) _⟩
      go_upto_region 10 with (go_at_call 19; refine Calls.mono (rget_k _ cap L 32 _ _ HG0.out (by omega) rfl) ?_; rintro e w5 ⟨rfl, rfl⟩)
      generalize wr.setCell ⟨S + 1, 32, none⟩ (.int .u64 (num L 32 8)) = x0 at HT0 ⊢
      clear g0 f0 HG0 HP
      have g1 : x0.cell? ⟨S + 1, 33, none⟩ = some _ := HT0.out.cel.num (HO.out 1) 1 (by omega)
      have f1 : x0.frozen? ⟨S + 1, 33, none⟩ = false := HT0.out.cel.froz _
      have HG1 : Box (Bytes x0 (some ⟨b0, o0, none⟩) 96 L) := ⟨HB.out _ HT0.out.bel⟩
      have HT1 : Box (Gt w (x0.setCell ⟨S + 1, 33, none⟩ (.int .u64 (num L 40 8))) S (S + 1) (upto L 2)) := ⟨by rw [← upto_succ L 1 (by omega)]; exact HT0.out.set (HO.out 1) 1 (by omega) _⟩
      go_upto_region 11 with (go_at_call 19; refine Calls.mono (rget_k _ cap L 40 _ _ HG1.out (by omega) rfl) ?_; rintro e w5 ⟨rfl, rfl⟩)
      generalize x0.setCell ⟨S + 1, 33, none⟩ (.int .u64 (num L 40 8)) = x1 at HT1 ⊢
      clear g1 f1 HG1 HT0
      have g2 : x1.cell? ⟨S + 1, 34, none⟩ = some _ := HT1.out.cel.num (HO.out 2) 2 (by omega)
      have f2 : x1.frozen? ⟨S + 1, 34, none⟩ = false := HT1.out.cel.froz _
      have HG2 : Box (Bytes x1 (some ⟨b0, o0, none⟩) 96 L) := ⟨HB.out _ HT1.out.bel⟩
      have HT2 : Box (Gt w (x1.setCell ⟨S + 1, 34, none⟩ (.int .u64 (num L 48 8))) S (S + 1) (upto L 3)) := ⟨by rw [← upto_succ L 2 (by omega)]; exact HT1.out.set (HO.out 2) 2 (by omega) _⟩
      go_upto_region 12 with (go_at_call 19; refine Calls.mono (rget_k _ cap L 48 _ _ HG2.out (by omega) rfl) ?_; rintro e w5 ⟨rfl, rfl⟩)
      generalize x1.setCell ⟨S + 1, 34, none⟩ (.int .u64 (num L 48 8)) = x2 at HT2 ⊢
      clear g2 f2 HG2 HT1
      have g3 : x2.cell? ⟨S + 1, 35, none⟩ = some _ := HT2.out.cel.num (HO.out 3) 3 (by omega)
      have f3 : x2.frozen? ⟨S + 1, 35, none⟩ = false := HT2.out.cel.froz _
      have HG3 : Box (Bytes x2 (some ⟨b0, o0, none⟩) 96 L) := ⟨HB.out _ HT2.out.bel⟩
      have HT3 : Box (Gt w (x2.setCell ⟨S + 1, 35, none⟩ (.int .u64 (num L 56 8))) S (S + 1) (upto L 4)) := ⟨by rw [← upto_succ L 3 (by omega)]; exact HT2.out.set (HO.out 3) 3 (by omega) _⟩
      go_upto_region 13 with (go_at_call 19; refine Calls.mono (rget_k _ cap L 56 _ _ HG3.out (by omega) rfl) ?_; rintro e w5 ⟨rfl, rfl⟩)
      generalize x2.setCell ⟨S + 1, 35, none⟩ (.int .u64 (num L 56 8)) = x3 at HT3 ⊢
      clear g3 f3 HG3 HT2
      rw [upto_four] at HT3
      have h4 := HO.out 4
      rw [upto_four] at h4
      have HF : Box (Ok (ofB L) ∧ (av (ofB L)).size = 68 ∧ (av zc).size = 68 ∧ (vs (ofB L)).length = 68) := ⟨h4, size_av h4, size_av ok_zc, len_vs h4⟩
      clear h4 HO HB
      obtain ⟨C, HC⟩ : ∃ C, Box (ofB L = C) := ⟨_, ⟨rfl⟩⟩
      rw [HC.out] at HT3 HF
      go_wp2_with (first
        | (refine wpList_load_mid rfl 26 _ rfl (S + 1) 0 rfl (vs C) _ (range_vs HT3.out.cel) Try.underlying26 rfl (by rw [HF.out.2.2.2]; exact infoC) ?_)
        | (refine wpList_store_row rfl 26 _ _ rfl S (av C) rfl rfl 26 (av zc) HT3.out.res (by rw [HF.out.2.1]; exact infoC) (by rw [HF.out.2.1, HF.out.2.2.1]) (all_av C) ?_))
      (try simp only [Exit.inBlock, Exit.then])
      refine bodyPost_ret (results_C2 rfl _ _ S C HF.out.1 rfl (setRow_heap _ _ _ _ _ _ HT3.out.res)) rfl ?_
      exact ⟨by rw [HC.out]; rfl, by rw [HS.out]; exact below_setRow HT3.out.bel (Nat.le_refl _) _⟩
end Go.Proofs.Ytejpbbgnammgkaa
