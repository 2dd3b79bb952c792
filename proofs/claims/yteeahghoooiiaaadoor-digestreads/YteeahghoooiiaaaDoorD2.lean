/-
  What the reference's digit and Read answer, for every byte and every text: as the program's.
-/
import Derived.Test.YteeahghoooiiaaaDoorR2
namespace Go.Proofs.YteeahghoooiiaaaDoor
set_option linter.unusedVariables false
open Go.RowKit Plain

/-- What the reference says of a digit: below 0 it is none. -/
def rd (c : Int) : Int := if vo c = true then vd c else -1
theorem rd_yes {c : Int} (h : vo c = true) : rd c = vd c := if_pos h
theorem rd_no {c : Int} (h : vo c = false) : rd c = -1 := if_neg (by rw [h]; decide)
theorem dig_inj (i j : Nat) (hi : i < 16) (h : dig i = dig j) (hj : j < 16) : i = j := by
  have h1 := (vd_dig i hi).1
  have h2 := (vd_dig j hj).1
  rw [h] at h1
  omega
/-- A digit is found at the place of what it counts. -/
theorem dig_vd (c : Int) (h : vo c = true) : ∃ i : Nat, i < 16 ∧ dig i = c ∧ vd c = (i : Int) := by
  have hv := vd_bd c
  refine ⟨(vd c).toNat, by omega, ?_, by omega⟩
  unfold vo at h
  simp only [Bool.or_eq_true, decide_eq_true_eq] at h
  have key : ∀ j : Fin 256, vo (j.val : Int) = true → dig (vd (j.val : Int)).toNat = (j.val : Int) := by decide +kernel
  obtain ⟨C, rfl⟩ := Int.eq_ofNat_of_zero_le (by omega : 0 ≤ c)
  exact key ⟨C, by omega⟩ (by unfold vo; simp only [Bool.or_eq_true, decide_eq_true_eq]; exact h)

set_option maxHeartbeats 400000 in
theorem digit_any (c : Int) (w : World) (hc : 0 ≤ c ∧ c ≤ 255) :
    Calls Tryd.prog 21 #[.int .u8 c] w fun e w' => e = .returned (.int .i64 (rd c)) ∧ w = w' := by
  go_enter Tryd.func21, Tryd.ntmps21
  go_wp2
  go_loop [3] (fun i => ∃ k : Nat, k ≤ 16 ∧ i = .int .i64 k ∧ Box (∀ j, j < k → dig j ≠ c)) (fun i => 16 - (intOf i).toNat)
  case atStart => exact ⟨0, by omega, rfl, ⟨fun j hj => absurd hj (by omega)⟩⟩
  case round =>
    obtain ⟨k, hk, rfl, HB⟩ := hrel
    by_cases hlt : k < 16
    · have hidx : ∀ x : World, (Instr.index 9 (.string { data := #[48, 49, 50, 51, 52, 53, 54, 55, 56, 57, 97, 98, 99, 100, 101, 102] }) (.int .i64 k)).run Tryd.prog x = .ok (.int .u8 (dig k)) x := fun x => index_str { data := #[48, 49, 50, 51, 52, 53, 54, 55, 56, 57, 97, 98, 99, 100, 101, 102] } .i64 k hlt x
      by_cases he : dig k = c
      · have HR : Box (rd c = (k : Int)) := ⟨by rw [← he, rd_yes (vd_dig k hlt).2, (vd_dig k hlt).1]⟩
        rw [he] at hidx
        clear he
        go_wp2
        go_ret
        exact ⟨by rw [HR.out]; rfl, rfl⟩
      · have HN : Box (∀ j, j < k + 1 → dig j ≠ c) := ⟨fun j hj => by
          by_cases e : j = k
          · rw [e]; exact he
          · exact HB.out j (by omega)⟩
        obtain ⟨z, HZ⟩ : ∃ z, Box (dig k = z) := ⟨_, ⟨rfl⟩⟩
        rw [HZ.out] at hidx he
        have he' : (z == c) = false := by simpa using he
        go_wp2
        go_round
        case rel => exact ⟨k + 1, by omega, by go_num, HN⟩
        case measure => simp [intOf]; omega
    · obtain rfl : k = 16 := by omega
      have HR : Box (rd c = -1) := ⟨by
        cases hv : vo c
        · exact rd_no hv
        · obtain ⟨i, hi, hd, _⟩ := dig_vd c hv
          exact absurd hd (HB.out i hi)⟩
      go_wp2
      go_ret
      exact ⟨by rw [HR.out]; rfl, rfl⟩

set_option maxRecDepth 20000 in
set_option maxHeartbeats 400000 in
theorem rread_len (S : ByteArray) (w : World) (h : S.size ≠ 64) (hs : S.size ≤ maxLen) :
    Calls Tryd.prog 16 #[.string S] w fun e w' => e = .returned (.tuple #[.agg (fil8 [] 32), .int .i64 11]) ∧ Below w.heap.size w w' := by
  unfold maxLen at hs
  have h1 : ¬ (S.size : Int) = 64 := by omega
  have h2 : (S.size == 64) = false := by simpa using h
  have HZ : Hid _ := z32
  have HB : Hid (Below w.heap.size w ((w.alloc (.cells (fil8 [] 32) 25)).alloc (.cells (fil8 [] 32) 25))) := ((Below.refl _ _).alloc (Nat.le_refl _) _).alloc (by simp) _
  have HR : Hid (((w.alloc (.cells (fil8 [] 32) 25)).alloc (.cells (fil8 [] 32) 25)).heap[w.heap.size]? = some (.cells (fil8 [] 32) 25 (0, 0))) := al_old (al_at rfl)
  rw [HZ.out] at HB HR
  go_enter Tryd.func16, Tryd.ntmps16
  go_wp2_with (first | (refine wpList_build25 rfl rfl ?_) | (refine wpList_store_row rfl 25 _ _ rfl w.heap.size (fil8 [] 32) rfl rfl 25 _ HR.out (by kernel_rfl) (by rfl) all_fil8 ?_))
  (try simp only [Exit.inBlock, Exit.then])
  refine bodyPost_ret (results_row_tmp (p := 2) (q := 3) (ty := 25) rfl _ _ w.heap.size 25 (fil8 [] 32) (0, 0) _ rfl (setRow_heap _ _ _ _ _ _ HR.out) Tryd.underlying25 rfl (by kernel_rfl)) rfl ?_
  exact ⟨rfl, below_setRow HB.out (Nat.le_refl _) _⟩

set_option maxRecDepth 20000 in
set_option maxHeartbeats 1000000 in
theorem rread_dig (S : ByteArray) (w : World) (hs : S.size = 64) :
    Calls Tryd.prog 16 #[.string S] w fun e w' => e = rdEnd (nums S) ∧ Below w.heap.size w w' := by
  obtain ⟨T, HT⟩ : ∃ T, Box (nums S = T) := ⟨_, ⟨rfl⟩⟩
  have hTb : Byt T := by rw [← HT.out]; exact byt_nums S
  have HZ : Hid _ := z32
  have HX : Hid (((w.alloc (.cells (fil8 [] 32) 25)).alloc (.cells (fil8 [] 32) 25)).heap[w.heap.size]? = some (.cells (fil8 [] 32) 25 (0, 0)) ∧ ((w.alloc (.cells (fil8 [] 32) 25)).alloc (.cells (fil8 [] 32) 25)).heap[w.heap.size + 1]? = some (.cells (fil8 (rdl T 0) 32) 25 (0, 0)) ∧ Below w.heap.size w ((w.alloc (.cells (fil8 [] 32) 25)).alloc (.cells (fil8 [] 32) 25))) := ⟨al_old (al_at rfl), al_at (by simp), ((Below.refl _ _).alloc (Nat.le_refl _) _).alloc (by simp) _⟩
  go_enter Tryd.func16, Tryd.ntmps16
  go_wp2
  rw [← HZ.out]
  generalize (w.alloc (.cells (fil8 [] 32) 25)).alloc (.cells (fil8 [] 32) 25) = x0 at HX ⊢
  go_loopw [5] (fun i wr => ∃ k : Nat, k ≤ 32 ∧ i = .int .i64 k ∧ Box (∀ i, i < 2 * k → vo (T.getD i 0) = true) ∧ Hid (wr.heap[w.heap.size]? = some (.cells (fil8 [] 32) 25 (0, 0)) ∧ wr.heap[w.heap.size + 1]? = some (.cells (fil8 (rdl T k) 32) 25 (0, 0)) ∧ Below w.heap.size w wr)) (fun i _ => 32 - (intOf i).toNat)
  case atStart => exact ⟨0, by omega, rfl, ⟨fun i hi => absurd hi (by omega)⟩, HX⟩
  case round =>
    clear HX x0 HZ
    obtain ⟨k, hk, rfl, HV, HWr⟩ := hrel
    by_cases hlt : k < 32
    · have i1 := index_str S .i64 (2 * k) (by omega)
      have i2 := index_str S .i64 (2 * k + 1) (by omega)
      rw [HT.out] at i1 i2
      have hb1 := hTb (2 * k)
      have hb2 := hTb (2 * k + 1)
      have HE : Hid (rdb T k = vd (T.getD (2 * k) 0) * 16 + vd (T.getD (2 * k + 1) 0)) := rfl
      have HV1 : Box (∀ b, vo (T.getD (2 * k) 0) = b → b = false → allDig T = false) := ⟨fun b h h' => allDig_no (2 * k) (by omega) (h.trans h')⟩
      have HV2 : Box (∀ b, vo (T.getD (2 * k + 1) 0) = b → b = false → allDig T = false) := ⟨fun b h h' => allDig_no (2 * k + 1) (by omega) (h.trans h')⟩
      have HVV : Box (vo (T.getD (2 * k) 0) = true → vo (T.getD (2 * k + 1) 0) = true → ∀ i, i < 2 * (k + 1) → vo (T.getD i 0) = true) := ⟨fun h1 h2 i hi => by
        by_cases e1 : i = 2 * k
        · rw [e1]; exact h1
        · by_cases e2 : i = 2 * k + 1
          · rw [e2]; exact h2
          · exact HV.out i (by omega)⟩
      have q1 : ((2 * k : Nat) : Int) = 2 * (k : Int) := by omega
      have q2 : ((2 * k + 1 : Nat) : Int) = 2 * (k : Int) + 1 := by omega
      rw [q1] at i1
      rw [q2] at i2
      clear q1 q2 hTb HV
      generalize T.getD (2 * k) 0 = c1 at i1 hb1 HE HV1 HVV
      generalize T.getD (2 * k + 1) 0 = c2 at i2 hb2 HE HV2 HVV
      have hd1 := vd_bd c1
      have hd2 := vd_bd c2
      have HC1 : Hid (0 ≤ c1 ∧ c1 ≤ 255) := hb1
      have HC2 : Hid (0 ≤ c2 ∧ c2 ≤ 255) := hb2
      clear hb1 hb2
      obtain ⟨y1, Y1⟩ : ∃ y, vd c1 = y := ⟨_, rfl⟩
      obtain ⟨y2, Y2⟩ : ∃ y, vd c2 = y := ⟨_, rfl⟩
      have HOR : Hid (rdb T k = 16 * y1 + y2) := by rw [Hid, HE.out, Y1, Y2]; omega
      have hr1 : vo c1 = true → rd c1 = y1 := fun h => (rd_yes h).trans Y1
      have hr2 : vo c2 = true → rd c2 = y2 := fun h => (rd_yes h).trans Y2
      rw [Y1] at hd1
      rw [Y2] at hd2
      obtain ⟨p1, p2⟩ := hd1
      obtain ⟨p3, p4⟩ := hd2
      clear HE
      by_cases hok : vo c1 = true ∧ vo c2 = true
      · obtain ⟨h1, h2⟩ := hok
        replace hr1 := hr1 h1
        replace hr2 := hr2 h2
        have HVT : Box (∀ i, i < 2 * (k + 1) → vo (T.getD i 0) = true) := ⟨HVV.out h1 h2⟩
        have hln := length_rdl T k
        have f1 : wr.frozen? ⟨w.heap.size + 1, k, none⟩ = false := frozen_of_row wr _ _ _ 25 HWr.out.2.1
        obtain ⟨v, hcw⟩ : ∃ v, wr.cell? ⟨w.heap.size + 1, k, none⟩ = some v := by
          obtain ⟨v, hv⟩ := fil8_some (rdl T k) 32 k hlt (by omega)
          exact ⟨v, by rw [cell_of_row _ _ _ _ _ _ HWr.out.2.1]; exact hv⟩
        have HW3 : Hid ((wr.setCell ⟨w.heap.size + 1, k, none⟩ (.int .u8 (rdb T k))).heap[w.heap.size]? = some (.cells (fil8 [] 32) 25 (0, 0)) ∧ (wr.setCell ⟨w.heap.size + 1, k, none⟩ (.int .u8 (rdb T k))).heap[w.heap.size + 1]? = some (.cells (fil8 (rdl T (k + 1)) 32) 25 (0, 0)) ∧ Below w.heap.size w (wr.setCell ⟨w.heap.size + 1, k, none⟩ (.int .u8 (rdb T k)))) := by
          have hoth : ∀ k', k' ≠ w.heap.size + 1 → (wr.setCell ⟨w.heap.size + 1, k, none⟩ (.int .u8 (rdb T k))).heap[k']? = wr.heap[k']? := fun k' hk => heap_setCell_other wr ⟨w.heap.size + 1, k, none⟩ k' _ (fun e => hk e)
          obtain ⟨a1, a2, a3⟩ := HWr.out
          refine ⟨(hoth _ (by omega)).trans a1, ?_, ⟨a3.os, a3.tape, a3.output, by simpa using a3.size, fun k hk => (hoth k (by omega)).trans (a3.block k hk)⟩⟩
          rw [heap_setCell_same wr _ k _ 25 _ a2, rdl, ← fil8_set _ _ _ (by omega), hln]
        clear hln HV1 HV2 HVV HWr
        go_wp2_with (go_at_call 21; refine (digit_any _ _ (by first | exact HC1.out | exact HC2.out)).mono ?_; rintro e w' ⟨rfl, rfl⟩)
        go_roundw
        case rel => exact ⟨k + 1, by omega, by go_num, HVT, by rw [HOR.out] at HW3; exact HW3⟩
        case measure => simp [intOf]; omega
      · have HNO : Box (allDig T = false) := ⟨by
          cases h1 : vo c1
          · exact HV1.out _ h1 rfl
          · cases h2 : vo c2
            · exact HV2.out _ h2 rfl
            · exact absurd ⟨h1, h2⟩ hok⟩
        have HEN : Box (rdEnd (nums S) = .returned (.tuple #[.agg (fil8 [] 32), .int .i64 11])) := ⟨by rw [HT.out]; exact rdEnd_no HNO.out⟩
        have hp : vo c1 = false ∨ (vo c1 = true ∧ vo c2 = false) := by
          cases h1 : vo c1
          · exact .inl rfl
          · cases h2 : vo c2
            · exact .inr ⟨rfl, rfl⟩
            · exact absurd ⟨h1, h2⟩ hok
        have HR : Hid (wr.heap[w.heap.size]? = some (.cells (fil8 [] 32) 25 (0, 0)) ∧ Below w.heap.size w wr) := ⟨HWr.out.1, HWr.out.2.2⟩
        clear HV1 HV2 HVV HWr hok HNO
        rcases hp with h1 | ⟨h1, h2⟩
        · have hq1 : rd c1 = -1 := rd_no h1
          obtain ⟨y3, Y3⟩ : ∃ y, rd c2 = y := ⟨_, rfl⟩
          clear hr1 hr2
          go_wp2_with (first | (go_at_call 21; refine (digit_any _ _ (by first | exact HC1.out | exact HC2.out)).mono ?_; rintro e w' ⟨rfl, rfl⟩) | (refine wpList_build25 rfl rfl ?_) | (refine wpList_store_row rfl 25 _ _ rfl w.heap.size (fil8 [] 32) rfl rfl 25 (fil8 [] 32) HR.out.1 (by kernel_rfl) (by rfl) all_fil8 ?_))
          (try simp only [Exit.inBlock, Exit.then])
          refine bodyPost_ret (results_row_tmp (p := 2) (q := 3) (ty := 25) rfl _ _ w.heap.size 25 (fil8 [] 32) (0, 0) _ rfl (setRow_heap _ _ _ _ _ _ HR.out.1) Tryd.underlying25 rfl (by kernel_rfl)) rfl ?_
          exact ⟨by rw [HEN.out]; rfl, below_setRow HR.out.2 (Nat.le_refl _) _⟩
        · have hq1 : rd c1 = y1 := hr1 h1
          have hq2 : rd c2 = -1 := rd_no h2
          have dq1 : decide (y1 < 0) = false := by simp; omega
          clear hr1 hr2
          go_wp2_with (first | (go_at_call 21; refine (digit_any _ _ (by first | exact HC1.out | exact HC2.out)).mono ?_; rintro e w' ⟨rfl, rfl⟩) | (refine wpList_build25 rfl rfl ?_) | (refine wpList_store_row rfl 25 _ _ rfl w.heap.size (fil8 [] 32) rfl rfl 25 (fil8 [] 32) HR.out.1 (by kernel_rfl) (by rfl) all_fil8 ?_))
          (try simp only [Exit.inBlock, Exit.then])
          refine bodyPost_ret (results_row_tmp (p := 2) (q := 3) (ty := 25) rfl _ _ w.heap.size 25 (fil8 [] 32) (0, 0) _ rfl (setRow_heap _ _ _ _ _ _ HR.out.1) Tryd.underlying25 rfl (by kernel_rfl)) rfl ?_
          exact ⟨by rw [HEN.out]; rfl, below_setRow HR.out.2 (Nat.le_refl _) _⟩
    · obtain rfl : k = 32 := by omega
      have HEN : Box (rdEnd (nums S) = .returned (.tuple #[.agg (u8s (rdl T 32)), .int .i64 0])) := ⟨by rw [HT.out]; exact rdEnd_yes (allDig_yes (fun i hi => HV.out i (by omega)))⟩
      obtain ⟨X, HX⟩ : ∃ X, Box (rdl T 32 = X) := ⟨_, ⟨rfl⟩⟩
      rw [HX.out] at HEN
      obtain ⟨a1, a2, a3⟩ := HWr.out
      rw [fil8_full _ 32 (length_rdl T 32), HX.out] at a2
      have HF : Box ((u8s X).size = 32 ∧ wr.heap[w.heap.size + 1]? = some (.cells (u8s X) 25 (0, 0)) ∧ wr.heap[w.heap.size]? = some (.cells (fil8 [] 32) 25 (0, 0)) ∧ Below w.heap.size w wr) := ⟨by rw [← HX.out, size_u8s, length_rdl], a2, a1, a3⟩
      clear a1 a2 a3 HWr HV
      go_wp2_with (first | (refine wpList_load_row rfl 25 _ rfl (w.heap.size + 1) rfl 25 (u8s X) (0, 0) _ HF.out.2.1 Tryd.underlying25 rfl (by rw [HF.out.1]; kernel_rfl) ?_) | (refine wpList_store_row rfl 25 _ _ rfl w.heap.size (u8s X) rfl rfl 25 (fil8 [] 32) HF.out.2.2.1 (by rw [HF.out.1]; kernel_rfl) (by rw [HF.out.1]; rfl) (all_u8s X) ?_))
      (try simp only [Exit.inBlock, Exit.then])
      refine bodyPost_ret (results_row_tmp (p := 2) (q := 3) (ty := 25) rfl _ _ w.heap.size 25 (u8s X) (0, 0) _ rfl (setRow_heap _ _ _ _ _ _ HF.out.2.2.1) Tryd.underlying25 rfl (by rw [HF.out.1]; kernel_rfl)) rfl ?_
      exact ⟨by rw [HEN.out]; rfl, below_setRow HF.out.2.2.2 (Nat.le_refl _) _⟩
end Go.Proofs.YteeahghoooiiaaaDoor
