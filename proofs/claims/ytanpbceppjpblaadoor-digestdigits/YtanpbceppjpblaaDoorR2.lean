/-
  What the Go function Read of package digest answers, for every text.
-/
import Derived.Test.YtanpbceppjpblaaDoorH1
namespace Go.Proofs.YtanpbceppjpblaaDoor
set_option linter.unusedVariables false
open Go.RowKit Plain

theorem z32 : fil8 [] 32 = #[.int .u8 0, .int .u8 0, .int .u8 0, .int .u8 0, .int .u8 0, .int .u8 0, .int .u8 0, .int .u8 0, .int .u8 0, .int .u8 0, .int .u8 0, .int .u8 0, .int .u8 0, .int .u8 0, .int .u8 0, .int .u8 0, .int .u8 0, .int .u8 0, .int .u8 0, .int .u8 0, .int .u8 0, .int .u8 0, .int .u8 0, .int .u8 0, .int .u8 0, .int .u8 0, .int .u8 0, .int .u8 0, .int .u8 0, .int .u8 0, .int .u8 0, .int .u8 0] := rfl
theorem built25 : (Tryd.prog.built 25 []) = some (fil8 [] 32) := by kernel_rfl
theorem wpList_build25 {ops : Array Oper} {rest : List Oper} {o : Oper} {a : Act} {w : World} {Q : Exit → Act → World → Prop} (hg : o.guard = none) (ho : o.op = .build 25 #[])
    (h : wpList Tryd.prog ops Q rest (a.put o.dst (.agg (fil8 [] 32))) w) : wpList Tryd.prog ops Q (o :: rest) a w := by
  have e : Tryd.prog.built 25 ((#[] : Array (Nat × Operand)).map fun (i, x) => (i, a.eval x)).toList = some (fil8 [] 32) := by
    simpa using built25
  refine wpList_build hg 25 _ ho ?_ ?_
  · rw [e]; rfl
  · rw [e]; exact h
theorem all_fil8 : (fil8 [] 32).all (·.oneCell') = true := all_u8s _

def allDig (T : List Int) : Bool := (List.range 64).all fun i => vo (T.getD i 0)
theorem allDig_yes {T : List Int} (h : ∀ i, i < 64 → vo (T.getD i 0) = true) : allDig T = true := by
  unfold allDig
  rw [List.all_eq_true]
  intro i hi
  exact h i (by simpa using hi)
theorem allDig_no {T : List Int} (i : Nat) (hi : i < 64) (h : vo (T.getD i 0) = false) : allDig T = false := by
  unfold allDig
  rw [List.all_eq_false]
  exact ⟨i, by simpa using hi, by rw [h]; decide⟩
/-- What is read of a text of 64 signs. -/
def rdEnd (T : List Int) : Ending := if allDig T = true then .returned (.tuple #[.agg (u8s (rdl T 32)), .int .i64 0]) else .returned (.tuple #[.agg (fil8 [] 32), .int .i64 11])
theorem rdEnd_yes {T : List Int} (h : allDig T = true) : rdEnd T = .returned (.tuple #[.agg (u8s (rdl T 32)), .int .i64 0]) := if_pos h
theorem rdEnd_no {T : List Int} (h : allDig T = false) : rdEnd T = .returned (.tuple #[.agg (fil8 [] 32), .int .i64 11]) := if_neg (by rw [h]; decide)

set_option maxRecDepth 20000 in
set_option maxHeartbeats 400000 in
theorem read_len (S : ByteArray) (w : World) (h : S.size ≠ 64) (hs : S.size ≤ maxLen) :
    Calls Tryd.prog 15 #[.string S] w fun e w' => e = .returned (.tuple #[.agg (fil8 [] 32), .int .i64 11]) ∧ Below w.heap.size w w' := by
  unfold maxLen at hs
  have h1 : ¬ (S.size : Int) = 64 := by omega
  have h2 : (S.size == 64) = false := by simpa using h
  have HZ : Hid _ := z32
  have HB : Hid (Below w.heap.size w ((w.alloc (.cells (fil8 [] 32) 25)).alloc (.cells (fil8 [] 32) 25))) := ((Below.refl _ _).alloc (Nat.le_refl _) _).alloc (by simp) _
  have HR : Hid (((w.alloc (.cells (fil8 [] 32) 25)).alloc (.cells (fil8 [] 32) 25)).heap[w.heap.size]? = some (.cells (fil8 [] 32) 25 (0, 0))) := al_old (al_at rfl)
  rw [HZ.out] at HB HR
  go_enter Tryd.func15, Tryd.ntmps15
  go_wp2_with (first | (refine wpList_build25 rfl rfl ?_) | (refine wpList_store_row rfl 25 _ _ rfl w.heap.size (fil8 [] 32) rfl rfl 25 _ HR.out (by kernel_rfl) (by rfl) all_fil8 ?_))
  (try simp only [Exit.inBlock, Exit.then])
  refine bodyPost_ret (results_row_tmp (p := 2) (q := 3) (ty := 25) rfl _ _ w.heap.size 25 (fil8 [] 32) (0, 0) _ rfl (setRow_heap _ _ _ _ _ _ HR.out) Tryd.underlying25 rfl (by kernel_rfl)) rfl ?_
  exact ⟨rfl, below_setRow HB.out (Nat.le_refl _) _⟩

set_option maxRecDepth 20000 in
set_option maxHeartbeats 1000000 in
theorem read_dig (S : ByteArray) (w : World) (hs : S.size = 64) :
    Calls Tryd.prog 15 #[.string S] w fun e w' => e = rdEnd (nums S) ∧ Below w.heap.size w w' := by
  obtain ⟨T, HT⟩ : ∃ T, Box (nums S = T) := ⟨_, ⟨rfl⟩⟩
  have hTb : Byt T := by rw [← HT.out]; exact byt_nums S
  have HZ : Hid _ := z32
  have HX : Hid (((w.alloc (.cells (fil8 [] 32) 25)).alloc (.cells (fil8 [] 32) 25)).heap[w.heap.size]? = some (.cells (fil8 [] 32) 25 (0, 0)) ∧ ((w.alloc (.cells (fil8 [] 32) 25)).alloc (.cells (fil8 [] 32) 25)).heap[w.heap.size + 1]? = some (.cells (fil8 (rdl T 0) 32) 25 (0, 0)) ∧ Below w.heap.size w ((w.alloc (.cells (fil8 [] 32) 25)).alloc (.cells (fil8 [] 32) 25))) := ⟨al_old (al_at rfl), al_at (by simp), ((Below.refl _ _).alloc (Nat.le_refl _) _).alloc (by simp) _⟩
  go_enter Tryd.func15, Tryd.ntmps15
  go_wp2
  rw [← HZ.out]
  generalize (w.alloc (.cells (fil8 [] 32) 25)).alloc (.cells (fil8 [] 32) 25) = x0 at HX ⊢
  go_loopw [14] (fun i wr => ∃ k : Nat, k ≤ 32 ∧ i = .int .i64 k ∧ Box (∀ i, i < 2 * k → vo (T.getD i 0) = true) ∧ Hid (wr.heap[w.heap.size]? = some (.cells (fil8 [] 32) 25 (0, 0)) ∧ wr.heap[w.heap.size + 1]? = some (.cells (fil8 (rdl T k) 32) 25 (0, 0)) ∧ Below w.heap.size w wr)) (fun i _ => 32 - (intOf i).toNat)
  case atStart => exact ⟨0, by omega, rfl, ⟨fun i hi => absurd hi (by omega)⟩, HX⟩
  case round =>
    clear HX x0 HZ
    obtain ⟨k, hk, rfl, HV, HWr⟩ := hrel
    by_cases hlt : k < 32
    · have i1 := index_str S .i64 (2 * k) (by omega)
      have i2 := index_str S .i64 (2 * k + 1) (by omega)
      rw [HT.out] at i1 i2
      have hb1 := hTb (2 * k)
      have hb2 := hTb (2 * k + 1)
      have HE : Hid (rdb T k = vd (T.getD (2 * k) 0) * 16 + vd (T.getD (2 * k + 1) 0)) := rfl
      have HV1 : Box (∀ b, vo (T.getD (2 * k) 0) = b → b = false → allDig T = false) := ⟨fun b h h' => allDig_no (2 * k) (by omega) (h.trans h')⟩
      have HV2 : Box (∀ b, vo (T.getD (2 * k + 1) 0) = b → b = false → allDig T = false) := ⟨fun b h h' => allDig_no (2 * k + 1) (by omega) (h.trans h')⟩
      have HVV : Box (vo (T.getD (2 * k) 0) = true → vo (T.getD (2 * k + 1) 0) = true → ∀ i, i < 2 * (k + 1) → vo (T.getD i 0) = true) := ⟨fun h1 h2 i hi => by
        by_cases e1 : i = 2 * k
        · rw [e1]; exact h1
        · by_cases e2 : i = 2 * k + 1
          · rw [e2]; exact h2
          · exact HV.out i (by omega)⟩
      have q1 : ((2 * k : Nat) : Int) = 2 * (k : Int) := by omega
      have q2 : ((2 * k + 1 : Nat) : Int) = 2 * (k : Int) + 1 := by omega
      rw [q1] at i1
      rw [q2] at i2
      clear q1 q2 hTb HV
      generalize T.getD (2 * k) 0 = c1 at i1 hb1 HE HV1 HVV
      generalize T.getD (2 * k + 1) 0 = c2 at i2 hb2 HE HV2 HVV
      have hd1 := vd_bd c1
      have hd2 := vd_bd c2
      have HC1 : Hid (0 ≤ c1 ∧ c1 ≤ 255) := hb1
      have HC2 : Hid (0 ≤ c2 ∧ c2 ≤ 255) := hb2
      clear hb1 hb2
      obtain ⟨y1, Y1⟩ : ∃ y, vd c1 = y := ⟨_, rfl⟩
      obtain ⟨y2, Y2⟩ : ∃ y, vd c2 = y := ⟨_, rfl⟩
      have HOR : Hid (bits .or .u8 (y1 * 16) y2 = rdb T k) := by rw [Hid, HE.out, ← Y1, ← Y2]; exact or_dig _ _ hd1 hd2
      rw [Y1] at hd1
      rw [Y2] at hd2
      obtain ⟨p1, p2⟩ := hd1
      obtain ⟨p3, p4⟩ := hd2
      clear HE
      by_cases hok : vo c1 = true ∧ vo c2 = true
      · obtain ⟨h1, h2⟩ := hok
        have HVT : Box (∀ i, i < 2 * (k + 1) → vo (T.getD i 0) = true) := ⟨HVV.out h1 h2⟩
        have hln := length_rdl T k
        have f1 : wr.frozen? ⟨w.heap.size + 1, k, none⟩ = false := frozen_of_row wr _ _ _ 25 HWr.out.2.1
        obtain ⟨v, hcw⟩ : ∃ v, wr.cell? ⟨w.heap.size + 1, k, none⟩ = some v := by
          obtain ⟨v, hv⟩ := fil8_some (rdl T k) 32 k hlt (by omega)
          exact ⟨v, by rw [cell_of_row _ _ _ _ _ _ HWr.out.2.1]; exact hv⟩
        have HW3 : Hid ((wr.setCell ⟨w.heap.size + 1, k, none⟩ (.int .u8 (rdb T k))).heap[w.heap.size]? = some (.cells (fil8 [] 32) 25 (0, 0)) ∧ (wr.setCell ⟨w.heap.size + 1, k, none⟩ (.int .u8 (rdb T k))).heap[w.heap.size + 1]? = some (.cells (fil8 (rdl T (k + 1)) 32) 25 (0, 0)) ∧ Below w.heap.size w (wr.setCell ⟨w.heap.size + 1, k, none⟩ (.int .u8 (rdb T k)))) := by
          have hoth : ∀ k', k' ≠ w.heap.size + 1 → (wr.setCell ⟨w.heap.size + 1, k, none⟩ (.int .u8 (rdb T k))).heap[k']? = wr.heap[k']? := fun k' hk => heap_setCell_other wr ⟨w.heap.size + 1, k, none⟩ k' _ (fun e => hk e)
          obtain ⟨a1, a2, a3⟩ := HWr.out
          refine ⟨(hoth _ (by omega)).trans a1, ?_, ⟨a3.os, a3.tape, a3.output, by simpa using a3.size, fun k hk => (hoth k (by omega)).trans (a3.block k hk)⟩⟩
          rw [heap_setCell_same wr _ k _ 25 _ a2, rdl, ← fil8_set _ _ _ (by omega), hln]
        clear hln HV1 HV2 HVV HWr
        go_wp2_with (go_at_call 20; refine (value_any _ _ (by first | exact HC1.out | exact HC2.out)).mono ?_; rintro e w' ⟨rfl, rfl⟩)
        go_roundw
        case rel => exact ⟨k + 1, by omega, by go_num, HVT, by rw [HOR.out]; exact HW3⟩
        case measure => simp [intOf]; omega
      · have HNO : Box (allDig T = false) := ⟨by
          cases h1 : vo c1
          · exact HV1.out _ h1 rfl
          · cases h2 : vo c2
            · exact HV2.out _ h2 rfl
            · exact absurd ⟨h1, h2⟩ hok⟩
        have HEN : Box (rdEnd (nums S) = .returned (.tuple #[.agg (fil8 [] 32), .int .i64 11])) := ⟨by rw [HT.out]; exact rdEnd_no HNO.out⟩
        have hp : vo c1 = false ∨ (vo c1 = true ∧ vo c2 = false) := by
          cases h1 : vo c1
          · exact .inl rfl
          · cases h2 : vo c2
            · exact .inr ⟨rfl, rfl⟩
            · exact absurd ⟨h1, h2⟩ hok
        have HR : Hid (wr.heap[w.heap.size]? = some (.cells (fil8 [] 32) 25 (0, 0)) ∧ Below w.heap.size w wr) := ⟨HWr.out.1, HWr.out.2.2⟩
        clear HV1 HV2 HVV HWr hok HNO
        rcases hp with h1 | ⟨h1, h2⟩
        · go_wp2_with (first | (go_at_call 20; refine (value_any _ _ (by first | exact HC1.out | exact HC2.out)).mono ?_; rintro e w' ⟨rfl, rfl⟩) | (refine wpList_build25 rfl rfl ?_) | (refine wpList_store_row rfl 25 _ _ rfl w.heap.size (fil8 [] 32) rfl rfl 25 (fil8 [] 32) HR.out.1 (by kernel_rfl) (by rfl) all_fil8 ?_))
          (try simp only [Exit.inBlock, Exit.then])
          refine bodyPost_ret (results_row_tmp (p := 2) (q := 3) (ty := 25) rfl _ _ w.heap.size 25 (fil8 [] 32) (0, 0) _ rfl (setRow_heap _ _ _ _ _ _ HR.out.1) Tryd.underlying25 rfl (by kernel_rfl)) rfl ?_
          exact ⟨by rw [HEN.out]; rfl, below_setRow HR.out.2 (Nat.le_refl _) _⟩
        · go_wp2_with (first | (go_at_call 20; refine (value_any _ _ (by first | exact HC1.out | exact HC2.out)).mono ?_; rintro e w' ⟨rfl, rfl⟩) | (refine wpList_build25 rfl rfl ?_) | (refine wpList_store_row rfl 25 _ _ rfl w.heap.size (fil8 [] 32) rfl rfl 25 (fil8 [] 32) HR.out.1 (by kernel_rfl) (by rfl) all_fil8 ?_))
          (try simp only [Exit.inBlock, Exit.then])
          refine bodyPost_ret (results_row_tmp (p := 2) (q := 3) (ty := 25) rfl _ _ w.heap.size 25 (fil8 [] 32) (0, 0) _ rfl (setRow_heap _ _ _ _ _ _ HR.out.1) Tryd.underlying25 rfl (by kernel_rfl)) rfl ?_
          exact ⟨by rw [HEN.out]; rfl, below_setRow HR.out.2 (Nat.le_refl _) _⟩
    · obtain rfl : k = 32 := by omega
      have HEN : Box (rdEnd (nums S) = .returned (.tuple #[.agg (u8s (rdl T 32)), .int .i64 0])) := ⟨by rw [HT.out]; exact rdEnd_yes (allDig_yes (fun i hi => HV.out i (by omega)))⟩
      obtain ⟨X, HX⟩ : ∃ X, Box (rdl T 32 = X) := ⟨_, ⟨rfl⟩⟩
      rw [HX.out] at HEN
      obtain ⟨a1, a2, a3⟩ := HWr.out
      rw [fil8_full _ 32 (length_rdl T 32), HX.out] at a2
      have HF : Box ((u8s X).size = 32 ∧ wr.heap[w.heap.size + 1]? = some (.cells (u8s X) 25 (0, 0)) ∧ wr.heap[w.heap.size]? = some (.cells (fil8 [] 32) 25 (0, 0)) ∧ Below w.heap.size w wr) := ⟨by rw [← HX.out, size_u8s, length_rdl], a2, a1, a3⟩
      clear a1 a2 a3 HWr HV
      go_wp2_with (first | (refine wpList_load_row rfl 25 _ rfl (w.heap.size + 1) rfl 25 (u8s X) (0, 0) _ HF.out.2.1 Tryd.underlying25 rfl (by rw [HF.out.1]; kernel_rfl) ?_) | (refine wpList_store_row rfl 25 _ _ rfl w.heap.size (u8s X) rfl rfl 25 (fil8 [] 32) HF.out.2.2.1 (by rw [HF.out.1]; kernel_rfl) (by rw [HF.out.1]; rfl) (all_u8s X) ?_))
      (try simp only [Exit.inBlock, Exit.then])
      refine bodyPost_ret (results_row_tmp (p := 2) (q := 3) (ty := 25) rfl _ _ w.heap.size 25 (u8s X) (0, 0) _ rfl (setRow_heap _ _ _ _ _ _ HF.out.2.2.1) Tryd.underlying25 rfl (by rw [HF.out.1]; kernel_rfl)) rfl ?_
      exact ⟨by rw [HEN.out]; rfl, below_setRow HF.out.2.2.2 (Nat.le_refl _) _⟩
end Go.Proofs.YtanpbceppjpblaaDoor
