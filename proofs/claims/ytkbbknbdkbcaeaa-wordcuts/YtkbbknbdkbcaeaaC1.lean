/-
  The Go function WordCuts answers true, for every argument within its bounds.
-/
import Derived.Test.YtkbbknbdkbcaeaaD1
import Derived.Deep.QuietTactic
import Derived.BigQuiet
namespace Go.Proofs.Ytkbbknbdkbcaeaa
set_option linter.unusedVariables false
open Go.RowKit Plain

theorem bytes_drewN' {w : World} {a : Option Addr} {len : Nat} {L : List Int} (h : Bytes w a len L) (m : Nat) : Bytes (w.drewN m) a len L := h
theorem bytes_drew {w : World} {a : Option Addr} {len : Nat} {L : List Int} (h : Bytes w a len L) : Bytes w.drew a len L := h
theorem getD_padTo (L : List Int) (n i : Nat) (h : i < n) : (padTo L n).getD i 0 = L.getD i 0 := by
  simp only [padTo, List.getD]
  by_cases hi : i < L.length
  · rw [List.getElem?_append_left (by simp; omega), List.getElem?_take, if_pos h]
  · rw [List.getElem?_append_right (by simp; omega), List.getElem?_eq_none (l := L) (by omega)]
    rw [List.getElem?_replicate]
    split <;> rfl
theorem getD_high (L : List Int) (i : Nat) (h : L.length ≤ i) : L.getD i 0 = 0 := by simp only [List.getD, List.getElem?_eq_none h, Option.getD_none]
theorem eq_of_getD (A B : List Int) (n : Nat) (hA : A.length = n) (hB : B.length = n) (h : ∀ i, i < n → A.getD i 0 = B.getD i 0) : A = B := by
  apply List.ext_getElem (by omega)
  intro i h1 h2
  have := h i (by omega)
  simpa only [List.getD, List.getElem?_eq_getElem h1, List.getElem?_eq_getElem h2, Option.getD_some] using this
theorem pad_pad (L : List Int) (k j l : Nat) (hl : l = min k j) : padTo (padTo L k) j = padTo (padTo L l) j := by
  refine eq_of_getD _ _ j (length_padTo _ _) (length_padTo _ _) (fun i hi => ?_)
  rw [getD_padTo _ j i hi, getD_padTo _ j i hi]
  by_cases h : i < k
  · rw [getD_padTo L k i h, getD_padTo L l i (by omega)]
  · rw [getD_high _ i (by rw [length_padTo]; omega), getD_high _ i (by rw [length_padTo]; omega)]

set_option maxHeartbeats 1000000 in
theorem cuts_in (a : Option Addr) (len cap : Nat) (L : List Int) (n m : Int) (k j : Nat) (w : World) (hb : Bytes w a len L) (hl : len ≤ 1000) (hn : 0 ≤ n ∧ n ≤ 65535) (hm : 0 ≤ m ∧ m ≤ 65535) (hk : n % 400 = (k : Int)) (hj : m % 400 = (j : Int)) :
    Calls Try.prog 8 #[.slice a len cap, .int .u16 n, .int .u16 m] w fun e w' => e = .returned (.bool true) ∧ Below w.heap.size w w' := by
  have hk4 : k < 400 := by omega
  have hj4 : j < 400 := by omega
  have hP := padTo_bd L k hb.2.1
  have hlm : len ≤ maxLen := by unfold maxLen; omega
  have h1 : ¬ 1000 < (len : Int) := by omega
  go_enter Try.func8, Try.ntmps8
  go_wp2_with (first | (go_at_call 9; refine (awake_any _).mono ?_; rintro e w1 ⟨rfl, hb1⟩; have hB1 := hb.below hb1) | (go_at_call 18; refine (pad_all a len cap L _ k _ hB1 (by omega) (by omega)).mono ?_; rintro e w2 ⟨ap, cp, rfl, ho⟩))
  have hBP2 := ho.bytes hP
  have hBB2 := hB1.below ho.2.2
  have hbel2 := below_trans hb1 ho.2.2
  clear ho hB1 hb1
  go_loopw [11] (fun i wr => ∃ t : Nat, t ≤ k ∧ i = .int .i64 t ∧ Bytes wr a len L ∧ Bytes wr ap k (padTo L k) ∧ Below w.heap.size w wr) (fun i _ => k - (intOf i).toNat)
  case atStart => exact ⟨0, Nat.zero_le _, rfl, hBB2, hBP2, hbel2⟩
  case round =>
    obtain ⟨t, ht, rfl, hBB, hBP, hbel⟩ := hrel
    clear hBB2 hBP2 hbel2
    by_cases hlt : t < k
    · obtain ⟨bp, op, rfl, hpl, hpc⟩ := hBP.2.2 (by omega)
      have hcp := hpc t hlt
      have hg := getD_padTo L k t hlt
      rw [hg] at hcp
      have hpt := hBP
      by_cases hin : t < len
      · obtain ⟨bb, ob, rfl, hbl, hbc⟩ := hBB.2.2 (by omega)
        have hcb := hbc t hin
        generalize L.getD t 0 = z at hcp hcb
        have hi1 : (t : Int) < (len : Int) := by omega
        have hi2 : (t : Int) < (k : Int) := by omega
        have hi0 : (0 : Int) ≤ (t : Int) := by omega
        have hi3 : decide (len ≤ t) = false := by simp; omega
        clear hg hpc hbc
        go_wp2
        go_quiet (fail)
        go_wp2
        go_roundw
        case rel => exact ⟨t + 1, by omega, by go_num, bytes_drewN' hBB nq, bytes_drewN' hBP nq, below_drewN hbel nq⟩
        case measure => simp [intOf]; omega
      · have hz := getD_high L t (by have := hBB.1; omega)
        rw [hz] at hcp
        have hi1 : decide ((t : Int) < (len : Int)) = false := by simp; omega
        have hi2 : (t : Int) < (k : Int) := by omega
        have hi0 : (0 : Int) ≤ (t : Int) := by omega
        have hi3 : (len : Int) ≤ (t : Int) := by omega
        clear hg hpc
        go_wp2
        go_quiet (fail)
        go_wp2
        go_roundw
        case rel => exact ⟨t + 1, by omega, by go_num, bytes_drewN' hBB nq, bytes_drewN' hBP nq, below_drewN hbel nq⟩
        case measure => simp [intOf]; omega
    · obtain rfl : t = k := by omega
      have hQ1 := padTo_bd (padTo L t) j hBP.2.1
      by_cases hjk : j < t
      · have hQ3 := padTo_bd L j hBB.2.1
        have hQ2 := padTo_bd (padTo L j) j hQ3
        obtain ⟨S, HS1⟩ : ∃ S, Hid (strOfNums (padTo (padTo L t) j) = S) := ⟨_, rfl⟩
        have HS2 : Hid (strOfNums (padTo (padTo L j) j) = S) := by rw [← pad_pad L t j j (by omega)]; exact HS1
        clear hk hj hn hm hP hb
        go_wp2
        refine Seq.begin_lat (by kernel_rfl) ?_
        refine Seq.take_lat (i := 0) (v := ?_) rfl (by kernel_rfl) (by kernel_rfl) (by kernel_rfl) (fun _ _ _ h => h) (by rfl) ?_ ?_
        rotate_left
        · intro w' hLat; change Below _ _ _ at hLat; go_simp <;> with_reducible rfl
        simp only [Act.put, List.setIfInBounds_toArray, List.set_cons_zero, List.set_cons_succ, List.getElem_toArray, List.getElem_cons_zero]
        refine Seq.take_lat (i := 1) (v := ?_) rfl (by kernel_rfl) (by kernel_rfl) (by kernel_rfl) (fun _ _ _ h => h) (by rfl) ?_ ?_
        rotate_left
        · intro w' hLat; change Below _ _ _ at hLat; go_simp <;> with_reducible rfl
        simp only [Act.put, List.setIfInBounds_toArray, List.set_cons_zero, List.set_cons_succ, List.getElem_toArray, List.getElem_cons_zero, List.getElem_cons_succ]
        refine Seq.take_lat (i := 4) (v := ?_) rfl (by kernel_rfl) (by kernel_rfl) (by kernel_rfl) (fun _ _ _ h => h) (by rfl) ?_ ?_
        rotate_left
        · intro w' hLat; change Below _ _ _ at hLat; go_simp <;> with_reducible rfl
        simp only [Act.put, List.setIfInBounds_toArray, List.set_cons_zero, List.set_cons_succ, List.getElem_toArray, List.getElem_cons_zero, List.getElem_cons_succ]
        refine Seq.take_lat (i := 5) (v := ?_) rfl (by kernel_rfl) (by kernel_rfl) (by kernel_rfl) (fun _ _ _ h => h) (by rfl) ?_ ?_
        rotate_left
        · intro w' hLat; change Below _ _ _ at hLat; go_simp <;> with_reducible rfl
        simp only [Act.put, List.setIfInBounds_toArray, List.set_cons_zero, List.set_cons_succ, List.getElem_toArray, List.getElem_cons_zero, List.getElem_cons_succ]
        refine Seq.take_lat (i := 7) (v := ?_) rfl (by kernel_rfl) (by kernel_rfl) (by kernel_rfl) (fun _ _ _ h => h) (by rfl) ?_ ?_
        rotate_left
        · intro w' hLat; change Below _ _ _ at hLat; go_simp <;> with_reducible rfl
        simp only [Act.put, List.setIfInBounds_toArray, List.set_cons_zero, List.set_cons_succ, List.getElem_toArray, List.getElem_cons_zero, List.getElem_cons_succ]
        refine Seq.only_lat (i := 2) rfl (by kernel_rfl) (fun K hK => ?_)
        go_simp
        refine (pad_all ap t cp (padTo L t) _ j _ (bytes_drew hBP) (by omega) (by omega)).mono ?_
        rintro e w4 ⟨a4, c4, rfl, ho4⟩
        have hc4 := fun wx hbx => out_conv (wx := wx) ho4 hQ1 hbx HS1
        have hB4 := (bytes_drew hBB).below ho4.2.2
        refine hK.out _ _ ho4.2.2 ?_
        clear hK K
        refine Seq.take_lat (i := 3) (v := ?_) rfl (by kernel_rfl) (by kernel_rfl) (by kernel_rfl) (fun _ _ _ h => h) (by rfl) ?_ ?_
        rotate_left
        · intro w' hLat; change Below _ _ _ at hLat; go_simp <;> with_reducible rfl
        simp only [Act.put, List.setIfInBounds_toArray, List.set_cons_zero, List.set_cons_succ, List.getElem_toArray, List.getElem_cons_zero, List.getElem_cons_succ]
        refine Seq.only_lat (i := 6) rfl (by kernel_rfl) (fun K hK => ?_)
        go_simp
        refine (pad_all a len cap L _ j _ hB4 (by omega) (by omega)).mono ?_
        rintro e w5 ⟨a5, c5, rfl, ho5⟩
        have hB5 := ho5.bytes hQ3
        refine hK.out _ _ ho5.2.2 ?_
        clear hK K
        refine Seq.only_lat (i := 8) rfl (by kernel_rfl) (fun K hK => ?_)
        go_simp
        refine (pad_all a5 j c5 (padTo L j) _ j _ hB5 (by omega) (by omega)).mono ?_
        rintro e w6 ⟨a6, c6, rfl, ho6⟩
        have hc6 := fun wx hbx => out_conv (wx := wx) ho6 hQ2 hbx HS2
        refine hK.out _ _ ho6.2.2 ?_
        clear hK K
        refine Seq.take_lat (i := 9) (v := ?_) rfl (by kernel_rfl) (by kernel_rfl) (by kernel_rfl) (fun _ _ _ h => h) (by rfl) ?_ ?_
        rotate_left
        · intro w' hLat; change Below _ _ _ at hLat; go_simp <;> with_reducible rfl
        simp only [Act.put, List.setIfInBounds_toArray, List.set_cons_zero, List.set_cons_succ, List.getElem_toArray, List.getElem_cons_zero, List.getElem_cons_succ]
        refine Seq.take_lat (i := 10) (v := ?_) rfl (by kernel_rfl) (by kernel_rfl) (by kernel_rfl) (fun _ _ _ h => h) (by rfl) ?_ ?_
        rotate_left
        · intro w' hLat; change Below _ _ _ at hLat; go_simp <;> with_reducible rfl
        simp only [Act.put, List.setIfInBounds_toArray, List.set_cons_zero, List.set_cons_succ, List.getElem_toArray, List.getElem_cons_zero, List.getElem_cons_succ]
        refine Seq.take_lat (i := 11) (v := ?_) rfl (by kernel_rfl) (by kernel_rfl) (by kernel_rfl) (fun _ _ _ h => h) (by rfl) ?_ ?_
        rotate_left
        · intro w' hLat; change Below _ _ _ at hLat; go_simp <;> with_reducible rfl
        simp only [Act.put, List.setIfInBounds_toArray, List.set_cons_zero, List.set_cons_succ, List.getElem_toArray, List.getElem_cons_zero, List.getElem_cons_succ]
        refine wpAnyH_done (by kernel_rfl) ?_ _
        go_wp2
        go_ret
        exact ⟨rfl, below_trans (below_trans (below_trans hbel.drew ho4.2.2) ho5.2.2) ho6.2.2⟩
      · have hQ3 := hBP.2.1
        obtain ⟨S, HS1⟩ : ∃ S, Hid (strOfNums (padTo (padTo L t) j) = S) := ⟨_, rfl⟩
        have hQ2 := hQ1
        have HS2 := HS1
        clear hk hj hn hm hP hb
        go_wp2
        refine Seq.begin_lat (by kernel_rfl) ?_
        refine Seq.take_lat (i := 0) (v := ?_) rfl (by kernel_rfl) (by kernel_rfl) (by kernel_rfl) (fun _ _ _ h => h) (by rfl) ?_ ?_
        rotate_left
        · intro w' hLat; change Below _ _ _ at hLat; go_simp <;> with_reducible rfl
        simp only [Act.put, List.setIfInBounds_toArray, List.set_cons_zero, List.set_cons_succ, List.getElem_toArray, List.getElem_cons_zero]
        refine Seq.take_lat (i := 1) (v := ?_) rfl (by kernel_rfl) (by kernel_rfl) (by kernel_rfl) (fun _ _ _ h => h) (by rfl) ?_ ?_
        rotate_left
        · intro w' hLat; change Below _ _ _ at hLat; go_simp <;> with_reducible rfl
        simp only [Act.put, List.setIfInBounds_toArray, List.set_cons_zero, List.set_cons_succ, List.getElem_toArray, List.getElem_cons_zero, List.getElem_cons_succ]
        refine Seq.take_lat (i := 4) (v := ?_) rfl (by kernel_rfl) (by kernel_rfl) (by kernel_rfl) (fun _ _ _ h => h) (by rfl) ?_ ?_
        rotate_left
        · intro w' hLat; change Below _ _ _ at hLat; go_simp <;> with_reducible rfl
        simp only [Act.put, List.setIfInBounds_toArray, List.set_cons_zero, List.set_cons_succ, List.getElem_toArray, List.getElem_cons_zero, List.getElem_cons_succ]
        refine Seq.take_lat (i := 5) (v := ?_) rfl (by kernel_rfl) (by kernel_rfl) (by kernel_rfl) (fun _ _ _ h => h) (by rfl) ?_ ?_
        rotate_left
        · intro w' hLat; change Below _ _ _ at hLat; go_simp <;> with_reducible rfl
        simp only [Act.put, List.setIfInBounds_toArray, List.set_cons_zero, List.set_cons_succ, List.getElem_toArray, List.getElem_cons_zero, List.getElem_cons_succ]
        refine Seq.take_lat (i := 7) (v := ?_) rfl (by kernel_rfl) (by kernel_rfl) (by kernel_rfl) (fun _ _ _ h => h) (by rfl) ?_ ?_
        rotate_left
        · intro w' hLat; change Below _ _ _ at hLat; go_simp <;> with_reducible rfl
        simp only [Act.put, List.setIfInBounds_toArray, List.set_cons_zero, List.set_cons_succ, List.getElem_toArray, List.getElem_cons_zero, List.getElem_cons_succ]
        refine Seq.only_lat (i := 2) rfl (by kernel_rfl) (fun K hK => ?_)
        go_simp
        refine (pad_all ap t cp (padTo L t) _ j _ (bytes_drew hBP) (by omega) (by omega)).mono ?_
        rintro e w4 ⟨a4, c4, rfl, ho4⟩
        have hc4 := fun wx hbx => out_conv (wx := wx) ho4 hQ1 hbx HS1
        have hB4 := (bytes_drew hBB).below ho4.2.2
        refine hK.out _ _ ho4.2.2 ?_
        clear hK K
        refine Seq.take_lat (i := 3) (v := ?_) rfl (by kernel_rfl) (by kernel_rfl) (by kernel_rfl) (fun _ _ _ h => h) (by rfl) ?_ ?_
        rotate_left
        · intro w' hLat; change Below _ _ _ at hLat; go_simp <;> with_reducible rfl
        simp only [Act.put, List.setIfInBounds_toArray, List.set_cons_zero, List.set_cons_succ, List.getElem_toArray, List.getElem_cons_zero, List.getElem_cons_succ]
        refine Seq.only_lat (i := 6) rfl (by kernel_rfl) (fun K hK => ?_)
        go_simp
        refine (pad_all a len cap L _ t _ hB4 (by omega) (by omega)).mono ?_
        rintro e w5 ⟨a5, c5, rfl, ho5⟩
        have hB5 := ho5.bytes hQ3
        refine hK.out _ _ ho5.2.2 ?_
        clear hK K
        refine Seq.only_lat (i := 8) rfl (by kernel_rfl) (fun K hK => ?_)
        go_simp
        refine (pad_all a5 t c5 (padTo L t) _ j _ hB5 (by omega) (by omega)).mono ?_
        rintro e w6 ⟨a6, c6, rfl, ho6⟩
        have hc6 := fun wx hbx => out_conv (wx := wx) ho6 hQ2 hbx HS2
        refine hK.out _ _ ho6.2.2 ?_
        clear hK K
        refine Seq.take_lat (i := 9) (v := ?_) rfl (by kernel_rfl) (by kernel_rfl) (by kernel_rfl) (fun _ _ _ h => h) (by rfl) ?_ ?_
        rotate_left
        · intro w' hLat; change Below _ _ _ at hLat; go_simp <;> with_reducible rfl
        simp only [Act.put, List.setIfInBounds_toArray, List.set_cons_zero, List.set_cons_succ, List.getElem_toArray, List.getElem_cons_zero, List.getElem_cons_succ]
        refine Seq.take_lat (i := 10) (v := ?_) rfl (by kernel_rfl) (by kernel_rfl) (by kernel_rfl) (fun _ _ _ h => h) (by rfl) ?_ ?_
        rotate_left
        · intro w' hLat; change Below _ _ _ at hLat; go_simp <;> with_reducible rfl
        simp only [Act.put, List.setIfInBounds_toArray, List.set_cons_zero, List.set_cons_succ, List.getElem_toArray, List.getElem_cons_zero, List.getElem_cons_succ]
        refine Seq.take_lat (i := 11) (v := ?_) rfl (by kernel_rfl) (by kernel_rfl) (by kernel_rfl) (fun _ _ _ h => h) (by rfl) ?_ ?_
        rotate_left
        · intro w' hLat; change Below _ _ _ at hLat; go_simp <;> with_reducible rfl
        simp only [Act.put, List.setIfInBounds_toArray, List.set_cons_zero, List.set_cons_succ, List.getElem_toArray, List.getElem_cons_zero, List.getElem_cons_succ]
        refine wpAnyH_done (by kernel_rfl) ?_ _
        go_wp2
        go_ret
        exact ⟨rfl, below_trans (below_trans (below_trans hbel.drew ho4.2.2) ho5.2.2) ho6.2.2⟩

set_option maxHeartbeats 400000 in
theorem cuts_out (a : Option Addr) (len cap : Nat) (n m : Int) (w : World) (hl : len ≤ maxLen) (h : 1000 < (len : Int)) (hn : 0 ≤ n ∧ n ≤ 65535) (hm : 0 ≤ m ∧ m ≤ 65535) :
    Calls Try.prog 8 #[.slice a len cap, .int .u16 n, .int .u16 m] w fun e w' => e = .returned (.bool true) ∧ Below w.heap.size w w' := by
  unfold maxLen at hl
  go_enter Try.func8, Try.ntmps8
  go_wp2_with (go_at_call 9; refine (awake_any _).mono ?_; rintro e w1 ⟨rfl, hb1⟩)
  go_ret
  exact ⟨rfl, hb1⟩

end Go.Proofs.Ytkbbknbdkbcaeaa
