/-
  The Go function WordPads answers true, for every argument within its bounds.
-/
import Derived.Test.YtkbbknbdkbcaeaaF1
import Derived.Test.YtkbbknbdkbcaeaaSeq
namespace Go.Proofs.Ytkbbknbdkbcaeaa
set_option linter.unusedVariables false
open Go.RowKit Plain

theorem pad_all (a : Option Addr) (len cap : Nat) (L : List Int) (n : Int) (N : Nat) (w : World) (hb : Bytes w a len L) (hN : n.toNat = N) (hN2 : N ≤ 3000) :
    Calls Try.prog 18 #[.slice a len cap, .int .i64 n] w fun e w' => ∃ a' cap', e = .returned (.slice a' N cap') ∧ Out w w' a' N cap' (padTo L N) := by
  by_cases h : n < 1
  · obtain rfl : N = 0 := by omega
    refine (pad_no a len cap n w h).mono ?_
    rintro e w' ⟨rfl, rfl⟩
    exact ⟨_, _, rfl, by rw [padTo_zero]; exact Out.nil (Below.refl _ _)⟩
  · obtain rfl : n = (N : Int) := by omega
    refine (pad_ok a len cap L N w hb (by omega) (by omega)).mono ?_
    rintro e w' ⟨g, rfl, ho⟩
    exact ⟨_, _, rfl, ho⟩
theorem out_conv {w w' wx : World} {a : Option Addr} {n cap : Nat} {L : List Int} (h : Out w w' a n cap L) (hL : ∀ i, 0 ≤ L.getD i 0 ∧ L.getD i 0 ≤ 255) (hb : Below w'.heap.size w' wx) {S : ByteArray} (hS : Hid (strOfNums L = S)) : (convert 22 9 (.slice a n cap)).run Try.prog wx = .ok (.string S) wx := by
  rw [← hS.out]; exact conv_bytes ((h.bytes hL).below hb) cap

theorem below_trans {w w1 w2 : World} (h : Below w.heap.size w w1) (k : Below w1.heap.size w1 w2) : Below w.heap.size w w2 := h.trans (k.mono h.size)

set_option maxHeartbeats 1000000 in
theorem pads_in (a b : Option Addr) (len cap len2 cap2 : Nat) (L M : List Int) (n : Int) (w : World) (hb : Bytes w a len L) (hl : len ≤ 3000) (hn : n ≤ 3000) (hm : Nums w b len2 M) (hl2 : len2 ≤ 1000) (s : Int) (ok : Bool) (HA : Hid (addEnd (sumTo M len2) = .returned (.tuple #[.int .u64 s, .bool ok]))) :
    Calls Try.prog 4 #[.slice a len cap, .int .i64 n, .slice b len2 cap2] w fun e w' => e = .returned (.bool true) ∧ Below w.heap.size w w' := by
  obtain ⟨N, hN⟩ : ∃ N, n.toNat = N := ⟨_, rfl⟩
  have h1 : ¬ 3000 < (len : Int) := by omega
  have h2 : ¬ 3000 < n := by omega
  have h3 : ¬ 1000 < (len2 : Int) := by omega
  have hP := padTo_bd L N hb.2.1
  have hlm : len ≤ maxLen := by unfold maxLen; omega
  have HN : Hid (n.toNat = N) := hN
  have hN2 : N ≤ 3000 := by omega
  clear hN
  obtain ⟨S, HS⟩ : ∃ S, Hid (strOfNums (padTo L N) = S) := ⟨_, rfl⟩
  go_enter Try.func4, Try.ntmps4
  go_wp2_with (first | (go_at_call 9; refine (awake_any _).mono ?_; rintro e w1 ⟨rfl, hb1⟩; have hB1 := hb.below hb1; have hM1 := hm.below hb1) | (go_at_call 16; refine (add_any _ _ _ _ _ hM1 (by unfold maxLen; omega)).mono ?_; rintro e w2 ⟨he, rfl⟩; rw [HA.out] at he; subst he) | (go_at_call 17; refine (radd_any _ _ _ _ _ hM1 (by unfold maxLen; omega)).mono ?_; rintro e w2 ⟨he, rfl⟩; rw [HA.out] at he; subst he))
  have hB2 : Bytes w1.drew a len L := hB1
  clear hM1 h1 h2 h3 hl hn hl2 hm hb
  refine Seq.begin_lat (by kernel_rfl) ?_
  refine Seq.take_lat (i := 0) (v := ?_) rfl (by kernel_rfl) (by kernel_rfl) (by kernel_rfl) (fun _ _ _ h => h) (by rfl) ?_ ?_
  rotate_left
  · intro w' hLat; change Below _ _ _ at hLat; go_simp <;> with_reducible rfl
  simp only [Act.put, List.setIfInBounds_toArray, List.set_cons_zero, List.set_cons_succ, List.getElem_toArray, List.getElem_cons_zero]
  refine Seq.take_lat (i := 1) (v := ?_) rfl (by kernel_rfl) (by kernel_rfl) (by kernel_rfl) (fun _ _ _ h => h) (by rfl) ?_ ?_
  rotate_left
  · intro w' hLat; change Below _ _ _ at hLat; go_simp <;> with_reducible rfl
  simp only [Act.put, List.setIfInBounds_toArray, List.set_cons_zero, List.set_cons_succ, List.getElem_toArray, List.getElem_cons_zero, List.getElem_cons_succ]
  refine Seq.take_lat (i := 4) (v := ?_) rfl (by kernel_rfl) (by kernel_rfl) (by kernel_rfl) (fun _ _ _ h => h) (by rfl) ?_ ?_
  rotate_left
  · intro w' hLat; change Below _ _ _ at hLat; go_simp <;> with_reducible rfl
  simp only [Act.put, List.setIfInBounds_toArray, List.set_cons_zero, List.set_cons_succ, List.getElem_toArray, List.getElem_cons_zero, List.getElem_cons_succ]
  refine Seq.take_lat (i := 5) (v := ?_) rfl (by kernel_rfl) (by kernel_rfl) (by kernel_rfl) (fun _ _ _ h => h) (by rfl) ?_ ?_
  rotate_left
  · intro w' hLat; change Below _ _ _ at hLat; go_simp <;> with_reducible rfl
  simp only [Act.put, List.setIfInBounds_toArray, List.set_cons_zero, List.set_cons_succ, List.getElem_toArray, List.getElem_cons_zero, List.getElem_cons_succ]
  refine Seq.only_lat (i := 2) rfl (by kernel_rfl) (fun K hK => ?_)
  go_simp
  refine (pad_all a len cap L n N _ hB2 HN.out hN2).mono ?_
  rintro e w3 ⟨a3, c3, rfl, ho3⟩
  have hc3 := fun wx hbx => out_conv (wx := wx) ho3 hP hbx HS
  have hB3 := hB2.below ho3.2.2
  refine hK.out _ _ ho3.2.2 ?_
  clear hK K
  refine Seq.take_lat (i := 3) (v := ?_) rfl (by kernel_rfl) (by kernel_rfl) (by kernel_rfl) (fun _ _ _ h => h) (by rfl) ?_ ?_
  rotate_left
  · intro w' hLat; change Below _ _ _ at hLat; go_simp <;> with_reducible rfl
  simp only [Act.put, List.setIfInBounds_toArray, List.set_cons_zero, List.set_cons_succ, List.getElem_toArray, List.getElem_cons_zero, List.getElem_cons_succ]
  refine Seq.only_lat (i := 6) rfl (by kernel_rfl) (fun K hK => ?_)
  go_simp
  refine (rpad_any a len cap L n N _ hB3 hlm HN.out hN2).mono ?_
  rintro e w4 ⟨a4, c4, rfl, ho4⟩
  have hc4 := fun wx hbx => out_conv (wx := wx) ho4 hP hbx HS
  refine hK.out _ _ ho4.2.2 ?_
  clear hK K
  refine Seq.take_lat (i := 7) (v := ?_) rfl (by kernel_rfl) (by kernel_rfl) (by kernel_rfl) (fun _ _ _ h => h) (by rfl) ?_ ?_
  rotate_left
  · intro w' hLat; change Below _ _ _ at hLat; go_simp <;> with_reducible rfl
  simp only [Act.put, List.setIfInBounds_toArray, List.set_cons_zero, List.set_cons_succ, List.getElem_toArray, List.getElem_cons_zero, List.getElem_cons_succ]
  refine Seq.take_lat (i := 8) (v := ?_) rfl (by kernel_rfl) (by kernel_rfl) (by kernel_rfl) (fun _ _ _ h => h) (by rfl) ?_ ?_
  rotate_left
  · intro w' hLat; change Below _ _ _ at hLat; go_simp <;> with_reducible rfl
  simp only [Act.put, List.setIfInBounds_toArray, List.set_cons_zero, List.set_cons_succ, List.getElem_toArray, List.getElem_cons_zero, List.getElem_cons_succ]
  refine Seq.take_lat (i := 9) (v := ?_) rfl (by kernel_rfl) (by kernel_rfl) (by kernel_rfl) (fun _ _ _ h => h) (by rfl) ?_ ?_
  rotate_left
  · intro w' hLat; change Below _ _ _ at hLat; go_simp <;> with_reducible rfl
  simp only [Act.put, List.setIfInBounds_toArray, List.set_cons_zero, List.set_cons_succ, List.getElem_toArray, List.getElem_cons_zero, List.getElem_cons_succ]
  refine Seq.take_lat (i := 10) (v := ?_) rfl (by kernel_rfl) (by kernel_rfl) (by kernel_rfl) (fun _ _ _ h => h) (by rfl) ?_ ?_
  rotate_left
  · intro w' hLat; change Below _ _ _ at hLat; go_simp <;> with_reducible rfl
  simp only [Act.put, List.setIfInBounds_toArray, List.set_cons_zero, List.set_cons_succ, List.getElem_toArray, List.getElem_cons_zero, List.getElem_cons_succ]
  refine Seq.take_lat (i := 11) (v := ?_) rfl (by kernel_rfl) (by kernel_rfl) (by kernel_rfl) (fun _ _ _ h => h) (by rfl) ?_ ?_
  rotate_left
  · intro w' hLat; change Below _ _ _ at hLat; go_simp <;> with_reducible rfl
  simp only [Act.put, List.setIfInBounds_toArray, List.set_cons_zero, List.set_cons_succ, List.getElem_toArray, List.getElem_cons_zero, List.getElem_cons_succ]
  refine Seq.take_lat (i := 12) (v := ?_) rfl (by kernel_rfl) (by kernel_rfl) (by kernel_rfl) (fun _ _ _ h => h) (by rfl) ?_ ?_
  rotate_left
  · intro w' hLat; change Below _ _ _ at hLat; go_simp <;> with_reducible rfl
  simp only [Act.put, List.setIfInBounds_toArray, List.set_cons_zero, List.set_cons_succ, List.getElem_toArray, List.getElem_cons_zero, List.getElem_cons_succ]
  refine Seq.take_lat (i := 13) (v := ?_) rfl (by kernel_rfl) (by kernel_rfl) (by kernel_rfl) (fun _ _ _ h => h) (by rfl) ?_ ?_
  rotate_left
  · intro w' hLat; change Below _ _ _ at hLat; go_simp <;> with_reducible rfl
  simp only [Act.put, List.setIfInBounds_toArray, List.set_cons_zero, List.set_cons_succ, List.getElem_toArray, List.getElem_cons_zero, List.getElem_cons_succ]
  refine Seq.take_lat (i := 14) (v := ?_) rfl (by kernel_rfl) (by kernel_rfl) (by kernel_rfl) (fun _ _ _ h => h) (by rfl) ?_ ?_
  rotate_left
  · intro w' hLat; change Below _ _ _ at hLat; go_simp <;> with_reducible rfl
  simp only [Act.put, List.setIfInBounds_toArray, List.set_cons_zero, List.set_cons_succ, List.getElem_toArray, List.getElem_cons_zero, List.getElem_cons_succ]
  refine Seq.take_lat (i := 15) (v := ?_) rfl (by kernel_rfl) (by kernel_rfl) (by kernel_rfl) (fun _ _ _ h => h) (by rfl) ?_ ?_
  rotate_left
  · intro w' hLat; change Below _ _ _ at hLat; go_simp <;> with_reducible rfl
  simp only [Act.put, List.setIfInBounds_toArray, List.set_cons_zero, List.set_cons_succ, List.getElem_toArray, List.getElem_cons_zero, List.getElem_cons_succ]
  refine Seq.take_lat (i := 16) (v := ?_) rfl (by kernel_rfl) (by kernel_rfl) (by kernel_rfl) (fun _ _ _ h => h) (by rfl) ?_ ?_
  rotate_left
  · intro w' hLat; change Below _ _ _ at hLat; go_simp <;> with_reducible rfl
  simp only [Act.put, List.setIfInBounds_toArray, List.set_cons_zero, List.set_cons_succ, List.getElem_toArray, List.getElem_cons_zero, List.getElem_cons_succ]
  refine Seq.take_lat (i := 17) (v := ?_) rfl (by kernel_rfl) (by kernel_rfl) (by kernel_rfl) (fun _ _ _ h => h) (by rfl) ?_ ?_
  rotate_left
  · intro w' hLat; change Below _ _ _ at hLat; go_simp <;> with_reducible rfl
  simp only [Act.put, List.setIfInBounds_toArray, List.set_cons_zero, List.set_cons_succ, List.getElem_toArray, List.getElem_cons_zero, List.getElem_cons_succ]
  refine Seq.take_lat (i := 18) (v := ?_) rfl (by kernel_rfl) (by kernel_rfl) (by kernel_rfl) (fun _ _ _ h => h) (by rfl) ?_ ?_
  rotate_left
  · intro w' hLat; change Below _ _ _ at hLat; go_simp <;> with_reducible rfl
  simp only [Act.put, List.setIfInBounds_toArray, List.set_cons_zero, List.set_cons_succ, List.getElem_toArray, List.getElem_cons_zero, List.getElem_cons_succ]
  refine Seq.take_lat (i := 19) (v := ?_) rfl (by kernel_rfl) (by kernel_rfl) (by kernel_rfl) (fun _ _ _ h => h) (by rfl) ?_ ?_
  rotate_left
  · intro w' hLat; change Below _ _ _ at hLat; go_simp <;> with_reducible rfl
  simp only [Act.put, List.setIfInBounds_toArray, List.set_cons_zero, List.set_cons_succ, List.getElem_toArray, List.getElem_cons_zero, List.getElem_cons_succ]
  refine wpAnyH_done (by kernel_rfl) ?_ _
  go_wp2
  go_ret
  exact ⟨rfl, below_trans (below_trans hb1.drew ho3.2.2) ho4.2.2⟩

set_option maxHeartbeats 400000 in
theorem pads_out (a b : Option Addr) (len cap len2 cap2 : Nat) (n : Int) (w : World) (hl : len ≤ maxLen) (hl2 : len2 ≤ maxLen) (h : 3000 < (len : Int) ∨ 3000 < n ∨ 1000 < (len2 : Int)) :
    Calls Try.prog 4 #[.slice a len cap, .int .i64 n, .slice b len2 cap2] w fun e w' => e = .returned (.bool true) ∧ Below w.heap.size w w' := by
  unfold maxLen at hl hl2
  by_cases h1 : 3000 < (len : Int)
  · clear h
    go_enter Try.func4, Try.ntmps4
    go_wp2_with (go_at_call 9; refine (awake_any _).mono ?_; rintro e w1 ⟨rfl, hb1⟩)
    go_ret
    exact ⟨rfl, hb1⟩
  · by_cases h2 : 3000 < n
    · clear h
      go_enter Try.func4, Try.ntmps4
      go_wp2_with (go_at_call 9; refine (awake_any _).mono ?_; rintro e w1 ⟨rfl, hb1⟩)
      go_ret
      exact ⟨rfl, hb1⟩
    · have h3 : 1000 < (len2 : Int) := by omega
      clear h
      go_enter Try.func4, Try.ntmps4
      go_wp2_with (go_at_call 9; refine (awake_any _).mono ?_; rintro e w1 ⟨rfl, hb1⟩)
      go_ret
      exact ⟨rfl, hb1⟩

end Go.Proofs.Ytkbbknbdkbcaeaa
