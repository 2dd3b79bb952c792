/-
  The Go function WordNumbers answers true, for every argument within its bounds.
-/
import Derived.Test.YtkbbknbdkbcaeaaF3
import Derived.Test.YtkbbknbdkbcaeaaSeq
namespace Go.Proofs.Ytkbbknbdkbcaeaa
set_option linter.unusedVariables false
open Go.RowKit Plain

theorem outs_conv {w w' wx : World} {a : Option Addr} {n cap : Nat} {L : List Int} (h : Out w w' a n cap L) (hL : ∀ i, 0 ≤ L.getD i 0 ∧ L.getD i 0 ≤ 255) (hb : Below w'.heap.size w' wx) {S : ByteArray} (hS : Hid (strOfNums L = S)) : (convert 22 9 (.slice a n cap)).run Try.prog wx = .ok (.string S) wx := by
  rw [← hS.out]; exact conv_bytes ((h.bytes hL).below hb) cap
theorem bel_trans {w w1 w2 : World} (h : Below w.heap.size w w1) (k : Below w1.heap.size w1 w2) : Below w.heap.size w w2 := h.trans (k.mono h.size)

set_option maxHeartbeats 2000000 in
theorem numbers_in (a : Option Addr) (len cap : Nat) (L : List Int) (p n x : Int) (w : World) (hb : Bytes w a len L) (hl : len ≤ 3000) (y er : Int) (l1 l2 : Nat) (X Z : List Int)
    (hX : ∀ i, 0 ≤ X.getD i 0 ∧ X.getD i 0 ≤ 255) (hZ : ∀ i, 0 ≤ Z.getD i 0 ∧ Z.getD i 0 ≤ 255)
    (hget : ∀ W, Bytes W a len L → Calls Try.prog 10 #[.slice a len cap, .int .i64 p, .int .i64 n] W fun e w' => e = .returned (.tuple #[.int .u64 y, .int .i64 er]) ∧ W = w')
    (hrget : ∀ W, Bytes W a len L → Calls Try.prog 11 #[.slice a len cap, .int .i64 p, .int .i64 n] W fun e w' => e = .returned (.tuple #[.int .u64 y, .int .i64 er]) ∧ W = w')
    (hset : ∀ W, Bytes W a len L → Calls Try.prog 12 #[.slice a len cap, .int .i64 p, .int .i64 n, .int .u64 x] W fun e w' => ∃ a' c', e = .returned (.tuple #[.slice a' l1 c', .int .i64 er]) ∧ Out W w' a' l1 c' X)
    (hrset : ∀ W, Bytes W a len L → Calls Try.prog 13 #[.slice a len cap, .int .i64 p, .int .i64 n, .int .u64 x] W fun e w' => ∃ a' c', e = .returned (.tuple #[.slice a' l1 c', .int .i64 er]) ∧ Out W w' a' l1 c' X)
    (hput : ∀ W, Calls Try.prog 14 #[.int .u64 x, .int .i64 n] W fun e w' => ∃ a' c', e = .returned (.slice a' l2 c') ∧ Out W w' a' l2 c' Z)
    (hrput : ∀ W, Calls Try.prog 15 #[.int .u64 x, .int .i64 n] W fun e w' => ∃ a' c', e = .returned (.slice a' l2 c') ∧ Out W w' a' l2 c' Z) :
    Calls Try.prog 3 #[.slice a len cap, .int .i64 p, .int .i64 n, .int .u64 x] w fun e w' => e = .returned (.bool true) ∧ Below w.heap.size w w' := by
  have h3 : ¬ 3000 < (len : Int) := by omega
  obtain ⟨S1, HS1⟩ : ∃ S, Hid (strOfNums X = S) := ⟨_, rfl⟩
  obtain ⟨S2, HS2⟩ : ∃ S, Hid (strOfNums Z = S) := ⟨_, rfl⟩
  go_enter Try.func3, Try.ntmps3
  go_wp2_with (first | (go_at_call 9; refine (awake_any _).mono ?_; rintro e w1 ⟨rfl, hb1⟩; have hB1 := hb.below hb1) | (go_at_call 10; refine (hget _ hB1).mono ?_; rintro e w' ⟨rfl, rfl⟩) | (go_at_call 11; refine (hrget _ hB1).mono ?_; rintro e w' ⟨rfl, rfl⟩) | (go_at_call 12; refine (hset _ hB1).mono ?_; rintro e w2 ⟨a2, c2, rfl, ho2⟩; have hB2 := hB1.below ho2.2.2) | (go_at_call 13; refine (hrset _ hB2).mono ?_; rintro e w3 ⟨a3, c3, rfl, ho3⟩))
  have hbel3 := bel_trans (bel_trans hb1 ho2.2.2) ho3.2.2
  have hyy : (y == y) = true := by simp
  have hee : (er == er) = true := by simp
  clear hB1 hB2 hb1 hget hrget hset hrset hb h3 hl
  refine Seq.begin_any (by kernel_rfl) (fun wd hd => ?_)
  have hc2 := fun wx hbx => outs_conv (wx := wx) ho2 hX (bel_trans (bel_trans ho3.2.2 hd) hbx) HS1
  have hc3 := fun wx hbx => outs_conv (wx := wx) ho3 hX (bel_trans hd hbx) HS1
  have hbd := bel_trans hbel3 hd
  clear hd hbel3
  refine Seq.take_lat (i := 0) (v := ?_) rfl (by kernel_rfl) (by kernel_rfl) (by kernel_rfl) (fun _ _ _ h => h) (by rfl) ?_ ?_
  rotate_left
  · intro w' hLat; change Below _ _ _ at hLat; go_simp <;> with_reducible rfl
  simp only [Act.put, List.setIfInBounds_toArray, List.set_cons_zero, List.set_cons_succ, List.getElem_toArray, List.getElem_cons_zero]
  refine Seq.take_lat (i := 1) (v := ?_) rfl (by kernel_rfl) (by kernel_rfl) (by kernel_rfl) (fun _ _ _ h => h) (by rfl) ?_ ?_
  rotate_left
  · intro w' hLat; change Below _ _ _ at hLat; go_simp <;> with_reducible rfl
  simp only [Act.put, List.setIfInBounds_toArray, List.set_cons_zero, List.set_cons_succ, List.getElem_toArray, List.getElem_cons_zero, List.getElem_cons_succ]
  refine Seq.take_lat (i := 2) (v := ?_) rfl (by kernel_rfl) (by kernel_rfl) (by kernel_rfl) (fun _ _ _ h => h) (by rfl) ?_ ?_
  rotate_left
  · intro w' hLat; change Below _ _ _ at hLat; go_simp <;> with_reducible rfl
  simp only [Act.put, List.setIfInBounds_toArray, List.set_cons_zero, List.set_cons_succ, List.getElem_toArray, List.getElem_cons_zero, List.getElem_cons_succ]
  refine Seq.take_lat (i := 3) (v := ?_) rfl (by kernel_rfl) (by kernel_rfl) (by kernel_rfl) (fun _ _ _ h => h) (by rfl) ?_ ?_
  rotate_left
  · intro w' hLat; change Below _ _ _ at hLat; go_simp <;> with_reducible rfl
  simp only [Act.put, List.setIfInBounds_toArray, List.set_cons_zero, List.set_cons_succ, List.getElem_toArray, List.getElem_cons_zero, List.getElem_cons_succ]
  refine Seq.take_lat (i := 4) (v := ?_) rfl (by kernel_rfl) (by kernel_rfl) (by kernel_rfl) (fun _ _ _ h => h) (by rfl) ?_ ?_
  rotate_left
  · intro w' hLat; change Below _ _ _ at hLat; go_simp <;> with_reducible rfl
  simp only [Act.put, List.setIfInBounds_toArray, List.set_cons_zero, List.set_cons_succ, List.getElem_toArray, List.getElem_cons_zero, List.getElem_cons_succ]
  refine Seq.take_lat (i := 5) (v := ?_) rfl (by kernel_rfl) (by kernel_rfl) (by kernel_rfl) (fun _ _ _ h => h) (by rfl) ?_ ?_
  rotate_left
  · intro w' hLat; change Below _ _ _ at hLat; go_simp <;> with_reducible rfl
  simp only [Act.put, List.setIfInBounds_toArray, List.set_cons_zero, List.set_cons_succ, List.getElem_toArray, List.getElem_cons_zero, List.getElem_cons_succ]
  refine Seq.take_lat (i := 6) (v := ?_) rfl (by kernel_rfl) (by kernel_rfl) (by kernel_rfl) (fun _ _ _ h => h) (by rfl) ?_ ?_
  rotate_left
  · intro w' hLat; change Below _ _ _ at hLat; go_simp <;> with_reducible rfl
  simp only [Act.put, List.setIfInBounds_toArray, List.set_cons_zero, List.set_cons_succ, List.getElem_toArray, List.getElem_cons_zero, List.getElem_cons_succ]
  refine Seq.take_lat (i := 7) (v := ?_) rfl (by kernel_rfl) (by kernel_rfl) (by kernel_rfl) (fun _ _ _ h => h) (by rfl) ?_ ?_
  rotate_left
  · intro w' hLat; change Below _ _ _ at hLat; go_simp <;> with_reducible rfl
  simp only [Act.put, List.setIfInBounds_toArray, List.set_cons_zero, List.set_cons_succ, List.getElem_toArray, List.getElem_cons_zero, List.getElem_cons_succ]
  refine Seq.take_lat (i := 8) (v := ?_) rfl (by kernel_rfl) (by kernel_rfl) (by kernel_rfl) (fun _ _ _ h => h) (by rfl) ?_ ?_
  rotate_left
  · intro w' hLat; change Below _ _ _ at hLat; go_simp <;> with_reducible rfl
  simp only [Act.put, List.setIfInBounds_toArray, List.set_cons_zero, List.set_cons_succ, List.getElem_toArray, List.getElem_cons_zero, List.getElem_cons_succ]
  refine Seq.take_lat (i := 9) (v := ?_) rfl (by kernel_rfl) (by kernel_rfl) (by kernel_rfl) (fun _ _ _ h => h) (by rfl) ?_ ?_
  rotate_left
  · intro w' hLat; change Below _ _ _ at hLat; go_simp <;> with_reducible rfl
  simp only [Act.put, List.setIfInBounds_toArray, List.set_cons_zero, List.set_cons_succ, List.getElem_toArray, List.getElem_cons_zero, List.getElem_cons_succ]
  refine Seq.take_lat (i := 10) (v := ?_) rfl (by kernel_rfl) (by kernel_rfl) (by kernel_rfl) (fun _ _ _ h => h) (by rfl) ?_ ?_
  rotate_left
  · intro w' hLat; change Below _ _ _ at hLat; go_simp <;> with_reducible rfl
  simp only [Act.put, List.setIfInBounds_toArray, List.set_cons_zero, List.set_cons_succ, List.getElem_toArray, List.getElem_cons_zero, List.getElem_cons_succ]
  refine Seq.take_lat (i := 11) (v := ?_) rfl (by kernel_rfl) (by kernel_rfl) (by kernel_rfl) (fun _ _ _ h => h) (by rfl) ?_ ?_
  rotate_left
  · intro w' hLat; change Below _ _ _ at hLat; go_simp <;> with_reducible rfl
  simp only [Act.put, List.setIfInBounds_toArray, List.set_cons_zero, List.set_cons_succ, List.getElem_toArray, List.getElem_cons_zero, List.getElem_cons_succ]
  refine Seq.take_lat (i := 12) (v := ?_) rfl (by kernel_rfl) (by kernel_rfl) (by kernel_rfl) (fun _ _ _ h => h) (by rfl) ?_ ?_
  rotate_left
  · intro w' hLat; change Below _ _ _ at hLat; go_simp <;> with_reducible rfl
  simp only [Act.put, List.setIfInBounds_toArray, List.set_cons_zero, List.set_cons_succ, List.getElem_toArray, List.getElem_cons_zero, List.getElem_cons_succ]
  refine Seq.take_lat (i := 13) (v := ?_) rfl (by kernel_rfl) (by kernel_rfl) (by kernel_rfl) (fun _ _ _ h => h) (by rfl) ?_ ?_
  rotate_left
  · intro w' hLat; change Below _ _ _ at hLat; go_simp <;> with_reducible rfl
  simp only [Act.put, List.setIfInBounds_toArray, List.set_cons_zero, List.set_cons_succ, List.getElem_toArray, List.getElem_cons_zero, List.getElem_cons_succ]
  refine Seq.take_lat (i := 14) (v := ?_) rfl (by kernel_rfl) (by kernel_rfl) (by kernel_rfl) (fun _ _ _ h => h) (by rfl) ?_ ?_
  rotate_left
  · intro w' hLat; change Below _ _ _ at hLat; go_simp <;> with_reducible rfl
  simp only [Act.put, List.setIfInBounds_toArray, List.set_cons_zero, List.set_cons_succ, List.getElem_toArray, List.getElem_cons_zero, List.getElem_cons_succ]
  refine Seq.take_lat (i := 15) (v := ?_) rfl (by kernel_rfl) (by kernel_rfl) (by kernel_rfl) (fun _ _ _ h => h) (by rfl) ?_ ?_
  rotate_left
  · intro w' hLat; change Below _ _ _ at hLat; go_simp <;> with_reducible rfl
  simp only [Act.put, List.setIfInBounds_toArray, List.set_cons_zero, List.set_cons_succ, List.getElem_toArray, List.getElem_cons_zero, List.getElem_cons_succ]
  refine Seq.take_lat (i := 16) (v := ?_) rfl (by kernel_rfl) (by kernel_rfl) (by kernel_rfl) (fun _ _ _ h => h) (by rfl) ?_ ?_
  rotate_left
  · intro w' hLat; change Below _ _ _ at hLat; go_simp <;> with_reducible rfl
  simp only [Act.put, List.setIfInBounds_toArray, List.set_cons_zero, List.set_cons_succ, List.getElem_toArray, List.getElem_cons_zero, List.getElem_cons_succ]
  refine Seq.take_lat (i := 17) (v := ?_) rfl (by kernel_rfl) (by kernel_rfl) (by kernel_rfl) (fun _ _ _ h => h) (by rfl) ?_ ?_
  rotate_left
  · intro w' hLat; change Below _ _ _ at hLat; go_simp <;> with_reducible rfl
  simp only [Act.put, List.setIfInBounds_toArray, List.set_cons_zero, List.set_cons_succ, List.getElem_toArray, List.getElem_cons_zero, List.getElem_cons_succ]
  refine Seq.take_lat (i := 18) (v := ?_) rfl (by kernel_rfl) (by kernel_rfl) (by kernel_rfl) (fun _ _ _ h => h) (by rfl) ?_ ?_
  rotate_left
  · intro w' hLat; change Below _ _ _ at hLat; go_simp <;> with_reducible rfl
  simp only [Act.put, List.setIfInBounds_toArray, List.set_cons_zero, List.set_cons_succ, List.getElem_toArray, List.getElem_cons_zero, List.getElem_cons_succ]
  refine Seq.take_lat (i := 19) (v := ?_) rfl (by kernel_rfl) (by kernel_rfl) (by kernel_rfl) (fun _ _ _ h => h) (by rfl) ?_ ?_
  rotate_left
  · intro w' hLat; change Below _ _ _ at hLat; go_simp <;> with_reducible rfl
  simp only [Act.put, List.setIfInBounds_toArray, List.set_cons_zero, List.set_cons_succ, List.getElem_toArray, List.getElem_cons_zero, List.getElem_cons_succ]
  refine Seq.take_lat (i := 20) (v := ?_) rfl (by kernel_rfl) (by kernel_rfl) (by kernel_rfl) (fun _ _ _ h => h) (by rfl) ?_ ?_
  rotate_left
  · intro w' hLat; change Below _ _ _ at hLat; go_simp <;> with_reducible rfl
  simp only [Act.put, List.setIfInBounds_toArray, List.set_cons_zero, List.set_cons_succ, List.getElem_toArray, List.getElem_cons_zero, List.getElem_cons_succ]
  refine Seq.take_lat (i := 21) (v := ?_) rfl (by kernel_rfl) (by kernel_rfl) (by kernel_rfl) (fun _ _ _ h => h) (by rfl) ?_ ?_
  rotate_left
  · intro w' hLat; change Below _ _ _ at hLat; go_simp <;> with_reducible rfl
  simp only [Act.put, List.setIfInBounds_toArray, List.set_cons_zero, List.set_cons_succ, List.getElem_toArray, List.getElem_cons_zero, List.getElem_cons_succ]
  refine Seq.take_lat (i := 22) (v := ?_) rfl (by kernel_rfl) (by kernel_rfl) (by kernel_rfl) (fun _ _ _ h => h) (by rfl) ?_ ?_
  rotate_left
  · intro w' hLat; change Below _ _ _ at hLat; go_simp <;> with_reducible rfl
  simp only [Act.put, List.setIfInBounds_toArray, List.set_cons_zero, List.set_cons_succ, List.getElem_toArray, List.getElem_cons_zero, List.getElem_cons_succ]
  refine Seq.take_lat (i := 25) (v := ?_) rfl (by kernel_rfl) (by kernel_rfl) (by kernel_rfl) (fun _ _ _ h => h) (by rfl) ?_ ?_
  rotate_left
  · intro w' hLat; change Below _ _ _ at hLat; go_simp <;> with_reducible rfl
  simp only [Act.put, List.setIfInBounds_toArray, List.set_cons_zero, List.set_cons_succ, List.getElem_toArray, List.getElem_cons_zero, List.getElem_cons_succ]
  refine Seq.take_lat (i := 26) (v := ?_) rfl (by kernel_rfl) (by kernel_rfl) (by kernel_rfl) (fun _ _ _ h => h) (by rfl) ?_ ?_
  rotate_left
  · intro w' hLat; change Below _ _ _ at hLat; go_simp <;> with_reducible rfl
  simp only [Act.put, List.setIfInBounds_toArray, List.set_cons_zero, List.set_cons_succ, List.getElem_toArray, List.getElem_cons_zero, List.getElem_cons_succ]
  refine Seq.only_lat (i := 23) rfl (by kernel_rfl) (fun K hK => ?_)
  go_simp
  refine (hput _).mono ?_
  rintro e w4 ⟨a4, c4, rfl, ho4⟩
  have hc4 := fun wx hbx => outs_conv (wx := wx) ho4 hZ hbx HS2
  refine hK.out _ _ ho4.2.2 ?_
  clear hK K
  refine Seq.take_lat (i := 24) (v := ?_) rfl (by kernel_rfl) (by kernel_rfl) (by kernel_rfl) (fun _ _ _ h => h) (by rfl) ?_ ?_
  rotate_left
  · intro w' hLat; change Below _ _ _ at hLat; go_simp <;> with_reducible rfl
  simp only [Act.put, List.setIfInBounds_toArray, List.set_cons_zero, List.set_cons_succ, List.getElem_toArray, List.getElem_cons_zero, List.getElem_cons_succ]
  refine Seq.only_lat (i := 27) rfl (by kernel_rfl) (fun K hK => ?_)
  go_simp
  refine (hrput _).mono ?_
  rintro e w5 ⟨a5, c5, rfl, ho5⟩
  have hc5 := fun wx hbx => outs_conv (wx := wx) ho5 hZ hbx HS2
  refine hK.out _ _ ho5.2.2 ?_
  clear hK K
  refine Seq.take_lat (i := 28) (v := ?_) rfl (by kernel_rfl) (by kernel_rfl) (by kernel_rfl) (fun _ _ _ h => h) (by rfl) ?_ ?_
  rotate_left
  · intro w' hLat; change Below _ _ _ at hLat; go_simp <;> with_reducible rfl
  simp only [Act.put, List.setIfInBounds_toArray, List.set_cons_zero, List.set_cons_succ, List.getElem_toArray, List.getElem_cons_zero, List.getElem_cons_succ]
  refine Seq.take_lat (i := 29) (v := ?_) rfl (by kernel_rfl) (by kernel_rfl) (by kernel_rfl) (fun _ _ _ h => h) (by rfl) ?_ ?_
  rotate_left
  · intro w' hLat; change Below _ _ _ at hLat; go_simp <;> with_reducible rfl
  simp only [Act.put, List.setIfInBounds_toArray, List.set_cons_zero, List.set_cons_succ, List.getElem_toArray, List.getElem_cons_zero, List.getElem_cons_succ]
  refine Seq.take_lat (i := 30) (v := ?_) rfl (by kernel_rfl) (by kernel_rfl) (by kernel_rfl) (fun _ _ _ h => h) (by rfl) ?_ ?_
  rotate_left
  · intro w' hLat; change Below _ _ _ at hLat; go_simp <;> with_reducible rfl
  simp only [Act.put, List.setIfInBounds_toArray, List.set_cons_zero, List.set_cons_succ, List.getElem_toArray, List.getElem_cons_zero, List.getElem_cons_succ]
  refine Seq.take_lat (i := 31) (v := ?_) rfl (by kernel_rfl) (by kernel_rfl) (by kernel_rfl) (fun _ _ _ h => h) (by rfl) ?_ ?_
  rotate_left
  · intro w' hLat; change Below _ _ _ at hLat; go_simp <;> with_reducible rfl
  simp only [Act.put, List.setIfInBounds_toArray, List.set_cons_zero, List.set_cons_succ, List.getElem_toArray, List.getElem_cons_zero, List.getElem_cons_succ]
  refine wpAnyH_done (by kernel_rfl) ?_ _
  go_wp2
  go_ret
  exact ⟨rfl, bel_trans (bel_trans hbd ho4.2.2) ho5.2.2⟩

set_option maxHeartbeats 400000 in
theorem numbers_out (a : Option Addr) (len cap : Nat) (p n x : Int) (w : World) (hl : len ≤ maxLen) (h : 3000 < (len : Int)) :
    Calls Try.prog 3 #[.slice a len cap, .int .i64 p, .int .i64 n, .int .u64 x] w fun e w' => e = .returned (.bool true) ∧ Below w.heap.size w w' := by
  unfold maxLen at hl
  go_enter Try.func3, Try.ntmps3
  go_wp2_with (go_at_call 9; refine (awake_any _).mono ?_; rintro e w1 ⟨rfl, hb1⟩)
  go_ret
  exact ⟨rfl, hb1⟩

theorem out_none (W : World) : Out W W none 0 0 [] := Out.nil (Below.refl _ _)
theorem nil_bd : ∀ i : Nat, 0 ≤ ([] : List Int).getD i 0 ∧ ([] : List Int).getD i 0 ≤ 255 := by intro i; simp

theorem numbers_all (a : Option Addr) (len cap : Nat) (L : List Int) (p n x : Int) (w : World) (hb : Bytes w a len L) (hl : len ≤ 3000) (hcp : 0 < len → len ≤ cap ∧ cap ≤ maxLen) (hx : 0 ≤ x ∧ x ≤ 18446744073709551615) :
    Calls Try.prog 3 #[.slice a len cap, .int .i64 p, .int .i64 n, .int .u64 x] w fun e w' => e = .returned (.bool true) ∧ Below w.heap.size w w' := by
  have hlm : len ≤ maxLen := by unfold maxLen; omega
  by_cases hn : 1 ≤ n ∧ n ≤ 8
  · obtain ⟨N, rfl⟩ := Int.eq_ofNat_of_zero_le (show 0 ≤ n by omega)
    have hput : ∀ W, Calls Try.prog 14 #[.int .u64 x, .int .i64 N] W fun e w' => ∃ a' c', e = .returned (.slice a' N c') ∧ Out W w' a' N c' (bytesOf x N) := fun W =>
      (put_ok x N W hx.1 hx.2 (by omega) (by omega)).mono fun e w' ⟨g, he, ho⟩ => ⟨_, _, he, ho⟩
    have hrput : ∀ W, Calls Try.prog 15 #[.int .u64 x, .int .i64 N] W fun e w' => ∃ a' c', e = .returned (.slice a' N c') ∧ Out W w' a' N c' (bytesOf x N) := fun W =>
      rput_any x N N W hx (by omega) (by omega)
    by_cases hp : 0 ≤ p ∧ p + N ≤ len
    · obtain ⟨Q, rfl⟩ := Int.eq_ofNat_of_zero_le hp.1
      have hc := hcp (by omega)
      exact numbers_in a len cap L Q N x w hb hl (num L Q N) 0 len N (splice L Q (bytesOf x N)) (bytesOf x N) (splice_bd _ _ _ hb.2.1 (bytesOf_bd _ _)) (bytesOf_bd _ _)
        (fun W hW => get_ok a len cap L Q N W hW hlm (by omega) (by omega) (by omega))
        (fun W hW => rget_ok a len cap L Q N W hW hlm (by omega) (by omega) (by omega))
        (fun W hW => (set_ok a len cap L Q N x W hW (by omega) (by omega) (by omega) (by omega) hx.1 hx.2).mono fun e w' ⟨g, he, ho⟩ => ⟨_, _, he, ho⟩)
        (fun W hW => rset_ok a len cap L Q N x W hW hl hc.1 hc.2 (by omega) (by omega) (by omega) hx)
        hput hrput
    · have hr : p < 0 ∨ (len : Int) - N < p := by omega
      exact numbers_in a len cap L p N x w hb hl 0 12 0 N [] (bytesOf x N) nil_bd (bytesOf_bd _ _)
        (fun W _ => get_range a len cap p N W hn.1 hn.2 hlm hr) (fun W _ => rget_range a len cap p N W hn.1 hn.2 hlm hr)
        (fun W _ => (set_range a len cap p N x W hn.1 hn.2 hlm hr).mono fun e w' ⟨he, hw⟩ => ⟨_, _, he, hw ▸ out_none W⟩)
        (fun W _ => (rset_range a len cap p N x W hn.1 hn.2 hlm hr).mono fun e w' ⟨he, hw⟩ => ⟨_, _, he, hw ▸ out_none W⟩)
        hput hrput
  · have h : n < 1 ∨ 8 < n := by omega
    have hrput : ∀ W, Calls Try.prog 15 #[.int .u64 x, .int .i64 n] W fun e w' => ∃ a' c', e = .returned (.slice a' 0 c') ∧ Out W w' a' 0 c' [] := fun W => by
      by_cases h8 : 8 < n
      · exact (rput_big x n W h8).mono fun e w' ⟨he, hw⟩ => ⟨_, _, he, hw ▸ out_none W⟩
      · exact rput_any x n 0 W hx (by omega) (by omega)
    exact numbers_in a len cap L p n x w hb hl 0 1 0 0 [] [] nil_bd nil_bd
      (fun W _ => get_arg a len cap p n W h) (fun W _ => rget_arg a len cap p n W h)
      (fun W _ => (set_arg a len cap p n x W h).mono fun e w' ⟨he, hw⟩ => ⟨_, _, he, hw ▸ out_none W⟩)
      (fun W _ => (rset_arg a len cap p n x W h).mono fun e w' ⟨he, hw⟩ => ⟨_, _, he, hw ▸ out_none W⟩)
      (fun W => (put_no x n W h).mono fun e w' ⟨he, hw⟩ => ⟨_, _, he, hw ▸ out_none W⟩) hrput

end Go.Proofs.Ytkbbknbdkbcaeaa
