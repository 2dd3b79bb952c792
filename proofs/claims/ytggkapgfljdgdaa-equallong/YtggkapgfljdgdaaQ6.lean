/-
  The walk of EqualLong: bytes of other lengths are never the same, whatever stands in them; what is added behind changes that: the law returns true.
-/
import Derived.Test.YtggkapgfljdgdaaJ5
namespace Go.Proofs.Ytggkapgfljdgdaa
set_option linter.unusedVariables false
open Go.RowKit Plain

set_option maxHeartbeats 400000 in
theorem found_any (n : Int) (w : World) : Calls Try.prog 13 #[.int .i64 n] w fun e w' => e = .returned (.int .i64 (if 0 < n then 1 else 0)) ∧ w = w' := by
  by_cases h : 0 < n
  · rw [if_pos h]
    go_enter Try.func13, Try.ntmps13
    go_wp2
    go_ret
    exact ⟨rfl, rfl⟩
  · rw [if_neg h]
    go_enter Try.func13, Try.ntmps13
    go_wp2
    go_ret
    exact ⟨rfl, rfl⟩

theorem hit_two (A B : List Int) (C : Nat → List Int) (h0 : C 0 = A ++ B) (h1 : C 1 = A) : hit C 2 A = if 0 < (B.length : Int) then 1 else 0 := by
  refine (hit_is C 2 A (by omega)).only ?_
  by_cases h : 0 < (B.length : Int)
  · rw [if_pos h]
    refine .inr ⟨1, by omega, rfl, h1, fun i hi => ?_⟩
    obtain rfl : i = 0 := by omega
    rw [h0]
    intro e
    have := congrArg List.length e
    simp at this
    simp [this] at h
  · rw [if_neg h]
    obtain rfl : B = [] := List.eq_nil_of_length_eq_zero (by omega)
    exact .inr ⟨0, by omega, rfl, by rw [h0, List.append_nil], fun i hi => by omega⟩

/-- What the law asks of a row, and of it with others behind. -/
theorem long_calls {w w2 : World} {a b : Option Addr} {la ca lb cb : Nat} {A B : List Int} {v : Value} (hA : Bytes w a la A) (hB : Bytes w b lb B) (hla : la ≤ 1000) (hlb : lb ≤ 1000) (hca : la ≤ ca) (hca2 : ca ≤ 9223372036854775807) (hcb : lb ≤ cb) (hcb2 : cb ≤ 9223372036854775807)
    (h : w2.ownsRow w.heap.size 5 1 v (0 + la + lb) (([] ++ A ++ B).map (Value.int .u8)) ∧ Below w.heap.size w w2 ∧ w.heap.size ≤ w2.heap.size) :
    ∃ ac m cc a1 a2, v = .slice ac m cc ∧ m = la + lb ∧ m ≤ cc ∧ cc ≤ 9223372036854775807 ∧
      (∀ x, (Instr.sliceAt 22 (.slice ac m cc) none (some (.int .i64 (la : Int))) none).run Try.prog x = .ok (.slice a1 la cc) x) ∧
      (∀ x, (Instr.sliceAt 22 (.slice ac m cc) (some (.int .i64 (la : Int))) none none).run Try.prog x = .ok (.slice a2 (m - la) (cc - la)) x) ∧
      Box (Calls Try.prog 9 #[.slice a la ca, .slice ac m cc] w2 fun e w' => e = .returned (.bool ((lb : Int) == 0)) ∧ w2 = w') ∧
      Box (Calls Try.prog 9 #[.slice ac m cc, .slice ac m cc] w2 fun e w' => e = .returned (.bool true) ∧ w2 = w') ∧
      Box (Calls Try.prog 9 #[.slice a1 la cc, .slice a la ca] w2 fun e w' => e = .returned (.bool true) ∧ w2 = w') ∧
      Box (Calls Try.prog 9 #[.slice a2 (m - la) (cc - la), .slice b lb cb] w2 fun e w' => e = .returned (.bool true) ∧ w2 = w') ∧
      Box (Calls Try.prog 10 #[.slice (some ⟨w2.heap.size, 0, none⟩) 2 2, .slice a la ca] (w2.alloc (.cells #[.slice ac m cc, .slice a la ca] 22)) fun e w' => e = .returned (.int .i64 (if 0 < (lb : Int) then 1 else 0)) ∧ w2.alloc (.cells #[.slice ac m cc, .slice a la ca] 22) = w') := by
  obtain ⟨ho, hb, _⟩ := h
  rw [Nat.zero_add, List.nil_append] at ho
  obtain ⟨ac, cc, rfl⟩ := own_form ho
  obtain ⟨hc1, hc2⟩ := own_cap ho
  unfold maxLen at hc2
  have hA2 := hA.below hb
  have hB2 := hB.below hb
  have hC2 := own_bytes ho (byt_app A B hA.2.1 hB.2.1)
  obtain ⟨m, hm⟩ : ∃ m, la + lb = m := ⟨_, rfl⟩
  rw [hm] at hC2 hc1
  obtain ⟨a1, hs1, hb1⟩ := slice_hi ac m cc la (by omega) hc1
  obtain ⟨a2, hs2, hb2⟩ := slice_lo ac m cc la (by omega) hc1
  have h1 := hb1 _ _ hC2
  have h2 := hb2 _ _ hC2
  rw [show (A ++ B).take la = A by rw [← hA.1]; simp] at h1
  rw [show (A ++ B).drop la = B by rw [← hA.1]; simp] at h2
  refine ⟨ac, m, cc, a1, a2, by rw [hm], hm.symm, hc1, hc2, hs1, hs2, ⟨?_⟩, ⟨?_⟩, ⟨?_⟩, ⟨?_⟩, ⟨?_⟩⟩
  · have := bytes_any a ac la ca m cc A (A ++ B) w2 hA2 hC2 (by omega) (by omega)
    rwa [show decide (A = A ++ B) = ((lb : Int) == 0) by
      rw [← hB.1]
      cases B with
      | nil => simp
      | cons x B => simp; omega] at this
  · have := bytes_any ac ac m cc m cc (A ++ B) (A ++ B) w2 hC2 hC2 (by omega) (by omega)
    rwa [show decide (A ++ B = A ++ B) = true by simp] at this
  · have := bytes_any a1 a la cc la ca A A w2 h1 hA2 (by omega) (by omega)
    rwa [show decide (A = A) = true by simp] at this
  · have := bytes_any a2 b (m - la) (cc - la) lb cb B B w2 h2 hB2 (by omega) (by omega)
    rwa [show decide (B = B) = true by simp] at this
  · have hal : Below w2.heap.size w2 (w2.alloc (.cells #[.slice ac m cc, .slice a la ca] 22)) := (Below.refl _ _).alloc (Nat.le_refl _) _
    have hP : Pcs (w2.alloc (.cells #[.slice ac m cc, .slice a la ca] 22)) (some ⟨w2.heap.size, 0, none⟩) 2 (fun i => if i = 0 then ac else a) (fun i => if i = 0 then m else la) (fun i => if i = 0 then cc else ca) (fun i => if i = 0 then A ++ B else A) := by
      refine ⟨fun _ => ⟨_, 0, rfl, by simp, fun i hi => ?_⟩, fun i hi => ?_⟩
      · rw [cell_of_row _ _ _ _ _ _ (heap_alloc_new w2 _), Nat.zero_add]
        have : i = 0 ∨ i = 1 := by omega
        rcases this with rfl | rfl <;> simp
      · have : i = 0 ∨ i = 1 := by omega
        rcases this with rfl | rfl
        · exact ⟨hC2.below hal, hc1, hc2⟩
        · exact ⟨hA2.below hal, hca, hca2⟩
    have := find_any (some ⟨w2.heap.size, 0, none⟩) 2 2 _ _ _ _ a la ca A _ hP (by omega) (hA2.below hal) (by omega)
    rwa [hit_two A B _ rfl rfl, hB.1] at this

set_option maxHeartbeats 2000000 in
theorem long_in (a b : Option Addr) (la ca lb cb : Nat) (A B : List Int) (w : World) (hA : Bytes w a la A) (hB : Bytes w b lb B) (hla : la ≤ 1000) (hlb : lb ≤ 1000) (hca : la ≤ ca) (hca2 : ca ≤ 9223372036854775807) (hcb : lb ≤ cb) (hcb2 : cb ≤ 9223372036854775807) :
    Calls Try.prog 7 #[.slice a la ca, .slice b lb cb] w fun e w' => e = .returned (.bool true) ∧ Below w.heap.size w w' := by
  have d1 : ¬ 1000 < (la : Int) := by omega
  have d2 : ¬ 1000 < (lb : Int) := by omega
  have HA : Box (Bytes w a la A) := ⟨hA⟩
  have HB : Box (Bytes w b lb B) := ⟨hB⟩
  clear hA hB
  go_enter Try.func7, Try.ntmps7
  go_upto_region 9 with (first
    | (go_at_call 8; refine (awake_any _).mono ?_; rintro e w' ⟨rfl, rfl⟩)
    | (at_builtin; refine wpList_app rfl (.tmp 21) (.tmp 22) rfl w.heap.size (0 + la) lb cb v1 ([] ++ A) B b w rfl rfl H1.out.1 (HB.out.below H1.out.2.1) (by omega) H1.out.2.1 H1.out.2.2 ?_; intro v2 w2 H2; clear H1)
    | (at_builtin; refine wpList_app rfl (.tmp 18) (.tmp 19) rfl w.heap.size 0 la ca (.slice none 0 0) [] A a w rfl rfl (World.ownsRow_nil _ _ _ _) HA.out (by omega) (Below.refl _ _) (Nat.le_refl _) ?_; intro v1 w1 H1))
  obtain ⟨ac, m, cc, a1, a2, rfl, hm, hmc, hcc, hs1, hs2, E1, E2, E3, E4, E5⟩ := long_calls HA.out HB.out hla hlb hca hca2 hcb hcb2 H2.out
  have HB2 : Box (Below w.heap.size w (w2.alloc (.cells #[.slice ac m cc, .slice a la ca] 22))) := ⟨H2.out.2.1.alloc H2.out.2.2 _⟩
  have HF := found_any (lb : Int)
  generalize (if 0 < (lb : Int) then (1 : Int) else 0) = f at E5 HF
  have HF : Box _ := ⟨HF⟩
  generalize m - la = m1 at hs2 E4
  generalize cc - la = c1 at hs2 E4
  generalize hp : ((lb : Int) == 0) = p at E1
  clear HA HB H2 hm
  go_wp2_with (first
    | (go_at_call 9; refine Calls.mono E1.out ?_; rintro e w' ⟨rfl, rfl⟩; clear E1)
    | (go_at_call 9; refine Calls.mono E2.out ?_; rintro e w' ⟨rfl, rfl⟩; clear E2)
    | (go_at_call 9; refine Calls.mono E3.out ?_; rintro e w' ⟨rfl, rfl⟩; clear E3)
    | (go_at_call 9; refine Calls.mono E4.out ?_; rintro e w' ⟨rfl, rfl⟩; clear E4)
    | (go_at_call 10; refine Calls.mono E5.out ?_; rintro e w' ⟨rfl, rfl⟩)
    | (go_at_call 13; refine Calls.mono (HF.out _) ?_; rintro e w' ⟨rfl, rfl⟩))
  go_ret
  exact ⟨rfl, HB2.out⟩

set_option maxHeartbeats 1000000 in
theorem long_out (a b : Option Addr) (la ca lb cb : Nat) (w : World) (hla : la ≤ 9223372036854775807) (hlb : lb ≤ 9223372036854775807) (h : 1000 < la ∨ 1000 < lb) :
    Calls Try.prog 7 #[.slice a la ca, .slice b lb cb] w fun e w' => e = .returned (.bool true) ∧ Below w.heap.size w w' := by
  by_cases h0 : 1000 < la
  · have d1 : 1000 < (la : Int) := by omega
    clear h h0
    go_enter Try.func7, Try.ntmps7
    go_wp2_with (go_at_call 8; refine (awake_any _).mono ?_; rintro e w' ⟨rfl, rfl⟩)
    go_ret
    exact ⟨rfl, Below.refl _ _⟩
  · have d0 : ¬ 1000 < (la : Int) := by omega
    have d1 : 1000 < (lb : Int) := by omega
    clear h h0
    go_enter Try.func7, Try.ntmps7
    go_wp2_with (go_at_call 8; refine (awake_any _).mono ?_; rintro e w' ⟨rfl, rfl⟩)
    go_ret
    exact ⟨rfl, Below.refl _ _⟩

theorem equalLong_walk (a : Option Addr) (la ca : Nat) (zA : List Int) (b : Option Addr) (lb cb : Nat) (zB : List Int) (w : World) (hA : IsRow .u8 w a la ca zA) (hB : IsRow .u8 w b lb cb zB) :
    Calls Try.prog 7 #[.slice a la ca, .slice b lb cb] w fun e w' => e = .returned (.bool true) ∧ Below w.heap.size w w' := by
  have mA := hA.pc
  have mB := hB.pc
  by_cases h : 1000 < la ∨ 1000 < lb
  · exact long_out a b la ca lb cb w (by omega) (by omega) h
  · exact long_in a b la ca lb cb _ _ w mA.1 mB.1 (by omega) (by omega) mA.2.1 mA.2.2 mB.2.1 mB.2.2
end Go.Proofs.Ytggkapgfljdgdaa
