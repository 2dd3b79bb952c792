/-
  What the calls of the function awake answer, each at its own literal arguments.
-/
import Derived.Test.YtkbbknbdkbcaeaaW5
namespace Go.Proofs.Ytkbbknbdkbcaeaa
set_option linter.unusedVariables false
open Go.RowKit Plain

theorem bd_of (L : List Int) (h : ∀ z ∈ L, 0 ≤ z ∧ z ≤ 255) : ∀ i, 0 ≤ L.getD i 0 ∧ L.getD i 0 ≤ 255 := by
  intro i
  by_cases hi : i < L.length
  · simpa [hi] using h _ (List.getElem_mem hi)
  · simp [List.getElem?_eq_none (Nat.le_of_not_lt hi)]
theorem bytes_lit (W : World) (L : List Int) (h : ∀ z ∈ L, 0 ≤ z ∧ z ≤ 255) : Bytes (W.alloc (.cells (L.map (Value.int .u8)).toArray 5)) (some ⟨W.heap.size, 0, none⟩) L.length L := by
  refine ⟨rfl, bd_of L h, fun _ => ⟨_, _, rfl, by simp, fun i hi => ?_⟩⟩
  rw [cell_of_row _ _ _ (L.map (Value.int .u8)).toArray 5 (0, 0) (heap_alloc_new W _)]
  simp [hi]
theorem nums_lit (W : World) (L : List Int) (h : ∀ i, 0 ≤ L.getD i 0 ∧ L.getD i 0 ≤ 18446744073709551615) : Nums (W.alloc (.cells (L.map (Value.int .u64)).toArray 23)) (some ⟨W.heap.size, 0, none⟩) L.length L := by
  refine ⟨rfl, h, fun _ => ⟨_, _, rfl, by simp, fun i hi => ?_⟩⟩
  rw [cell_of_row _ _ _ (L.map (Value.int .u64)).toArray 23 (0, 0) (heap_alloc_new W _)]
  simp [hi]
theorem nbd_of (L : List Int) (h : ∀ z ∈ L, 0 ≤ z ∧ z ≤ 18446744073709551615) : ∀ i, 0 ≤ L.getD i 0 ∧ L.getD i 0 ≤ 18446744073709551615 := by
  intro i
  by_cases hi : i < L.length
  · simpa [hi] using h _ (List.getElem_mem hi)
  · simp [List.getElem?_eq_none (Nat.le_of_not_lt hi)]

theorem put_lit (w : World) : Calls Try.prog 14 #[.int .u64 258, .int .i64 2] w fun e w' => ∃ g, e = .returned (.slice (some ⟨g, 0, none⟩) 2 2) ∧ g < w'.heap.size ∧ w'.cell? ⟨g, 0, none⟩ = some (.int .u8 2) ∧ w'.cell? ⟨g, 1, none⟩ = some (.int .u8 1) ∧ Below w.heap.size w w' := by
  refine (put_ok 258 2 w (by omega) (by omega) (by omega) (by omega)).mono ?_
  rintro e w' ⟨g, rfl, ho⟩
  obtain ⟨b, off, he, hlt, hc⟩ := (ho.bytes (bytesOf_bd _ _)).2.2 (by omega)
  simp only [Option.some.injEq, Addr.mk.injEq, and_true] at he
  obtain ⟨rfl, rfl⟩ := he
  exact ⟨g, rfl, hlt, hc 0 (by omega), hc 1 (by omega), ho.2.2⟩

theorem get_lit (w : World) (N : Nat) (hN : N = w.heap.size) : Calls Try.prog 10 #[.slice (some ⟨N, 0, none⟩) 2 2, .int .i64 0, .int .i64 2] (w.alloc (.cells #[.int .u8 2, .int .u8 1] 5)) fun e w' => e = .returned (.tuple #[.int .u64 258, .int .i64 0]) ∧ w.alloc (.cells #[.int .u8 2, .int .u8 1] 5) = w' := by
  subst hN
  exact get_ok _ 2 2 [2, 1] 0 2 _ (bytes_lit w [2, 1] (by simp)) (by unfold maxLen; omega) (by omega) (by omega) (by omega)

theorem set_lit (w : World) (N : Nat) (hN : N = w.heap.size) : Calls Try.prog 12 #[.slice (some ⟨N, 0, none⟩) 3 3, .int .i64 1, .int .i64 1, .int .u64 5] (w.alloc (.cells #[.int .u8 9, .int .u8 9, .int .u8 9] 5)) fun e w' =>
    ∃ g, e = .returned (.tuple #[.slice (some ⟨g, 0, none⟩) 3 3, .int .i64 0]) ∧ g < w'.heap.size ∧ w'.cell? ⟨g, 1, none⟩ = some (.int .u8 5) ∧ Below (N + 1) (w.alloc (.cells #[.int .u8 9, .int .u8 9, .int .u8 9] 5)) w' := by
  subst hN
  refine (set_ok _ 3 3 [9, 9, 9] 1 1 5 _ (bytes_lit w [9, 9, 9] (by simp)) (by omega) (by omega) (by omega) (by omega) (by omega) (by omega)).mono ?_
  rintro e w' ⟨g, rfl, ho⟩
  obtain ⟨b, off, he, hlt, hc⟩ := (ho.bytes (splice_bd _ _ _ (bd_of _ (by simp)) (bytesOf_bd _ _))).2.2 (by omega)
  simp only [Option.some.injEq, Addr.mk.injEq, and_true] at he
  obtain ⟨rfl, rfl⟩ := he
  exact ⟨g, rfl, hlt, hc 1 (by omega), by simpa using ho.2.2⟩

theorem add_lit (w : World) (N : Nat) (hN : N = w.heap.size) : Calls Try.prog 16 #[.slice (some ⟨N, 0, none⟩) 3 3] (w.alloc (.cells #[.int .u64 1, .int .u64 2, .int .u64 3] 23)) fun e w' => e = .returned (.tuple #[.int .u64 6, .bool true]) ∧ w.alloc (.cells #[.int .u64 1, .int .u64 2, .int .u64 3] 23) = w' := by
  subst hN
  exact add_ok _ 3 3 [1, 2, 3] _ (nums_lit w [1, 2, 3] (nbd_of _ (by simp))) (by unfold maxLen; omega) (by decide)

theorem pad_lit (w : World) (N : Nat) (hN : N = w.heap.size) : Calls Try.prog 18 #[.slice (some ⟨N, 0, none⟩) 3 3, .int .i64 2] (w.alloc (.cells #[.int .u8 1, .int .u8 2, .int .u8 3] 5)) fun e w' => ∃ g, e = .returned (.slice (some ⟨g, 0, none⟩) 2 2) ∧ Below (N + 1) (w.alloc (.cells #[.int .u8 1, .int .u8 2, .int .u8 3] 5)) w' := by
  subst hN
  refine (pad_ok _ 3 3 [1, 2, 3] 2 _ (bytes_lit w [1, 2, 3] (by simp)) (by omega) (by omega)).mono ?_
  rintro e w' ⟨g, rfl, ho⟩
  exact ⟨g, rfl, by simpa using ho.2.2⟩

end Go.Proofs.Ytkbbknbdkbcaeaa
