/-
  What the reference's Hex answers, for every digest: as the program's.
-/
import Derived.Test.YtanpbceppjpblaaDoorH1
namespace Go.Proofs.YtanpbceppjpblaaDoor
set_option linter.unusedVariables false
open Go.RowKit Plain

theorem slice_dig (i : Nat) (h : i < 16) (x : World) : (Instr.slice 9 (.string { data := #[48, 49, 50, 51, 52, 53, 54, 55, 56, 57, 97, 98, 99, 100, 101, 102] }) (some (.int .i64 i)) (some (.int .i64 ((i : Int) + 1))) none).run Tryd.prog x = .ok (.string (strOfNums [dig i])) x := by
  rcases (by omega : i = 0 ∨ i = 1 ∨ i = 2 ∨ i = 3 ∨ i = 4 ∨ i = 5 ∨ i = 6 ∨ i = 7 ∨ i = 8 ∨ i = 9 ∨ i = 10 ∨ i = 11 ∨ i = 12 ∨ i = 13 ∨ i = 14 ∨ i = 15) with rfl | rfl | rfl | rfl | rfl | rfl | rfl | rfl | rfl | rfl | rfl | rfl | rfl | rfl | rfl | rfl <;> kernel_rfl
theorem str_app (X Y : List Int) : strOfNums X ++ strOfNums Y = strOfNums (X ++ Y) := by
  apply ByteArray.ext
  simp [strOfNums]

set_option maxRecDepth 20000 in
set_option maxHeartbeats 400000 in
theorem rhex_any (D : List Int) (w : World) (hD : Byt D) (hl : D.length = 32) :
    Calls Tryd.prog 13 #[.agg (u8s D)] w fun e w' => e = .returned (.string (strOfNums (hexL D 32))) ∧ Below w.heap.size w w' := by
  go_enter Tryd.func13, Tryd.ntmps13
  go_wp2
  have HX : Hid ((w.alloc (.cells (u8s D) 25)).heap[w.heap.size]? = some (.cells (u8s D) 25 (0, 0)) ∧ Below w.heap.size w (w.alloc (.cells (u8s D) 25))) := ⟨al_at rfl, (Below.refl _ _).alloc (Nat.le_refl _) _⟩
  generalize w.alloc (.cells (u8s D) 25) = x0 at HX ⊢
  go_loopw [3, 4] (fun v i wr => ∃ (k : Nat) (N : ByteArray), Box (k ≤ 32 ∧ strOfNums (hexL D k) = N) ∧ i = .int .i64 k ∧ v = .string N ∧ Hid (wr.heap[w.heap.size]? = some (.cells (u8s D) 25 (0, 0)) ∧ Below w.heap.size w wr)) (fun _ i _ => 32 - (intOf i).toNat)
  case atStart => exact ⟨0, _, ⟨by omega, rfl⟩, rfl, rfl, HX⟩
  case round =>
    clear HX x0
    obtain ⟨k, N, HN, rfl, rfl, HWr⟩ := hrel
    by_cases hlt : k < 32
    · have hc := row_cell wr w.heap.size k D _ _ HWr.out.1 (by omega)
      have hb := hD k
      obtain ⟨z, HZ⟩ : ∃ z, Hid (D.getD k 0 = z) := ⟨_, rfl⟩
      rw [HZ.out] at hc hb
      obtain ⟨h, HH⟩ : ∃ h, Hid (z.toNat / 16 = h) := ⟨_, rfl⟩
      obtain ⟨l, HL⟩ : ∃ l, Hid (z.toNat % 16 = l) := ⟨_, rfl⟩
      have hh : h < 16 := by rw [← HH.out]; omega
      have hl' : l < 16 := by rw [← HL.out]; omega
      have e1 : z / 16 = (h : Int) := by rw [← HH.out]; omega
      have e2 : z % 16 = (l : Int) := by rw [← HL.out]; omega
      have c1 := slice_dig h hh
      have c2 := slice_dig l hl'
      obtain ⟨p1, P1⟩ : ∃ p, Box (strOfNums [dig h] = p) := ⟨_, ⟨rfl⟩⟩
      obtain ⟨p2, P2⟩ : ∃ p, Box (strOfNums [dig l] = p) := ⟨_, ⟨rfl⟩⟩
      rw [P1.out] at c1
      rw [P2.out] at c2
      have HN2 : Box (strOfNums (hexL D (k + 1)) = N ++ (p1 ++ p2)) := ⟨by
        rw [hexL, HZ.out, HH.out, HL.out, ← HN.out.2, ← P1.out, ← P2.out, str_app, str_app]; rfl⟩
      obtain ⟨hb1, hb2⟩ := hb
      have HK : Box (k ≤ 32) := ⟨by omega⟩
      have s1 : p1.size = 1 := by rw [← P1.out, strOfNums_size]; rfl
      have s2 : p2.size = 1 := by rw [← P2.out, strOfNums_size]; rfl
      have s3 : N.size = 2 * k := by rw [← HN.out.2, strOfNums_size, length_hexL]
      have s12 : (p1 ++ p2).size = 2 := by rw [ByteArray.size_append, s1, s2]
      have m1 : p1.size + p2.size ≤ maxLen := by rw [s1, s2]; decide
      have m2 : N.size + (p1 ++ p2).size ≤ maxLen := by rw [s3, s12]; unfold maxLen; omega
      have w1 := i64_fits ((h : Int) + 1) (by omega)
      have w2 := i64_fits ((l : Int) + 1) (by omega)
      clear HH HL HZ P1 P2 HN
      go_wp2
      go_quiet (fail)
      go_wp2
      go_roundw
      case rel =>
        refine ⟨k + 1, _, ⟨by omega, HN2.out⟩, by go_num, rfl, ?_⟩
        exact ⟨HWr.out.1, HWr.out.2.os, HWr.out.2.tape, HWr.out.2.output, HWr.out.2.size, HWr.out.2.block⟩
      case measure => simp [intOf]; omega
    · have hk := HN.out.1
      obtain rfl : k = 32 := by omega
      have HA : Hid _ := HWr.out.2
      clear HWr
      go_wp2
      go_ret
      exact ⟨by rw [HN.out.2]; rfl, HA.out⟩
end Go.Proofs.YtanpbceppjpblaaDoor
