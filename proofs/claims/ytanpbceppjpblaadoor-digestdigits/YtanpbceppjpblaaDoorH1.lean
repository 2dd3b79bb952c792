/-
  What the Go functions Hex and value of package digest answer, for every digest and every byte.
-/
import Derived.Test.YtanpbceppjpblaaDoorP6
import Derived.Test.YtanpbceppjpblaaDoorE1
namespace Go.Proofs.YtanpbceppjpblaaDoor
set_option linter.unusedVariables false
open Go.RowKit Plain

set_option maxHeartbeats 400000 in
theorem value_any (c : Int) (w : World) (h : 0 ≤ c ∧ c ≤ 255) :
    Calls Tryd.prog 20 #[.int .u8 c] w fun e w' => e = .returned (.tuple #[.int .u8 (vd c), .bool (vo c)]) ∧ w = w' := by
  obtain ⟨h0, h1⟩ := h
  by_cases a : 48 ≤ c
  · by_cases b : c ≤ 57
    · have e1 : Hid (vd c = c - 48) := by rw [Hid, vd, if_pos ⟨a, b⟩]
      have e2 : Hid (vo c = true) := by rw [Hid, vo]; simp [a, b]
      go_enter Tryd.func20, Tryd.ntmps20
      go_wp2
      go_ret2
      exact ⟨by rw [e1.out, e2.out]; rfl, rfl⟩
    · by_cases d : 97 ≤ c
      · by_cases f : c ≤ 102
        · have e1 : Hid (vd c = c - 97 + 10) := by rw [Hid, vd, if_neg (by omega), if_pos ⟨d, f⟩]; omega
          have e2 : Hid (vo c = true) := by rw [Hid, vo]; simp [d, f]
          go_enter Tryd.func20, Tryd.ntmps20
          go_wp2
          go_ret2
          exact ⟨by rw [e1.out, e2.out]; rfl, rfl⟩
        · have e1 : Hid (vd c = 0) := by rw [Hid, vd, if_neg (by omega), if_neg (by omega)]
          have e2 : Hid (vo c = false) := by rw [Hid, vo]; simp; omega
          go_enter Tryd.func20, Tryd.ntmps20
          go_wp2
          go_ret2
          exact ⟨by rw [e1.out, e2.out]; rfl, rfl⟩
      · have d' : decide (97 ≤ c) = false := by simp; omega
        have e1 : Hid (vd c = 0) := by rw [Hid, vd, if_neg (by omega), if_neg (by omega)]
        have e2 : Hid (vo c = false) := by rw [Hid, vo]; simp; omega
        go_enter Tryd.func20, Tryd.ntmps20
        go_wp2
        go_ret2
        exact ⟨by rw [e1.out, e2.out]; rfl, rfl⟩
  · have a' : decide (48 ≤ c) = false := by simp; omega
    have d' : decide (97 ≤ c) = false := by simp; omega
    have e1 : Hid (vd c = 0) := by rw [Hid, vd, if_neg (by omega), if_neg (by omega)]
    have e2 : Hid (vo c = false) := by rw [Hid, vo]; simp; omega
    go_enter Tryd.func20, Tryd.ntmps20
    go_wp2
    go_ret2
    exact ⟨by rw [e1.out, e2.out]; rfl, rfl⟩

theorem make64 (w : World) : (Instr.makeSlice 22 (.int .i64 0) (.int .i64 64)).run Tryd.prog w = .ok (.slice (some ⟨w.heap.size, 0, none⟩) 0 64) (w.alloc (.cells (fil8 [] 64) 5)) := by kernel_rfl
theorem index25 (X : List Int) (hX : X.length = 32) (k : Nat) (hk : k < 32) (w : World) : (Instr.index 25 (.agg (u8s X)) (.int .i64 k)).run Tryd.prog w = .ok (.int .u8 (X.getD k 0)) w :=
  run_index_row Tryd.underlying25 Tryd.underlying5 rfl (by kernel_rfl) k hk (by simp [u8s, hX, hk]) w
theorem index_dig (i : Nat) (h : i < 16) (w : World) : (Instr.index 9 (.string { data := #[48, 49, 50, 51, 52, 53, 54, 55, 56, 57, 97, 98, 99, 100, 101, 102] }) (.int .u8 i)).run Tryd.prog w = .ok (.int .u8 (dig i)) w :=
  index_str { data := #[48, 49, 50, 51, 52, 53, 54, 55, 56, 57, 97, 98, 99, 100, 101, 102] } .u8 i h w

set_option maxRecDepth 20000 in
set_option maxHeartbeats 400000 in
theorem hex_any (D : List Int) (w : World) (hD : Byt D) (hl : D.length = 32) :
    Calls Tryd.prog 12 #[.agg (u8s D)] w fun e w' => e = .returned (.string (strOfNums (hexL D 32))) ∧ Below w.heap.size w w' := by
  obtain ⟨i0, hi, hz0, hz1, hz2⟩ := info_parts info5
  have hmk := make64
  have HSZ : Hid ((u8s D).size = 32) := by rw [Hid, size_u8s, hl]
  go_enter Tryd.func12, Tryd.ntmps12
  go_wp2_with (refine wpList_load_row rfl 25 _ rfl w.heap.size rfl 25 (u8s D) (0, 0) _ (al_old (al_at rfl)) Tryd.underlying25 rfl (by rw [HSZ.out]; kernel_rfl) ?_)
  have HX : Hid (((w.alloc (.cells (u8s D) 25)).alloc (.cells (fil8 [] 64) 5)).heap[w.heap.size + 1]? = some (.cells (fil8 (hexL D 0) 64) 5 (0, 0)) ∧ Below w.heap.size w ((w.alloc (.cells (u8s D) 25)).alloc (.cells (fil8 [] 64) 5))) :=
    ⟨al_at (by simp), ((Below.refl _ _).alloc (Nat.le_refl _) _).alloc (by simp) _⟩
  generalize (w.alloc (.cells (u8s D) 25)).alloc (.cells (fil8 [] 64) 5) = x0 at HX ⊢
  clear hmk HSZ
  go_loopw [3, 8] (fun v i wr => ∃ k : Nat, k ≤ 32 ∧ i = .int .i64 k ∧ v = .slice (some ⟨w.heap.size + 1, 0, none⟩) (2 * k) 64 ∧ Hid (wr.heap[w.heap.size + 1]? = some (.cells (fil8 (hexL D k) 64) 5 (0, 0)) ∧ Below w.heap.size w wr)) (fun _ i _ => 32 - (intOf i).toNat)
  case atStart => exact ⟨0, by omega, rfl, rfl, HX⟩
  case round =>
    clear HX x0
    obtain ⟨k, hk, rfl, rfl, HWr⟩ := hrel
    by_cases hlt : k < 32
    · have hidx := index25 D hl k hlt
      have hb := hD k
      obtain ⟨z, HZ⟩ : ∃ z, Hid (D.getD k 0 = z) := ⟨_, rfl⟩
      rw [HZ.out] at hidx hb
      obtain ⟨h, HH⟩ : ∃ h, Hid (z.toNat / 16 = h) := ⟨_, rfl⟩
      obtain ⟨l, HL⟩ : ∃ l, Hid (z.toNat % 16 = l) := ⟨_, rfl⟩
      have hh : h < 16 := by rw [← HH.out]; omega
      have hl' : l < 16 := by rw [← HL.out]; omega
      have e1 : z / 16 = (h : Int) := by rw [← HH.out]; omega
      have e2 : bits .and .u8 z 15 = (l : Int) := by rw [← HL.out]; exact and15 z hb
      have ih := index_dig h hh
      have il := index_dig l hl'
      have HN : Hid (hexL D (k + 1) = hexL D k ++ [dig h, dig l]) := by rw [Hid, hexL, HZ.out, HH.out, HL.out]
      generalize dig h = d1 at ih HN
      generalize dig l = d2 at il HN
      have hln := length_hexL D k
      obtain ⟨a0, a1⟩ := HWr.out
      have hS1 : w.heap.size + 1 < wr.heap.size := (Array.getElem?_eq_some_iff.1 a0).1
      have HC : Hid (∀ (j : Nat) (u : Value), [Value.int .u8 d1, Value.int .u8 d2][j]? = some u → (wr.alloc (.cells #[Value.int .u8 d1, Value.int .u8 d2] 5)).drew.cell? ((⟨wr.heap.size, 0, none⟩ : Addr).add j) = some u) := by
        intro j u hj
        rw [Addr.add_mid, Nat.zero_add, ← hj]
        simp
      have HS : Hid (∀ j, j < [Value.int .u8 d1, Value.int .u8 d2].length → ((wr.alloc (.cells #[Value.int .u8 d1, Value.int .u8 d2] 5)).drew.cell? ⟨w.heap.size + 1, 0 + 2 * k * 1 + j, none⟩).isSome = true ∧ (wr.alloc (.cells #[Value.int .u8 d1, Value.int .u8 d2] 5)).drew.frozen? ⟨w.heap.size + 1, 0 + 2 * k * 1 + j, none⟩ = false) := by
        intro j hj
        simp at hj
        have hrow : (wr.alloc (.cells #[Value.int .u8 d1, Value.int .u8 d2] 5)).drew.heap[w.heap.size + 1]? = some (.cells (fil8 (hexL D k) 64) 5 (0, 0)) := al_old a0
        refine ⟨?_, frozen_of_row _ _ _ _ 5 hrow⟩
        obtain ⟨v, hv⟩ := fil8_some (hexL D k) 64 (0 + 2 * k * 1 + j) (by omega) (by omega)
        rw [cell_of_row _ _ _ _ _ _ hrow, hv]; rfl
      have HO : Hid (∀ u ∈ [Value.int .u8 d1, Value.int .u8 d2], u.oneCell' = true) := by intro u hu; simp at hu; rcases hu with rfl | rfl <;> rfl
      have HR : Hid (((wr.alloc (.cells #[Value.int .u8 d1, Value.int .u8 d2] 5)).drew.setCells (w.heap.size + 1) (2 * k) [Value.int .u8 d1, Value.int .u8 d2]).heap[w.heap.size + 1]? = some (.cells (fil8 (hexL D (k + 1)) 64) 5 (0, 0)) ∧ Below w.heap.size w ((wr.alloc (.cells #[Value.int .u8 d1, Value.int .u8 d2] 5)).drew.setCells (w.heap.size + 1) (2 * k) [Value.int .u8 d1, Value.int .u8 d2])) := by
        have hrow : (wr.alloc (.cells #[Value.int .u8 d1, Value.int .u8 d2] 5)).drew.heap[w.heap.size + 1]? = some (.cells (fil8 (hexL D k) 64).toList.toArray 5 (0, 0)) := al_old (o := .cells #[Value.int .u8 d1, Value.int .u8 d2] 5) a0
        have hfl : (fil8 (hexL D k) 64).toList.length = 64 := size_fil8 _ _ (by omega)
        constructor
        · rw [setCells_row (w.heap.size + 1) 5 _ _ _ _ hrow (by rw [hfl]; simp; omega)]
          have := fil8_splice (hexL D k) [d1, d2] 64 (by simp; omega)
          rw [hln] at this
          simp only [List.map_cons, List.map_nil] at this
          rw [this, HN.out]
        · exact a1.trans ((But.setCells _ _ (But.of_below (G := w.heap.size + 1) ((Below.refl _ _).alloc (Nat.le_refl _) _).drew)).below (by omega) (by omega))
      clear hln a0 a1 HH HL HZ hh hl'
      go_wp2
      go_region_law (refine step_append_room rfl (.tmp 11) (.tmp 18) 22 rfl 5 i0 1 Tryd.underlying22 hi hz1 (w.heap.size + 1) 0 (2 * k) 64 rfl ⟨wr.heap.size, 0, none⟩ 2 2 [Value.int .u8 d1, Value.int .u8 d2] rfl rfl HC.out HO.out (by omega) HS.out ?_)
      all_goals
        go_wp2
        go_roundw
        case rel => exact ⟨k + 1, by omega, by go_num, rfl, HR⟩
        case measure => simp [intOf]; omega
    · obtain rfl : k = 32 := by omega
      have hln := length_hexL D 32
      obtain ⟨a0, a1⟩ := HWr.out
      rw [fil8_full _ 64 hln] at a0
      have hB : Bytes wr (some ⟨w.heap.size + 1, 0, none⟩) 64 (hexL D 32) := by
        have := bytes_of_row (byt_hexL D 32) a0
        rwa [hln] at this
      have hcv := conv_row hB (cap := 64) (by omega)
      obtain ⟨X, HX⟩ : ∃ X, Box (strOfNums (hexL D 32) = X) := ⟨_, ⟨rfl⟩⟩
      rw [HX.out] at hcv
      have HA : Hid _ := a1
      clear hB a0 a1 HWr hln hi hz0 hz1 hz2
      go_wp2
      go_ret
      exact ⟨by rw [HX.out]; rfl, HA.out⟩
end Go.Proofs.YtanpbceppjpblaaDoor
