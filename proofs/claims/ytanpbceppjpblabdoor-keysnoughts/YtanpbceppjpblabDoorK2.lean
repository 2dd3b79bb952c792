/-
  What the function literal inside the Go function Mac of package keys answers: a key's 64 bytes, each xor another.
-/
import Derived.Test.YtanpbceppjpblabDoorK1
namespace Go.Proofs.YtanpbceppjpblabDoor
set_option linter.unusedVariables false
open Go.RowKit Plain

theorem make6464 (w : World) : (Instr.makeSlice 22 (.int .i64 64) (.int .i64 64)).run Tryd.prog w = .ok (.slice (some ⟨w.heap.size, 0, none⟩) 64 64) (w.alloc (.cells (fil8 [] 64) 5)) := by kernel_rfl
theorem index64 (X : List Int) (hX : X.length = 64) (k : Nat) (hk : k < 64) (w : World) : (Instr.index 38 (.agg (u8s X)) (.int .i64 k)).run Tryd.prog w = .ok (.int .u8 (X.getD k 0)) w :=
  run_index_row Tryd.underlying38 Tryd.underlying5 rfl (by kernel_rfl) k hk (by simp [u8s, hX, hk]) w
theorem ovr_take (P : List Int) (x : Int) (k : Nat) (h : k < P.length) : ovr (P.take (k + 1)) x = ovr (P.take k) x ++ [xr x (P.getD k 0)] := by
  have e : P.getD k 0 = P[k] := by simp [List.getD, h]
  rw [e, ovr, ovr, List.take_succ_eq_append_getElem h, List.map_append]
  rfl

set_option maxRecDepth 20000 in
set_option maxHeartbeats 400000 in
theorem lay_any (G : Nat) (P : List Int) (x : Int) (w : World) (hP : P.length = 64) (hb : Byt P) (hx : 0 ≤ x ∧ x ≤ 255) (hG : w.heap[G]? = some (.cells (u8s P) 38 (0, 0))) :
    Calls Tryd.prog 15 #[.int .u8 x, .pointer (some ⟨G, 0, none⟩)] w fun e w' => e = .returned (.slice (some ⟨w.heap.size, 0, none⟩) 64 64) ∧ Bytes w' (some ⟨w.heap.size, 0, none⟩) 64 (ovr P x) ∧ Below w.heap.size w w' := by
  have hmk := make6464
  have hsz : (u8s P).size = 64 := by rw [size_u8s, hP]
  have HG : Box (w.heap[G]? = some (.cells (u8s P) 38 (0, 0))) := ⟨hG⟩
  clear hG
  go_enter Tryd.func15, Tryd.ntmps15
  go_wp2_with (refine wpList_load_row rfl 38 (.tmp 1) rfl G rfl 38 (u8s P) (0, 0) _ (al_old HG.out) Tryd.underlying38 rfl (by rw [hsz]; kernel_rfl) ?_)
  have HX : Box ((w.alloc (.cells (fil8 [] 64) 5)).heap[w.heap.size]? = some (.cells (fil8 (ovr (P.take 0) x) 64) 5 (0, 0)) ∧ Below w.heap.size w (w.alloc (.cells (fil8 [] 64) 5))) := ⟨al_at rfl, (Below.refl _ _).alloc (Nat.le_refl _) _⟩
  generalize w.alloc (.cells (fil8 [] 64) 5) = x0 at HX ⊢
  clear hmk
  go_loopw [9] (fun i wr => ∃ k : Nat, k ≤ 64 ∧ i = .int .i64 k ∧ Box (wr.heap[w.heap.size]? = some (.cells (fil8 (ovr (P.take k) x) 64) 5 (0, 0)) ∧ Below w.heap.size w wr)) (fun i _ => 64 - (intOf i).toNat)
  case atStart => exact ⟨0, Nat.zero_le _, rfl, HX⟩
  case round =>
    clear HX
    obtain ⟨k, hk, rfl, HB⟩ := hrel
    by_cases hlt : k < 64
    · have hidx := index64 P hP k hlt
      obtain ⟨z, HZ⟩ : ∃ z, Hid (P.getD k 0 = z) := ⟨_, rfl⟩
      have hbz := hb k
      rw [HZ.out] at hidx hbz
      have hln : (ovr (P.take k) x).length = k := by rw [length_ovr, List.length_take]; omega
      have f1 : wr.frozen? ⟨w.heap.size, k, none⟩ = false := frozen_of_row wr _ _ _ 5 HB.out.1
      obtain ⟨v, hcw⟩ : ∃ v, wr.cell? ⟨w.heap.size, k, none⟩ = some v := by
        obtain ⟨v, hv⟩ := fil8_some (ovr (P.take k) x) 64 k hlt (by omega)
        exact ⟨v, by rw [cell_of_row _ _ _ _ _ _ HB.out.1]; exact hv⟩
      have HN : Box ((wr.setCell ⟨w.heap.size, k, none⟩ (.int .u8 (bits .xor .u8 z x))).heap[w.heap.size]? = some (.cells (fil8 (ovr (P.take (k + 1)) x) 64) 5 (0, 0)) ∧ Below w.heap.size w (wr.setCell ⟨w.heap.size, k, none⟩ (.int .u8 (bits .xor .u8 z x)))) := ⟨by
        have h0 := HB.out.2
        refine ⟨?_, h0.os, h0.tape, h0.output, by simpa using h0.size, fun j hj => by rw [heap_setCell_other wr ⟨w.heap.size, k, none⟩ j _ (fun e => by simp at e; omega)]; exact h0.block j hj⟩
        rw [heap_setCell_same wr _ k _ 5 _ HB.out.1, ovr_take P x k (by omega), HZ.out, ← fil8_set _ _ _ (by omega), hln]
        rfl⟩
      clear HZ hln
      go_wp2
      go_roundw
      case rel => exact ⟨k + 1, by omega, by go_num, HN⟩
      case measure => simp [intOf]; omega
    · have hk64 : k = 64 := by omega
      subst hk64
      obtain ⟨a1, a2⟩ := HB.out
      rw [List.take_of_length_le (by omega), fil8_full _ 64 (by rw [length_ovr, hP])] at a1
      have hBy := bytes_of_row (byt_ovr P x) a1
      rw [length_ovr, hP] at hBy
      have HF : Box (Bytes wr (some ⟨w.heap.size, 0, none⟩) 64 (ovr P x) ∧ Below w.heap.size w wr) := ⟨hBy, a2⟩
      clear hBy a1 a2 HB
      go_wp2
      go_ret
      exact ⟨rfl, HF.out⟩
end Go.Proofs.YtanpbceppjpblabDoor
