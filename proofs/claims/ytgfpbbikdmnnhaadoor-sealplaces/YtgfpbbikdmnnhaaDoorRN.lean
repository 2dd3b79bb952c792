/-
  What the reference's Nonce answers, for every place and version.
-/
import Derived.Test.YtgfpbbikdmnnhaaDoorRB
namespace Go.Proofs.YtgfpbbikdmnnhaaDoor
set_option linter.unusedVariables false
open Go.RowKit Plain

theorem rput_k (x' x n : Int) (N : Nat) (w : World) (hx : 0 ≤ x ∧ x ≤ 18446744073709551615) (hN : n = (N : Int)) (h8 : N ≤ 8) (h1 : 1 ≤ N) (he : x' = x) :
    Calls Tryd.prog 18 #[.int .u64 x', .int .i64 n] w fun e w' => ∃ b off cap', e = .returned (.slice (some ⟨b, off, none⟩) N cap') ∧ Bytes w' (some ⟨b, off, none⟩) N (bytesOf x N) ∧ Below w.heap.size w w' ∧ w.heap.size ≤ b := by
  subst he
  refine (rput_any x' n N w hx (by omega) (by omega)).mono ?_
  rintro e w' ⟨a', cap', he, ho⟩
  have hB := ho.bytes (bytesOf_bd _ _)
  obtain ⟨b, off, rfl, _⟩ := hB.2.2 (by omega)
  exact ⟨b, off, cap', he, hB, ho.2.2, own_block_le ho.2.1 b rfl⟩
/-- Noughts for the result in block S, in the next one the bytes so far, and the two numbers' bytes. -/
structure Nr (w wr : World) (S : Nat) (X : List Int) : Prop where
  res : wr.heap[S]? = some (.cells (fil8 [] 12) 50 (0, 0))
  out : wr.heap[S + 1]? = some (.cells (fil8 X 12) 50 (0, 0))
  bel : Below S w wr
theorem Nr.on {w wr wx : World} {S : Nat} {X : List Int} (h : Nr w wr S X) (hb : Below wr.heap.size wr wx) : Nr w wx S X := by
  have l1 := (Array.getElem?_eq_some_iff.1 h.res).1
  exact ⟨row_on h.res hb, row_on h.out hb, h.bel.trans (hb.mono (by omega))⟩
theorem Nr.put {w wr : World} {S : Nat} {X : List Int} (h : Nr w wr S X) (i : Nat) (hi : X.length = i) (hX : i < 12) (v : Int) : Nr w (wr.setCell ⟨S + 1, i, none⟩ (.int .u8 v)) S (X ++ [v]) := by
  subst hi
  exact ⟨by rw [heap_setCell_other wr ⟨S + 1, X.length, none⟩ S _ (fun e => by simp at e)]; exact h.res, by rw [heap_setCell_same wr (S + 1) X.length _ 50 _ h.out, fil8_set X 12 v hX], below_set h.bel (by omega) _⟩
/-- Bytes elsewhere stay. -/
theorem bytes_put {wr : World} {b off n G i : Nat} {L : List Int} {v : Value} (h : Bytes wr (some ⟨b, off, none⟩) n L) (hn : 0 < n) (hne : b ≠ G) : Bytes (wr.setCell ⟨G, i, none⟩ v) (some ⟨b, off, none⟩) n L := by
  refine ⟨h.1, h.2.1, fun _ => ?_⟩
  obtain ⟨b', off', he, hlt, hc⟩ := h.2.2 hn
  simp only [Option.some.injEq, Addr.mk.injEq, and_true] at he
  obtain ⟨rfl, rfl⟩ := he
  refine ⟨b, off, rfl, by simpa using hlt, fun j hj => ?_⟩
  rw [← hc j hj]
  simp only [World.cell?, heap_setCell_other wr ⟨G, i, none⟩ b v hne]
theorem bytes_cell {wr : World} {b off n : Nat} {L : List Int} (h : Bytes wr (some ⟨b, off, none⟩) n L) (i : Nat) (hi : i < n) : wr.cell? ⟨b, off + i, none⟩ = some (.int .u8 (L.getD i 0)) := by
  obtain ⟨b', off', he, hlt, hc⟩ := h.2.2 (by omega)
  simp only [Option.some.injEq, Addr.mk.injEq, and_true] at he
  obtain ⟨rfl, rfl⟩ := he
  exact hc i hi

set_option maxRecDepth 20000 in
set_option maxHeartbeats 1000000 in
theorem rnonce_any (p v : Int) (w : World) (hp : W32 p) (hv : 0 ≤ v ∧ v ≤ 18446744073709551615) :
    Calls Tryd.prog 20 #[.int .u32 p, .int .u64 v] w fun e w' => e = .returned (.agg (u8s (non p v))) ∧ Below w.heap.size w w' := by
  obtain ⟨hp0, hp1⟩ := hp
  obtain ⟨S, hS⟩ : ∃ S, w.heap.size = S := ⟨_, rfl⟩
  have HS : Hid (w.heap.size = S) := hS
  have I0 : Box (Nr w ((w.alloc (.cells (fil8 [] 12) 50)).alloc (.cells (fil8 [] 12) 50)) S (bytesOf p 0)) := ⟨al_old (al_at hS), al_at (by simp [hS]), by rw [← hS]; exact ((Below.refl _ _).alloc (Nat.le_refl _) _).alloc (by simp) _⟩
  have z12 : fil8 [] 12 = #[.int .u8 0, .int .u8 0, .int .u8 0, .int .u8 0, .int .u8 0, .int .u8 0, .int .u8 0, .int .u8 0, .int .u8 0, .int .u8 0, .int .u8 0, .int .u8 0] := rfl
  rw [z12] at I0
  have C1 : Box (∀ x, Calls Tryd.prog 18 #[.int .u64 p, .int .i64 4] x fun e w' => ∃ b off cap', e = .returned (.slice (some ⟨b, off, none⟩) 4 cap') ∧ Bytes w' (some ⟨b, off, none⟩) 4 (bytesOf p 4) ∧ Below x.heap.size x w' ∧ x.heap.size ≤ b) := ⟨fun x => rput_k p p 4 4 x ⟨by omega, by omega⟩ rfl (by omega) (by omega) rfl⟩
  have C2 : Box (∀ x, Calls Tryd.prog 18 #[.int .u64 v, .int .i64 8] x fun e w' => ∃ b off cap', e = .returned (.slice (some ⟨b, off, none⟩) 8 cap') ∧ Bytes w' (some ⟨b, off, none⟩) 8 (bytesOf v 8) ∧ Below x.heap.size x w' ∧ x.heap.size ≤ b) := ⟨fun x => rput_k v v 8 8 x hv rfl (by omega) (by omega) rfl⟩
  have s1 : IntKind.u64.wrap p = p := by rw [IntKind.wrap_u64]; omega
  clear hS z12 hv
  go_enter Tryd.func20, Tryd.ntmps20
  go_upto_region 2 with fail
  rw [HS.out]
  generalize (w.alloc (.cells _ 50)).alloc _ = x0 at I0 ⊢
  go_wp2_with (first
    | (go_at_call 18; refine (C2.out w1).mono ?_; rintro e w2 ⟨b2, off2, c2, rfl, hB2, hb2, hl2⟩; have hn2 : b2 ≠ S + 1 := (by have := (Array.getElem?_eq_some_iff.1 H1.out.1.out).1; omega); have H2 : Box (Nr w w2 S (bytesOf p 0) ∧ Bytes w2 (some ⟨b1, off1, none⟩) 4 (bytesOf p 4) ∧ Bytes w2 (some ⟨b2, off2, none⟩) 8 (bytesOf v 8)) := ⟨H1.out.1.on hb2, H1.out.2.below hb2, hB2⟩; clear hB2 hb2 hl2)
    | (go_at_call 18; refine (C1.out x0).mono ?_; rintro e w1 ⟨b1, off1, c1, rfl, hB1, hb1, hl1⟩; have hn1 : b1 ≠ S + 1 := (by have := (Array.getElem?_eq_some_iff.1 I0.out.out).1; omega); have H1 : Box (Nr w w1 S (bytesOf p 0) ∧ Bytes w1 (some ⟨b1, off1, none⟩) 4 (bytesOf p 4)) := ⟨I0.out.on hb1, hB1⟩; clear hB1 hb1 hl1))
  clear I0 H1 C1 C2 s1
  go_loopw [8] (fun i wr => ∃ k : Nat, k ≤ 4 ∧ i = .int .i64 k ∧ Box (Nr w wr S (bytesOf p k) ∧ Bytes wr (some ⟨b1, off1, none⟩) 4 (bytesOf p 4) ∧ Bytes wr (some ⟨b2, off2, none⟩) 8 (bytesOf v 8))) (fun i _ => 4 - (intOf i).toNat)
  case atStart => exact ⟨0, by omega, rfl, H2⟩
  case round =>
    clear H2
    obtain ⟨k, hk, rfl, HB⟩ := hrel
    by_cases hlt : k < 4
    · have cb := bytes_cell HB.out.2.1 k hlt
      rw [bytesOf_get p 4 k hlt] at cb
      have hy := byteAt_bd p k
      obtain ⟨u, cu⟩ : ∃ u, wr.cell? ⟨S + 1, k, none⟩ = some u := by
        obtain ⟨u, hu⟩ := fil8_some (bytesOf p k) 12 k (by omega) (by rw [length_bytesOf]; omega)
        exact ⟨u, by rw [cell_of_row _ _ _ _ _ _ HB.out.1.out]; exact hu⟩
      have fv : wr.frozen? ⟨S + 1, k, none⟩ = false := frozen_of_row wr _ _ _ 50 HB.out.1.out
      have HN : Box (Nr w (wr.setCell ⟨S + 1, k, none⟩ (.int .u8 (byteAt p k))) S (bytesOf p (k + 1)) ∧ Bytes (wr.setCell ⟨S + 1, k, none⟩ (.int .u8 (byteAt p k))) (some ⟨b1, off1, none⟩) 4 (bytesOf p 4) ∧ Bytes (wr.setCell ⟨S + 1, k, none⟩ (.int .u8 (byteAt p k))) (some ⟨b2, off2, none⟩) 8 (bytesOf v 8)) := ⟨HB.out.1.put k (length_bytesOf p k) (by omega) _, bytes_put HB.out.2.1 (by omega) hn1, bytes_put HB.out.2.2 (by omega) hn2⟩
      generalize byteAt p k = y at cb hy HN
      obtain ⟨y0, y1⟩ := hy
      clear HB
      go_wp2
      go_roundw
      case rel => exact ⟨k + 1, by omega, by go_num, HN⟩
      case measure => simp [intOf]; omega
    · have HK : Box (k = 4) := ⟨by omega⟩
      rw [HK.out] at HB
      have H3 : Box (Nr w wr S (bytesOf p 4 ++ bytesOf v 0) ∧ Bytes wr (some ⟨b2, off2, none⟩) 8 (bytesOf v 8)) := ⟨by rw [show bytesOf v 0 = [] from rfl, List.append_nil]; exact HB.out.1, HB.out.2.2⟩
      clear HB
      go_wp2
      go_loopw [9] (fun i wr => ∃ k : Nat, k ≤ 8 ∧ i = .int .i64 k ∧ Box (Nr w wr S (bytesOf p 4 ++ bytesOf v k) ∧ Bytes wr (some ⟨b2, off2, none⟩) 8 (bytesOf v 8))) (fun i _ => 8 - (intOf i).toNat)
      case atStart => exact ⟨0, by omega, rfl, H3⟩
      case round =>
        clear H3
        obtain ⟨k, hk, rfl, HB⟩ := hrel
        by_cases hlt9 : k < 8
        · have cb := bytes_cell HB.out.2 k hlt9
          rw [bytesOf_get v 8 k hlt9] at cb
          have hy := byteAt_bd v k
          have hX : (bytesOf p 4 ++ bytesOf v k).length = 4 + k := by rw [List.length_append, length_bytesOf, length_bytesOf]
          obtain ⟨u, cu⟩ : ∃ u, wr.cell? ⟨S + 1, 4 + k, none⟩ = some u := by
            obtain ⟨u, hu⟩ := fil8_some (bytesOf p 4 ++ bytesOf v k) 12 (4 + k) (by omega) (by omega)
            exact ⟨u, by rw [cell_of_row _ _ _ _ _ _ HB.out.1.out]; exact hu⟩
          have fv : wr.frozen? ⟨S + 1, 4 + k, none⟩ = false := frozen_of_row wr _ _ _ 50 HB.out.1.out
          have HN : Box (Nr w (wr.setCell ⟨S + 1, 4 + k, none⟩ (.int .u8 (byteAt v k))) S (bytesOf p 4 ++ bytesOf v (k + 1)) ∧ Bytes (wr.setCell ⟨S + 1, 4 + k, none⟩ (.int .u8 (byteAt v k))) (some ⟨b2, off2, none⟩) 8 (bytesOf v 8)) := ⟨by
            have := HB.out.1.put (4 + k) hX (by omega) (byteAt v k)
            rw [List.append_assoc] at this
            exact this, bytes_put HB.out.2 (by omega) hn2⟩
          generalize byteAt v k = y at cb hy HN
          obtain ⟨y0, y1⟩ := hy
          clear HB hX
          go_wp2
          go_roundw
          case rel => exact ⟨k + 1, by omega, by go_num, HN⟩
          case measure => simp [intOf]; omega
        · have HK8 : Box (k = 8) := ⟨by omega⟩
          rw [HK8.out] at HB
          obtain ⟨X, HX⟩ := named (non p v)
          have hXl : X.length = 12 := by rw [← HX.out]; exact length_non p v
          have HI := HB.out.1
          rw [show bytesOf p 4 ++ bytesOf v 8 = non p v from rfl, HX.out] at HI
          have hsz : (u8s X).size = 12 := by rw [size_u8s, hXl]
          have hall := all_u8s X
          have HW := HI.out
          rw [fil8_full X 12 hXl] at HW
          have HF : Box (wr.heap[S + 1]? = some (.cells (u8s X) 50 (0, 0)) ∧ wr.heap[S]? = some (.cells (fil8 [] 12) 50 (0, 0)) ∧ Below S w wr) := ⟨HW, HI.res, HI.bel⟩
          clear HW HI HB
          go_wp2_with (first | (refine wpList_load_row rfl 50 _ rfl (S + 1) rfl 50 (u8s X) (0, 0) _ HF.out.1 Tryd.underlying50 rfl (by rw [hsz]; kernel_rfl) ?_) | (refine wpList_store_row rfl 50 _ _ rfl S (u8s X) rfl rfl 50 (fil8 [] 12) HF.out.2.1 (by rw [hsz]; kernel_rfl) (by rw [hsz]; rfl) hall ?_))
          (try simp only [Exit.inBlock, Exit.then])
          refine bodyPost_ret (results_cell_row (p := 4) (ty := 50) rfl _ _ S 50 (u8s X) (0, 0) _ rfl (setRow_heap _ _ _ _ _ _ HF.out.2.1) Tryd.underlying50 rfl (by rw [hsz]; kernel_rfl)) rfl ?_
          exact ⟨by rw [HX.out], by rw [HS.out]; exact below_setRow HF.out.2.2 (Nat.le_refl _) _⟩
end Go.Proofs.YtgfpbbikdmnnhaaDoor
