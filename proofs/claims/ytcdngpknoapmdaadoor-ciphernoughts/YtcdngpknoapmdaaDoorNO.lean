/-
  The walk of CipherNoughts: noughts that are laid over are the blocks of the stream, one behind the other: the law returns true, in every memory that holds the package's table.
-/
import Derived.Test.YtcdngpknoapmdaaDoorBL
namespace Go.Proofs.YtcdngpknoapmdaaDoor
set_option linter.unusedVariables false
open Go.RowKit Plain

theorem noughts_at (K : List Int) (c : Int) (N : List Int) (k t j : Nat) (hj : j < 64) (h : 64 * t + j < k) (hc : 0 ≤ c) (hct : c + (t : Int) < 4294967296) : (cr K c N (List.replicate k 0) k).getD (64 * t + j) 0 = (blk K (c + (t : Int)) N).getD j 0 := by
  rw [cr_at _ _ _ _ _ _ h]
  have e0 : (List.replicate k (0 : Int)).getD (64 * t + j) 0 = 0 := by
    simp only [List.getD, List.getElem?_replicate]
    rw [if_pos h]
    rfl
  rw [e0, xr_nought _ (stm_bd _ _ _ _)]
  unfold stm
  rw [show (64 * t + j) / 64 = t by omega, show (64 * t + j) % 64 = j by omega, Int.emod_eq_of_lt (by omega) (by omega)]

set_option maxRecDepth 20000 in
set_option maxHeartbeats 2000000 in
theorem noughts_in (K N : List Int) (ctr n c : Int) (k : Nat) (w : World) (hT : Tab w) (hKl : K.length = 32) (hKb : Byt K) (hNl : N.length = 12) (hNb : Byt N) (hn : 0 ≤ n ∧ n ≤ 65535) (h400 : n % 400 = (k : Int)) (hcc : bits .and .u32 ctr 16777215 = c) (hc : 0 ≤ c ∧ c ≤ 16777215) :
    Calls Tryd.prog 7 #[.agg (u8s K), .int .u32 ctr, .agg (u8s N), .int .u16 n] w fun e w' => e = .returned (.bool true) ∧ Below w.heap.size w w' := by
  have hk : k < 400 := by omega
  have hmk := run_make_row' (P := Tryd.prog) 31 5 (.int .u8 0) 1 Tryd.underlying31 Tryd.info5 rfl .i64 .i64 k (by omega) (by omega)
  obtain ⟨Z, EZ⟩ := named (cr K c N (List.replicate k 0) k)
  have HZ : Box (∀ t j : Nat, j < 64 → 64 * t + j < k → Z.getD (64 * t + j) 0 = (blk K (c + (t : Int)) N).getD j 0) := ⟨fun t j hj h => by rw [← EZ.out]; exact noughts_at K c N k t j hj h hc.1 (by omega)⟩
  have HZb : Box (Byt Z) := ⟨by rw [← EZ.out]; exact byt_cr _ _ _ _ _⟩
  have HT : Box (∀ x, Below w.heap.size w x → Tab x) := ⟨fun x hx => hT.below hx⟩
  have C1 : Box (∀ x, Below w.heap.size w x → Calls Tryd.prog 13 #[.agg (u8s K), .int .u32 c, .agg (u8s N), .slice (some ⟨x.heap.size, 0, none⟩) k k] (x.alloc (.cells (madeCells #[.int .u8 0] k) 5)) fun e w' => ∃ a', e = .returned (.tuple #[.slice a' k k, .int .i64 0]) ∧ Bytes w' a' k Z ∧ Below (x.alloc (.cells (madeCells #[.int .u8 0] k) 5)).heap.size (x.alloc (.cells (madeCells #[.int .u8 0] k) 5)) w') := ⟨fun x hx => by
    have hb : Below x.heap.size x (x.alloc (.cells (madeCells #[.int .u8 0] k) 5)) := (Below.refl _ _).alloc (Nat.le_refl _) _
    have hB : Bytes (x.alloc (.cells (madeCells #[.int .u8 0] k) 5)) (some ⟨x.heap.size, 0, none⟩) k (List.replicate k 0) := by
      have := bytes_of_row (X := List.replicate k 0) (byt_zeros k) (show (x.alloc (.cells (madeCells #[.int .u8 0] k) 5)).heap[x.heap.size]? = some (.cells (u8s (List.replicate k 0)) 5 (0, 0)) from by rw [al_at rfl, made8])
      rwa [List.length_replicate] at this
    rw [← EZ.out]
    exact crypt_ok _ k k K N (List.replicate k 0) c _ hKb hKl hNb hNl ⟨by omega, by omega⟩ ((HT.out x hx).below hb) hB (by omega) (by omega)⟩
  have C2 : Box (∀ x (t : Nat), 64 * t < k → Calls Tryd.prog 11 #[.agg (u8s K), .int .u32 (c + (t : Int)), .agg (u8s N)] x fun e w' => e = .returned (.agg (u8s (blk K (c + (t : Int)) N))) ∧ Below x.heap.size x w') := ⟨fun x t ht => rblock_any K N _ x hKb hKl hNb hNl ⟨by omega, by omega⟩⟩
  have HA : Box (∀ x, Tab x → Calls Tryd.prog 9 #[] x fun e w' => e = .returned (.bool true) ∧ Below x.heap.size x w') := ⟨fun x hx => awake_any x hx⟩
  obtain ⟨S, hS⟩ : ∃ S, w.heap.size = S := ⟨_, rfl⟩
  have HS : Hid (w.heap.size = S) := hS
  have H0 : Box (Tw w ((w.alloc (.cells (u8s K) 23)).alloc (.cells (u8s N) 25)) S K N) := ⟨al_old (al_at hS), al_at (by simp [hS]), ((Below.refl _ _).alloc (Nat.le_refl _) _).alloc (by simp) _⟩
  clear hS hT hKb hNb EZ
  go_enter Tryd.func7, Tryd.ntmps7
  go_upto_region 1 with fail
  rw [HS.out]
  generalize (w.alloc (.cells (u8s K) 23)).alloc (.cells (u8s N) 25) = x0 at H0 ⊢
  go_upto_region 6 with (go_at_call 9; refine (HA.out x0 (HT.out x0 H0.out.2.2)).mono ?_; rintro e w1 ⟨rfl, hb1⟩; have H1 : Box (Tw w w1 S K N) := ⟨H0.out.on hb1⟩; clear hb1)
  refine Seq.begin_any (by kernel_rfl) (fun wd hd => ?_)
  refine Seq.take_lat (i := 0) (v := .agg (u8s K)) rfl (by kernel_rfl) (by kernel_rfl) (by kernel_rfl) (fun _ _ _ h => h) (by rfl) (fun w' hLat => exec_load8 23 32 Tryd.underlying23 size32 (.tmp 4) rfl S rfl K hKl (row_on ((H1.out.on hd).1) hLat)) ?_
  try simp only [Act.put, List.setIfInBounds_toArray, List.set_cons_zero, List.set_cons_succ, List.getElem_toArray, List.getElem_cons_zero]
  refine Seq.take_lat (i := 1) (v := ?_) rfl (by kernel_rfl) (by kernel_rfl) (by kernel_rfl) (fun _ _ _ h => h) (by rfl) ?_ ?_
  rotate_left
  · intro w' hLat; change Below _ _ _ at hLat; go_simp <;> with_reducible rfl
  try simp only [Act.put, List.setIfInBounds_toArray, List.set_cons_zero, List.set_cons_succ, List.getElem_toArray, List.getElem_cons_zero, List.getElem_cons_succ]
  refine Seq.take_lat (i := 2) (v := .agg (u8s N)) rfl (by kernel_rfl) (by kernel_rfl) (by kernel_rfl) (fun _ _ _ h => h) (by rfl) (fun w' hLat => exec_load8 25 12 Tryd.underlying25 size12 (.tmp 6) rfl (S + 1) rfl N hNl (row_on ((H1.out.on hd).2.1) hLat)) ?_
  try simp only [Act.put, List.setIfInBounds_toArray, List.set_cons_zero, List.set_cons_succ, List.getElem_toArray, List.getElem_cons_zero, List.getElem_cons_succ]
  refine Seq.take_lat (i := 3) (v := ?_) rfl (by kernel_rfl) (by kernel_rfl) (by kernel_rfl) (fun _ _ _ h => h) (by rfl) ?_ ?_
  rotate_left
  · intro w' hLat; change Below _ _ _ at hLat; go_simp <;> with_reducible rfl
  try simp only [Act.put, List.setIfInBounds_toArray, List.set_cons_zero, List.set_cons_succ, List.getElem_toArray, List.getElem_cons_zero, List.getElem_cons_succ]
  refine Seq.only_lat (i := 4) rfl (by kernel_rfl) (fun KK hK => ?_)
  rw [if_pos (by rfl)]
  go_simp
  refine hK.out _ _ ((Below.refl _ _).alloc (Nat.le_refl _) _) ?_
  clear hK KK
  try simp only [Act.put, List.setIfInBounds_toArray, List.set_cons_zero, List.set_cons_succ, List.getElem_toArray, List.getElem_cons_zero, List.getElem_cons_succ]
  refine Seq.only_lat (i := 5) rfl (by kernel_rfl) (fun KK hK => ?_)
  rw [if_pos (by rfl)]
  go_simp
  refine Calls.mono (C1.out wd (H1.out.on hd).2.2) ?_
  rintro e w2 ⟨a2, rfl, hB2, hb2⟩
  have H2 : Box (Tw w w2 S K N ∧ Bytes w2 a2 k Z) := ⟨((H1.out.on hd).on ((Below.refl _ _).alloc (Nat.le_refl _) (.cells (madeCells #[.int .u8 0] k) 5))).on hb2, hB2⟩
  refine hK.out _ _ hb2 ?_
  clear hB2 hb2
  clear hK KK
  try simp only [Act.put, List.setIfInBounds_toArray, List.set_cons_zero, List.set_cons_succ, List.getElem_toArray, List.getElem_cons_zero, List.getElem_cons_succ]
  refine Seq.take_lat (i := 6) (v := ?_) rfl (by kernel_rfl) (by kernel_rfl) (by kernel_rfl) (fun _ _ _ h => h) (by rfl) ?_ ?_
  rotate_left
  · intro w' hLat; change Below _ _ _ at hLat; go_simp <;> with_reducible rfl
  try simp only [Act.put, List.setIfInBounds_toArray, List.set_cons_zero, List.set_cons_succ, List.getElem_toArray, List.getElem_cons_zero, List.getElem_cons_succ]
  refine Seq.take_lat (i := 7) (v := ?_) rfl (by kernel_rfl) (by kernel_rfl) (by kernel_rfl) (fun _ _ _ h => h) (by rfl) ?_ ?_
  rotate_left
  · intro w' hLat; change Below _ _ _ at hLat; go_simp <;> with_reducible rfl
  try simp only [Act.put, List.setIfInBounds_toArray, List.set_cons_zero, List.set_cons_succ, List.getElem_toArray, List.getElem_cons_zero, List.getElem_cons_succ]
  refine Seq.take_lat (i := 8) (v := ?_) rfl (by kernel_rfl) (by kernel_rfl) (by kernel_rfl) (fun _ _ _ h => h) (by rfl) ?_ ?_
  rotate_left
  · intro w' hLat; change Below _ _ _ at hLat; go_simp <;> with_reducible rfl
  try simp only [Act.put, List.setIfInBounds_toArray, List.set_cons_zero, List.set_cons_succ, List.getElem_toArray, List.getElem_cons_zero, List.getElem_cons_succ]
  refine Seq.take_lat (i := 9) (v := ?_) rfl (by kernel_rfl) (by kernel_rfl) (by kernel_rfl) (fun _ _ _ h => h) (by rfl) ?_ ?_
  rotate_left
  · intro w' hLat; change Below _ _ _ at hLat; go_simp <;> with_reducible rfl
  try simp only [Act.put, List.setIfInBounds_toArray, List.set_cons_zero, List.set_cons_succ, List.getElem_toArray, List.getElem_cons_zero, List.getElem_cons_succ]
  refine Seq.take_lat (i := 10) (v := ?_) rfl (by kernel_rfl) (by kernel_rfl) (by kernel_rfl) (fun _ _ _ h => h) (by rfl) ?_ ?_
  rotate_left
  · intro w' hLat; change Below _ _ _ at hLat; go_simp <;> with_reducible rfl
  try simp only [Act.put, List.setIfInBounds_toArray, List.set_cons_zero, List.set_cons_succ, List.getElem_toArray, List.getElem_cons_zero, List.getElem_cons_succ]
  refine wpAnyH_done (by kernel_rfl) ?_ _
  clear hmk C1 HA H0 H1
  go_wp2
  go_loopw [14] (fun i wr => ∃ t : Nat, 64 * t ≤ k + 63 ∧ i = .int .i64 ((64 * t : Nat) : Int) ∧ Box (Tw w wr S K N ∧ Bytes wr a2 k Z)) (fun i _ => 1000 - (intOf i).toNat)
  case atStart => exact ⟨0, by omega, rfl, H2⟩
  case round =>
    clear H2
    obtain ⟨t, ht, rfl, HB⟩ := hrel
    obtain ⟨i, hi⟩ : ∃ i, 64 * t = i := ⟨_, rfl⟩
    have Hi : Box (64 * t = i) := ⟨hi⟩
    rw [hi]
    by_cases hlt : i < k
    · have hq : (i : Int) / 64 = (t : Int) := by omega
      have s2 : IntKind.u32.wrap (t : Int) = (t : Int) := by rw [IntKind.wrap_u32]; omega
      have hti : 64 * t < k := by omega
      obtain ⟨X, EX⟩ := named (blk K (c + (t : Int)) N)
      have hXl : X.length = 64 := by rw [← EX.out]; exact length_blk _ _ _
      have HXb : Box (Byt X) := ⟨by rw [← EX.out]; exact byt_blk _ _ _⟩
      have C3 : Box (Calls Tryd.prog 11 #[.agg (u8s K), .int .u32 (c + (t : Int)), .agg (u8s N)] wr fun e w' => e = .returned (.agg (u8s X)) ∧ Below wr.heap.size wr w') := ⟨by rw [← EX.out]; exact C2.out wr t hti⟩
      have HXZ : Box (∀ j : Nat, j < 64 → i + j < k → Z.getD (i + j) 0 = X.getD j 0) := ⟨fun j hj h => by rw [← EX.out, ← hi]; exact HZ.out t j hj (by omega)⟩
      clear hi ht hti EX
      go_wp2_with (first
        | (refine wpList_put64 w5 X hXl rfl (.tmp 15) (.tmp 54) rfl rfl rfl _ rfl ?_; intro z5 hz5 hb5; have H5 : Box (Tw w z5 S K N ∧ Bytes z5 a2 k Z ∧ z5.heap[w5.heap.size]? = some (.cells (u8s X) 27 (0, 0))) := ⟨H4.out.1.on hb5, H4.out.2.below hb5, hz5⟩; clear hz5 hb5)
        | (go_at_call 11; refine C3.out.mono ?_; rintro e w5 ⟨rfl, hb⟩; have H4 : Box (Tw w w5 S K N ∧ Bytes w5 a2 k Z) := ⟨HB.out.1.on hb, HB.out.2.below hb⟩; clear hb)
        | (refine wpList_seeNon (S + 1) N hNl HB.out.1.2.1 rfl (.tmp 6) rfl rfl ?_)
        | (refine wpList_seeKey S K hKl HB.out.1.1 rfl (.tmp 4) rfl rfl ?_))
      generalize w5.heap.size = V at H5 ⊢
      clear H4 C3 HB hq s2
      obtain ⟨bb, off, rfl, hbl, hcl⟩ := H5.out.2.1.2.2 (by omega)
      clear hbl hcl
      have HBB : Box (∀ x, Bytes x (some ⟨bb, off, none⟩) k Z → ∀ i, i < k → x.cell? ⟨bb, off + i, none⟩ = some (.int .u8 (Z.getD i 0))) := ⟨fun x hx i hi => by
        obtain ⟨b', off', he, _, hc'⟩ := hx.2.2 (by omega)
        simp only [Option.some.injEq, Addr.mk.injEq, and_true] at he
        obtain ⟨rfl, rfl⟩ := he
        exact hc' i hi⟩
      go_loopw [16] (fun j wr => ∃ s : Nat, s ≤ 64 ∧ j = .int .i64 s ∧ Box (Tw w wr S K N ∧ Bytes wr (some ⟨bb, off, none⟩) k Z ∧ wr.heap[V]? = some (.cells (u8s X) 27 (0, 0)))) (fun j _ => 64 - (intOf j).toNat)
      case atStart => exact ⟨0, by omega, rfl, H5⟩
      case round =>
        clear H5
        obtain ⟨j, hj, rfl, HJ⟩ := hrel
        by_cases hin : j < 64 ∧ i + j < k
        · obtain ⟨h1, h2⟩ := hin
          have e1 : (j : Int) < 64 := by omega
          obtain ⟨p, hp⟩ : ∃ p, i + j = p := ⟨_, rfl⟩
          have e2 : (i : Int) + (j : Int) = (p : Int) := by omega
          have e3 : (p : Int) < (k : Int) := by omega
          have cz := HBB.out wr HJ.out.2.1 p (by omega)
          have cx := row_cell wr V j X _ _ HJ.out.2.2 (by omega)
          have hz := HZb.out p
          rw [← hp, HXZ.out j h1 h2, hp] at cz
          have hx := HXb.out j
          generalize X.getD j 0 = z at cz cx hx
          clear hz
          obtain ⟨z0, z1⟩ := hx
          go_wp2
          go_quiet (fail)
          have HD : Box (Tw w (wr.drewN nq) S K N ∧ Bytes (wr.drewN nq) (some ⟨bb, off, none⟩) k Z ∧ (wr.drewN nq).heap[V]? = some (.cells (u8s X) 27 (0, 0))) := ⟨⟨HJ.out.1.1, HJ.out.1.2.1, HJ.out.1.2.2.os, HJ.out.1.2.2.tape, HJ.out.1.2.2.output, HJ.out.1.2.2.size, HJ.out.1.2.2.block⟩, HJ.out.2.1, HJ.out.2.2⟩
          clear cz cx HJ
          generalize wr.drewN nq = y1 at HD ⊢
          go_wp2
          go_roundw
          case rel => exact ⟨j + 1, by omega, by go_num, HD⟩
          case measure => simp [intOf]; omega
        · have HN : Box (64 * (t + 1) ≤ k + 63 ∧ 64 * (t + 1) = i + 64) := ⟨by have := Hi.out; omega⟩
          have HR : Box (Tw w wr S K N ∧ Bytes wr (some ⟨bb, off, none⟩) k Z) := ⟨HJ.out.1, HJ.out.2.1⟩
          by_cases h1 : j < 64
          · have e1 : (j : Int) < 64 := by omega
            have e2 : decide ((i : Int) + (j : Int) < (k : Int)) = false := by simp; omega
            clear hin HJ
            go_wp2
            go_roundw
            case rel => exact ⟨t + 1, HN.out.1, by rw [HN.out.2]; go_num, HR⟩
            case measure => simp [intOf]; omega
          · have e1 : decide ((j : Int) < 64) = false := by simp; omega
            clear hin HJ
            go_wp2
            go_roundw
            case rel => exact ⟨t + 1, HN.out.1, by rw [HN.out.2]; go_num, HR⟩
            case measure => simp [intOf]; omega
    · have HF : Box (Below w.heap.size w wr) := ⟨HB.out.1.2.2⟩
      clear HB
      go_wp2
      go_ret
      exact ⟨rfl, HF.out⟩

theorem cipherNoughts_walk (K : List Int) (ctr : Int) (N : List Int) (n : Int) (W : World) (hT : Tab W) (hKl : K.length = 32) (hKb : Byt K) (w1 : (Lit.int .u32 ctr).wf = true) (hNl : N.length = 12) (hNb : Byt N) (w3 : (Lit.int .u16 n).wf = true) :
    Calls Tryd.prog 7 #[.agg (u8s K), .int .u32 ctr, .agg (u8s N), .int .u16 n] W fun e w' => e = .returned (.bool true) ∧ Below W.heap.size W w' := by
  have b1 := bounds_u32 w1
  have b3 := bounds_u16 w3
  obtain ⟨k, h400⟩ : ∃ k : Nat, n % 400 = (k : Int) := ⟨(n % 400).toNat, by omega⟩
  have hand := u32_and ctr 16777215 (by omega) (by omega) (by omega) (by omega)
  have hle : ctr.toNat &&& (16777215 : Int).toNat ≤ 16777215 := Nat.and_le_right
  exact noughts_in K N ctr n _ k W hT hKl hKb hNl hNb b3 h400 hand ⟨by omega, by omega⟩
end Go.Proofs.YtcdngpknoapmdaaDoor
