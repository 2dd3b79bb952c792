/-
  What the reference's Get of layer 19 answers, for any bytes.
-/
import Derived.Test.YtpdggopkalbbeaaNF
import Derived.Test.YtpdggopkalbbeaaND
namespace Go.Proofs.Ytpdggopkalbbeaa
set_option linter.unusedVariables false
open Go.RowKit Plain

theorem u8_back (z : Int) (h : 0 ≤ z ∧ z ≤ 255) : ((UInt8.ofNat z.toNat).toNat : Int) = z := by simp; omega
theorem str_data (L : List Int) : (strOfNums L).data = (L.map fun n => UInt8.ofNat n.toNat).toArray := rfl
theorem str_size (L : List Int) : (strOfNums L).size = L.length := by
  show (strOfNums L).data.size = L.length
  simp [strOfNums]
theorem conv_str (w : World) (L : List Int) (hL : Byt L) : ∃ c w', (convert 9 27 (.string (strOfNums L))).run Try.prog w = .ok (.slice (some ⟨w.heap.size, 0, none⟩) L.length c) w' ∧ Bytes w' (some ⟨w.heap.size, 0, none⟩) L.length L ∧ Below w.heap.size w w' := by
  have h := run_bytes_of_string (P := Try.prog) w 9 27 5 (strOfNums L) Try.underlying9 Try.underlying27 Try.underlying5
  rw [str_size] at h
  refine ⟨_, _, h, ⟨rfl, hL, fun hp => ⟨w.heap.size, 0, rfl, by simp, fun i hi => ?_⟩⟩, ((Below.refl _ _).drew).alloc (Nat.le_refl _) _⟩
  have ha : (w.drew.alloc (.cells (bytesRow (strOfNums L) (grownCap w L.length 0 5)) 5 ((bytesRow (strOfNums L) (grownCap w L.length 0 5)).size, (bytesRow (strOfNums L) (grownCap w L.length 0 5)).size + 1))).heap[w.heap.size]? = some (.cells (bytesRow (strOfNums L) (grownCap w L.length 0 5)) 5 ((bytesRow (strOfNums L) (grownCap w L.length 0 5)).size, (bytesRow (strOfNums L) (grownCap w L.length 0 5)).size + 1)) := al_at rfl
  rw [cell_of_row _ _ _ _ _ _ ha, Nat.zero_add]
  have hb := hL i
  have hg : L.getD i 0 = L[i] := by simp [List.getD, hi]
  rw [hg] at hb ⊢
  unfold bytesRow
  rw [Array.getElem?_append_left (by simp [str_data]; exact hi)]
  simp [str_data, hi]
  omega
theorem index_str (L : List Int) (hL : Byt L) (i : Nat) (hi : i < L.length) (w : World) : (Instr.index 9 (.string (strOfNums L)) (.int .i64 (i : Int))).run Try.prog w = .ok (.int .u8 (L.getD i 0)) w := by
  rw [run_index_string w 9 _ .i64 (i : Int) Try.underlying9, dif_pos ⟨by omega, by rw [str_size]; omega⟩]
  have hb := hL i
  have hg : L.getD i 0 = L[i] := by simp [List.getD, hi]
  rw [hg] at hb ⊢
  have e : ((strOfNums L)[(i : Int).toNat]'(by rw [str_size]; omega)) = UInt8.ofNat (L[i]).toNat := by
    simp only [Int.toNat_natCast]
    show (strOfNums L).data[i]'_ = _
    simp [str_data]
  rw [e, u8_back _ hb]
theorem exec_ix {o : Oper} {ρ : Operand → Value} {w : World} (t : TypeId) (x y : Operand) (ho : o.op = .index t x y) (v u r : Value) (hx : ρ x = v) (hy : ρ y = u) (h : ∀ z, (Instr.index t v u).run Try.prog z = .ok r z) : (execOp ρ o).run Try.prog w = .ok (.value r) w := by
  unfold execOp
  simp only [ho, hx, hy, Sem.run_bind, Sem.run_pure, h, Result.andThen_ok]
theorem exec_cv {o : Oper} {ρ : Operand → Value} {w w' : World} (s t : TypeId) (x : Operand) (ho : o.op = .convert s t x) (v r : Value) (hx : ρ x = v) (h : (convert s t v).run Try.prog w = .ok r w') : (execOp ρ o).run Try.prog w = .ok (.value r) w' := by
  unfold execOp
  simp only [ho, hx, Sem.run_bind, Sem.run_pure, h, Result.andThen_ok]
/-- Where the reference's Get stands: noughts for the answer in block S, the inode in block S + 1. -/
structure Gr (w wr : World) (S : Nat) (N : Nd) : Prop where
  res : Lies' wr S zn
  cel : Lies' wr (S + 1) N
  bel : Below S w wr
theorem Gr.on {w wr w' : World} {S : Nat} {N : Nd} (h : Gr w wr S N) (hb : Below wr.heap.size wr w') : Gr w w' S N :=
  ⟨h.res.below hb, h.cel.below hb, h.bel.trans (hb.mono (Nat.le_of_lt h.res.lt))⟩
theorem Gr.put {w wr : World} {S : Nat} {N M : Nd} (h : Gr w wr S N) (k : Nat) (v : Value) (e : (nc N).setIfInBounds k v = nc M) : Gr w (wr.setCell ⟨S + 1, k, none⟩ v) S M := by
  have hb := below_set h.bel (Nat.le_succ S) v (i := k)
  exact ⟨(heap_setCell_other wr ⟨S + 1, k, none⟩ S _ (by simp)).trans h.res, by unfold Lies'; rw [heap_setCell_same wr (S + 1) k _ _ _ h.cel, e], hb⟩
theorem upto_set (L : List Int) (k : Nat) (hk : k < 5) : setB (upto L k) k (num L (8 + 2 * k) 2) = upto L (k + 1) := upto_succ L k hk
theorem zn_k (x : Int) : (nc zn).setIfInBounds 0 (.int .u8 x) = nc ⟨x, 0, 0, 0, 0, 0, 0, 0⟩ := rfl
theorem zn_l (x l : Int) : (nc ⟨x, 0, 0, 0, 0, 0, 0, 0⟩).setIfInBounds 1 (.int .u16 l) = nc ⟨x, l, 0, 0, 0, 0, 0, 0⟩ := rfl
theorem zn_z (x l z : Int) : (nc ⟨x, l, 0, 0, 0, 0, 0, 0⟩).setIfInBounds 2 (.int .u32 z) = nc ⟨x, l, z, 0, 0, 0, 0, 0⟩ := rfl
theorem bytes_set {w : World} {g n : Nat} {L : List Int} (h : Bytes w (some ⟨g, 0, none⟩) n L) (B k : Nat) (v : Value) (hne : g ≠ B) : Bytes (w.setCell ⟨B, k, none⟩ v) (some ⟨g, 0, none⟩) n L := by
  refine ⟨h.1, h.2.1, fun hp => ?_⟩
  obtain ⟨b, o, e, hlt, hc⟩ := h.2.2 hp
  simp only [Option.some.injEq, Addr.mk.injEq, and_true] at e
  obtain ⟨rfl, rfl⟩ := e
  refine ⟨g, 0, rfl, by simpa using hlt, fun i hi => ?_⟩
  rw [← hc i hi]
  unfold World.cell?
  simp only
  rw [heap_setCell_other w ⟨B, k, none⟩ g _ hne]
/-- Where the reference's Get stands, the bytes in block g. -/
structure Gb (w wr : World) (S : Nat) (N : Nd) (g : Nat) (L : List Int) : Prop where
  gr : Gr w wr S N
  byt : Bytes wr (some ⟨g, 0, none⟩) 32 L
  lt : S + 1 < g
theorem Gb.put {w wr : World} {S : Nat} {N M : Nd} {g : Nat} {L : List Int} (h : Gb w wr S N g L) (k : Nat) (v : Value) (e : (nc N).setIfInBounds k v = nc M) : Gb w (wr.setCell ⟨S + 1, k, none⟩ v) S M g L :=
  ⟨h.gr.put k v e, bytes_set h.byt _ _ _ (by have := h.lt; omega), h.lt⟩
theorem not_fit_len {L : List Int} {n : Nat} (h : L.length = n) (hn : n ≠ 32) : ¬ Fit L := fun h2 => hn (by rw [← h]; exact h2.1)

set_option maxRecDepth 20000 in
set_option maxHeartbeats 4000000 in
theorem rnget_no (L : List Int) (w : World) (n : Nat) (hl : L.length = n) (hL : Byt L) (h : ¬ (n = 32 ∧ L.getD 0 0 ≤ 3 ∧ L.getD 1 0 = 0)) :
    Calls Try.prog 11 #[.string (strOfNums L)] w fun e w' => e = .returned (.tuple #[.agg (nc zn), .int .i64 11]) ∧ Below w.heap.size w w' := by
  have hs : (strOfNums L).size = n := by rw [str_size, hl]
  obtain ⟨S, hS⟩ : ∃ S, w.heap.size = S := ⟨_, rfl⟩
  have HS : Box (w.heap.size = S) := ⟨hS⟩
  have H1 : Box (Gr w ((w.alloc (.cells (nc zn) 35)).alloc (.cells (nc zn) 35)) S zn) := ⟨al_old (al_at hS), al_at (by simp [hS]), by rw [← hS]; exact below_to (box_below _ _) (box_below _ _)⟩
  have hix : ∀ i : Nat, n = 32 → i < 32 → ∀ x, (Instr.index 9 (.string (strOfNums L)) (.int .i64 (i : Int))).run Try.prog x = .ok (.int .u8 (L.getD i 0)) x := fun i h2 hi x => index_str L hL i (by omega) x
  have i0 := hix 0
  have i1 := hix 1
  clear hS hL hix
  have key : (((n : Int) != 32) = true) ∨ (n = 32 ∧ 3 < L.getD 0 0) ∨ (n = 32 ∧ L.getD 0 0 ≤ 3 ∧ (L.getD 1 0 != 0) = true) := by
    by_cases h1 : n = 32
    · by_cases h2 : L.getD 0 0 ≤ 3
      · exact .inr (.inr ⟨h1, h2, by simp only [bne_iff_ne, ne_eq]; intro h3; exact h ⟨h1, h2, h3⟩⟩)
      · exact .inr (.inl ⟨h1, by omega⟩)
    · exact .inl (by simp; omega)
  rcases key with k1 | ⟨k1, k2⟩ | ⟨k1, k2, k3⟩
  · clear i0 i1 h hl
    go_enter Try.func11, Try.ntmps11
    go_upto_region 2 with (refine wpList_run rfl _ _ (exec_alloc 35 rfl _ zeroR) ?_)
    have hz : (w.alloc (.cells (nc zn) 35)).heap.size = S + 1 := by simp [HS.out]
    rw [HS.out, hz]
    clear hz
    generalize (w.alloc (.cells (nc zn) 35)).alloc (.cells (nc zn) 35) = w1 at H1 ⊢
    go_wp2_with (first
      | (refine wpList_run rfl _ _ (exec_ldR _ rfl (S + 1) zn rfl H1.out.cel) ?_)
      | (refine wpList_stR rfl _ _ rfl S zn zn rfl rfl H1.out.res ?_))
    (try simp only [Exit.inBlock, Exit.then])
    refine bodyPost_ret (results_R2 rfl _ _ S _ rfl (lies_stR zn H1.out.res)) rfl ?_
    exact ⟨rfl, by rw [HS.out]; exact below_setRow' H1.out.bel _⟩
  · subst k1
    have j0 : ∀ x, (Instr.index 9 (.string (strOfNums L)) (.int .i64 0)).run Try.prog x = .ok (.int .u8 (L.getD 0 0)) x := i0 rfl (by omega)
    clear i0 i1 h hl
    generalize L.getD 0 0 = y at j0 k2
    have g1 : ((32 : Nat) : Int) = 32 := rfl
    go_enter Try.func11, Try.ntmps11
    go_upto_region 2 with (refine wpList_run rfl _ _ (exec_alloc 35 rfl _ zeroR) ?_)
    have hz : (w.alloc (.cells (nc zn) 35)).heap.size = S + 1 := by simp [HS.out]
    rw [HS.out, hz]
    clear hz
    generalize (w.alloc (.cells (nc zn) 35)).alloc (.cells (nc zn) 35) = w1 at H1 ⊢
    go_wp2_with (first
      | (refine wpList_runG rfl _ _ (exec_ix 9 _ _ rfl _ _ _ rfl rfl j0) ?_)
      | (refine wpList_runG rfl _ _ (exec_ix 9 _ _ rfl _ _ _ rfl rfl j1) ?_)
      | (refine wpList_run rfl _ _ (exec_ldR _ rfl (S + 1) zn rfl H1.out.cel) ?_)
      | (refine wpList_stR rfl _ _ rfl S zn zn rfl rfl H1.out.res ?_))
    (try simp only [Exit.inBlock, Exit.then])
    refine bodyPost_ret (results_R2 rfl _ _ S _ rfl (lies_stR zn H1.out.res)) rfl ?_
    exact ⟨rfl, by rw [HS.out]; exact below_setRow' H1.out.bel _⟩
  · subst k1
    have j0 : ∀ x, (Instr.index 9 (.string (strOfNums L)) (.int .i64 0)).run Try.prog x = .ok (.int .u8 (L.getD 0 0)) x := i0 rfl (by omega)
    have j1 : ∀ x, (Instr.index 9 (.string (strOfNums L)) (.int .i64 1)).run Try.prog x = .ok (.int .u8 (L.getD 1 0)) x := i1 rfl (by omega)
    have k2 : ¬ 3 < L.getD 0 0 := by omega
    clear i0 i1 h hl
    generalize L.getD 0 0 = y at j0 k2
    generalize L.getD 1 0 = y1 at j1 k3
    go_enter Try.func11, Try.ntmps11
    go_upto_region 2 with (refine wpList_run rfl _ _ (exec_alloc 35 rfl _ zeroR) ?_)
    have hz : (w.alloc (.cells (nc zn) 35)).heap.size = S + 1 := by simp [HS.out]
    rw [HS.out, hz]
    clear hz
    generalize (w.alloc (.cells (nc zn) 35)).alloc (.cells (nc zn) 35) = w1 at H1 ⊢
    go_wp2_with (first
      | (refine wpList_runG rfl _ _ (exec_ix 9 _ _ rfl _ _ _ rfl rfl j0) ?_)
      | (refine wpList_runG rfl _ _ (exec_ix 9 _ _ rfl _ _ _ rfl rfl j1) ?_)
      | (refine wpList_run rfl _ _ (exec_ldR _ rfl (S + 1) zn rfl H1.out.cel) ?_)
      | (refine wpList_stR rfl _ _ rfl S zn zn rfl rfl H1.out.res ?_))
    (try simp only [Exit.inBlock, Exit.then])
    refine bodyPost_ret (results_R2 rfl _ _ S _ rfl (lies_stR zn H1.out.res)) rfl ?_
    exact ⟨rfl, by rw [HS.out]; exact below_setRow' H1.out.bel _⟩

set_option maxRecDepth 20000 in
set_option maxHeartbeats 4000000 in
theorem rnget_in (L : List Int) (w : World) (hl : L.length = 32) (hL : Byt L) (h0 : L.getD 0 0 ≤ 3) (h1 : L.getD 1 0 = 0) :
    Calls Try.prog 11 #[.string (strOfNums L)] w fun e w' => e = .returned (getN L) ∧ Below w.heap.size w w' := by
  have hs : (strOfNums L).size = 32 := by rw [str_size, hl]
  obtain ⟨S, hS⟩ : ∃ S, w.heap.size = S := ⟨_, rfl⟩
  have HS : Box (w.heap.size = S) := ⟨hS⟩
  have H1 : Box (Gr w ((w.alloc (.cells (nc zn) 35)).alloc (.cells (nc zn) 35)) S zn) := ⟨al_old (al_at hS), al_at (by simp [hS]), by rw [← hS]; exact below_to (box_below _ _) (box_below _ _)⟩
  have HIX : Box (∀ i : Nat, i < 32 → ∀ x, (Instr.index 9 (.string (strOfNums L)) (.int .i64 (i : Int))).run Try.prog x = .ok (.int .u8 (L.getD i 0)) x) := ⟨fun i hi x => index_str L hL i (by omega) x⟩
  have j0 : ∀ x, (Instr.index 9 (.string (strOfNums L)) (.int .i64 0)).run Try.prog x = .ok (.int .u8 (L.getD 0 0)) x := HIX.out 0 (by omega)
  have j1 : ∀ x, (Instr.index 9 (.string (strOfNums L)) (.int .i64 1)).run Try.prog x = .ok (.int .u8 (L.getD 1 0)) x := HIX.out 1 (by omega)
  have HO : Box (Byt L ∧ L.length = 32 ∧ L.getD 0 0 ≤ 3 ∧ L.getD 1 0 = 0) := ⟨hL, hl, h0, h1⟩
  have HC : Box (∀ x, ∃ c w', (convert 9 27 (.string (strOfNums L))).run Try.prog x = .ok (.slice (some ⟨x.heap.size, 0, none⟩) 32 c) w' ∧ Bytes w' (some ⟨x.heap.size, 0, none⟩) 32 L ∧ Below x.heap.size x w') := ⟨fun x => by
    have := conv_str x L hL
    rwa [hl] at this⟩
  rw [h1] at j1
  have k2 : ¬ 3 < L.getD 0 0 := by omega
  have hx : ∃ y, L.getD 0 0 = y := ⟨_, rfl⟩
  obtain ⟨y, hy⟩ := hx
  rw [hy] at j0 k2
  clear hS hL h0 h1 hl hy
  go_enter Try.func11, Try.ntmps11
  go_upto_region 2 with (refine wpList_run rfl _ _ (exec_alloc 35 rfl _ zeroR) ?_)
  have hz : (w.alloc (.cells (nc zn) 35)).heap.size = S + 1 := by simp [HS.out]
  rw [HS.out, hz]
  clear hz
  generalize (w.alloc (.cells (nc zn) 35)).alloc (.cells (nc zn) 35) = w1 at H1 ⊢
  go_upto_region 4 with (first
    | (refine wpList_runG rfl _ _ (exec_ix 9 _ _ rfl _ _ _ rfl rfl j0) ?_)
    | (refine wpList_runG rfl _ _ (exec_ix 9 _ _ rfl _ _ _ rfl rfl j1) ?_))
  clear j0 j1 k2
  go_wp2
  go_loop [5] (fun i => ∃ k : Nat, 18 ≤ k ∧ k ≤ 32 ∧ i = .int .i64 (k : Int) ∧ Box (∀ j, 18 ≤ j → j < k → L.getD j 0 = 0)) (fun i => 32 - (intOf i).toNat)
  case atStart => exact ⟨18, by omega, by omega, rfl, ⟨fun j h1 h2 => by omega⟩⟩
  case round =>
    obtain ⟨k, hk1, hk2, rfl, HZ⟩ := hrel
    by_cases hlt : k < 32
    · have g5 : (k : Int) < 32 := by omega
      have hx1 := HIX.out k hlt
      obtain ⟨z, hz⟩ : ∃ z, Box (L.getD k 0 = z) := ⟨_, ⟨rfl⟩⟩
      rw [hz.out] at hx1
      by_cases h0 : z = 0
      · have HZ2 : Box (∀ j, 18 ≤ j → j < k + 1 → L.getD j 0 = 0) := ⟨fun j h1 h2 => by
          by_cases e : j = k
          · rw [e, hz.out, h0]
          · exact HZ.out j h1 (by omega)⟩
        have h1 : (z != 0) = false := by simp [h0]
        clear h0 hz
        go_wp2
        go_round
        case rel => exact ⟨k + 1, by omega, by omega, by go_num, HZ2⟩
        case measure => simp [intOf]; omega
      · have h1 : (z != 0) = true := by simp [h0]
        have HV : Box (getN L = .tuple #[.agg (nc zn), .int .i64 11]) := ⟨getN_no (fun hh => h0 (by rw [← hz.out]; exact hh.2.2.2 k hk1 hlt))⟩
        clear h0 hz
        go_wp2_with (first
          | (refine wpList_run rfl _ _ (exec_ldR _ rfl (S + 1) zn rfl H1.out.cel) ?_)
          | (refine wpList_stR rfl _ _ rfl S zn zn rfl rfl H1.out.res ?_))
        (try simp only [Exit.inBlock, Exit.then])
        refine bodyPost_ret (results_R2 rfl _ _ S _ rfl (lies_stR zn H1.out.res)) rfl ?_
        exact ⟨by rw [HV.out]; rfl, by rw [HS.out]; exact below_setRow' H1.out.bel _⟩
    · have g5 : ¬ (k : Int) < 32 := by omega
      have HV : Box (getN L = .tuple #[.agg (nc (ofN L)), .int .i64 0]) := ⟨getN_ok ⟨HO.out.2.1, HO.out.2.2.1, HO.out.2.2.2, fun i h1 h2 => HZ.out i h1 (by omega)⟩⟩
      have b1 : 0 ≤ num L 2 2 ∧ num L 2 2 < 65536 := num_bd L 2 HO.out.1 2
      have b2 : 0 ≤ num L 4 4 ∧ num L 4 4 < 4294967296 := num_bd L 4 HO.out.1 4
      clear HIX HZ
      obtain ⟨c1, w2, ec, hB1, hb1⟩ := HC.out w1
      have H2 : Box (Gb w w2 S zn w1.heap.size L) := ⟨⟨H1.out.on hb1, hB1, H1.out.cel.lt⟩⟩
      clear hB1 hb1
      go_upto_region 10 with (refine wpList_run rfl _ w2 (exec_cv 9 27 _ rfl _ _ rfl ec) ?_)
      clear ec H1 HC
      generalize w1.heap.size = g at H2 ⊢
      obtain ⟨g', o', e, _, hc⟩ := H2.out.byt.2.2 (by omega)
      simp only [Option.some.injEq, Addr.mk.injEq, and_true] at e
      obtain ⟨rfl, rfl⟩ := e
      have c0 : w2.cell? ⟨g, 0, none⟩ = some (.int .u8 (L.getD 0 0)) := hc 0 (by omega)
      have c1 : w2.cell? ⟨S + 1, 0, none⟩ = some (.int .u8 0) := H2.out.gr.cel.cell 0
      have f1 : w2.frozen? ⟨S + 1, 0, none⟩ = false := H2.out.gr.cel.froz 0
      have H3 : Box (Gb w (w2.setCell ⟨S + 1, 0, none⟩ (.int .u8 (L.getD 0 0))) S ⟨L.getD 0 0, 0, 0, 0, 0, 0, 0, 0⟩ g L) := ⟨H2.out.put 0 _ (zn_k _)⟩
      have HU : Box (upto L 0 = ⟨L.getD 0 0, num L 2 2, num L 4 4, 0, 0, 0, 0, 0⟩) := ⟨rfl⟩
      clear hc
      generalize L.getD 0 0 = x0 at c0 H3 HU
      go_upto_region 11 with fail
      generalize w2.setCell ⟨S + 1, 0, none⟩ (.int .u8 x0) = w3 at H3 ⊢
      clear c0 c1 f1 H2
      have C2 : Box (Calls Try.prog 21 #[.slice (some ⟨g, 0, none⟩) 32 c1, .int .i64 2, .int .i64 2] w3 fun e w' => e = .returned (.tuple #[.int .u64 (num L 2 2), .int .i64 0]) ∧ w3 = w') := ⟨rget_ok _ 32 c1 L 2 2 w3 H3.out.byt (by unfold maxLen; omega) (by omega) (by omega) (by omega)⟩
      have CG : Box (∀ (p n : Nat) (z : World), Bytes z (some ⟨g, 0, none⟩) 32 L → 1 ≤ n → n ≤ 8 → p + n ≤ 32 → Calls Try.prog 21 #[.slice (some ⟨g, 0, none⟩) 32 c1, .int .i64 p, .int .i64 n] z fun e w' => e = .returned (.tuple #[.int .u64 (num L p n), .int .i64 0]) ∧ z = w') := ⟨fun p n z hz h1 h2 h3 => rget_ok _ 32 c1 L p n z hz (by unfold maxLen; omega) (by omega) (by omega) (by omega)⟩
      go_upto_region 12 with (go_at_call 21; refine Calls.mono C2.out ?_; rintro e w' ⟨rfl, rfl⟩)
      clear C2
      generalize num L 2 2 = l0 at b1 HU ⊢
      have W1 : IntKind.u16.wrap l0 = l0 := by rw [IntKind.wrap_u16]; omega
      have k1 : w3.cell? ⟨S + 1, 1, none⟩ = some (.int .u16 0) := H3.out.gr.cel.cell 1
      have f1 : w3.frozen? ⟨S + 1, 1, none⟩ = false := H3.out.gr.cel.froz 1
      have H4 : Box (Gb w (w3.setCell ⟨S + 1, 1, none⟩ (.int .u16 l0)) S ⟨x0, l0, 0, 0, 0, 0, 0, 0⟩ g L) := ⟨H3.out.put 1 _ (zn_l _ _)⟩
      go_upto_region 13 with fail
      try rw [W1]
      generalize w3.setCell ⟨S + 1, 1, none⟩ (.int .u16 l0) = w4 at H4 ⊢
      clear k1 f1 H3 b1 W1
      have C4 : Box (Calls Try.prog 21 #[.slice (some ⟨g, 0, none⟩) 32 c1, .int .i64 4, .int .i64 4] w4 fun e w' => e = .returned (.tuple #[.int .u64 (num L 4 4), .int .i64 0]) ∧ w4 = w') := ⟨CG.out 4 4 w4 H4.out.byt (by omega) (by omega) (by omega)⟩
      go_upto_region 14 with (go_at_call 21; refine Calls.mono C4.out ?_; rintro e w' ⟨rfl, rfl⟩)
      clear C4
      generalize num L 4 4 = z0 at b2 HU ⊢
      have W1 : IntKind.u32.wrap z0 = z0 := by rw [IntKind.wrap_u32]; omega
      have k1 : w4.cell? ⟨S + 1, 2, none⟩ = some (.int .u32 0) := H4.out.gr.cel.cell 2
      have f1 : w4.frozen? ⟨S + 1, 2, none⟩ = false := H4.out.gr.cel.froz 2
      have H5 : Box (Gb w (w4.setCell ⟨S + 1, 2, none⟩ (.int .u32 z0)) S (upto L 0) g L) := ⟨by rw [HU.out]; exact H4.out.put 2 _ (zn_z _ _ _)⟩
      go_upto_region 15 with fail
      try rw [W1]
      generalize w4.setCell ⟨S + 1, 2, none⟩ (.int .u32 z0) = w5 at H5 ⊢
      clear k1 f1 H4 b2 W1 HU
      go_wp2
      go_loopw [9] (fun i wr => ∃ k : Nat, k ≤ 5 ∧ i = .int .i64 k ∧ Box (Gb w wr S (upto L k) g L)) (fun i _ => 5 - (intOf i).toNat)
      case atStart => exact ⟨0, by omega, rfl, H5⟩
      case round =>
        obtain ⟨k, hk, rfl, HP⟩ := hrel
        clear H5
        by_cases hlt : k < 5
        · have f1 : wr.frozen? ⟨S + 1, 3 + k, none⟩ = false := HP.out.gr.cel.froz _
          have c1' := HP.out.gr.cel.num k hlt
          have HX : Box (Gb w (wr.setCell ⟨S + 1, 3 + k, none⟩ (.int .u16 (num L (8 + 2 * k) 2))) S (upto L (k + 1)) g L) := ⟨HP.out.put (3 + k) _ (by rw [nc_set _ k hlt, upto_succ L k hlt])⟩
          have CK : Box (Calls Try.prog 21 #[.slice (some ⟨g, 0, none⟩) 32 c1, .int .i64 (8 + 2 * (k : Int)), .int .i64 2] wr fun e w' => e = .returned (.tuple #[.int .u64 (num L (8 + 2 * k) 2), .int .i64 0]) ∧ wr = w') := ⟨CG.out (8 + 2 * k) 2 wr HP.out.byt (by omega) (by omega) (by omega)⟩
          have b1 : 0 ≤ num L (8 + 2 * k) 2 ∧ num L (8 + 2 * k) 2 < 65536 := num_bd L _ HO.out.1 2
          generalize (ns (upto L k)).getD k 0 = y1 at c1'
          generalize num L (8 + 2 * k) 2 = x at HX CK b1
          have W1 : IntKind.u16.wrap x = x := by rw [IntKind.wrap_u16]; omega
          go_wp2_with (go_at_call 21; refine Calls.mono CK.out ?_; rintro e w' ⟨rfl, rfl⟩)
          try rw [W1]
          go_roundw
          case rel => exact ⟨k + 1, by omega, by go_num, HX⟩
          case measure => simp [intOf]; omega
        · obtain rfl : k = 5 := by omega
          rw [upto_five] at HP
          clear hk hlt CG
          generalize ofN L = N at HP HV
          go_wp2_with (first
            | (refine wpList_run rfl _ _ (exec_ldR _ rfl (S + 1) N rfl HP.out.gr.cel) ?_)
            | (refine wpList_stR rfl _ _ rfl S N zn rfl rfl HP.out.gr.res ?_))
          (try simp only [Exit.inBlock, Exit.then])
          refine bodyPost_ret (results_R2 rfl _ _ S _ rfl (lies_stR N HP.out.gr.res)) rfl ?_
          exact ⟨by rw [HV.out]; rfl, by rw [HS.out]; exact below_setRow' HP.out.gr.bel _⟩
theorem rnget_any (L : List Int) (w : World) (hL : Byt L) :
    Calls Try.prog 11 #[.string (strOfNums L)] w fun e w' => e = .returned (getN L) ∧ Below w.heap.size w w' := by
  by_cases h : L.length = 32 ∧ L.getD 0 0 ≤ 3 ∧ L.getD 1 0 = 0
  · exact rnget_in L w h.1 hL h.2.1 h.2.2
  · rw [getN_no (fun h2 => h ⟨h2.1, h2.2.1, h2.2.2.1⟩)]
    exact rnget_no L w L.length rfl hL h
end Go.Proofs.Ytpdggopkalbbeaa
