/-
  Plain facts on a first block's bytes; what the reference's Get answers, for any bytes.
-/
import Derived.Test.YtniminalkjhfbaaLD
namespace Go.Proofs.Ytniminalkjhfbaa
set_option linter.unusedVariables false
open Go.RowKit Plain
theorem byteAt_num (L : List Int) (p : Nat) (hL : Byt L) (K j : Nat) (hj : j < K) : byteAt (num L p K) j = L.getD (p + j) 0 := by
  induction K with
  | zero => omega
  | succ K ih =>
    have hb := num_bd L p hL K
    have hp : (0 : Int) < 2 ^ (8 * K) := Int.pow_pos (by omega)
    have hz := hL (p + K)
    rw [num]
    by_cases e : j = K
    · subst e
      unfold byteAt
      rw [Int.add_mul_ediv_right _ _ (by omega), Int.ediv_eq_zero_of_lt hb.1 hb.2]
      omega
    · have hlt : j < K := by omega
      rw [← ih hlt]
      unfold byteAt
      have hK : (2 : Int) ^ (8 * K) = 2 ^ (8 * j) * (256 * 2 ^ (8 * (K - j - 1))) := by
        rw [← pow8, ← Int.pow_add]
        congr 1; omega
      rw [hK, show L.getD (p + K) 0 * (2 ^ (8 * j) * (256 * 2 ^ (8 * (K - j - 1)))) = 2 ^ (8 * j) * (256 * (L.getD (p + K) 0 * 2 ^ (8 * (K - j - 1)))) by
        rw [Int.mul_left_comm, Int.mul_left_comm (L.getD (p + K) 0) 256], Int.add_mul_ediv_left _ _ (Int.ne_of_gt (Int.pow_pos (by omega))), Int.add_mul_emod_self_left]
theorem lb_hdr (b i : Int) (k : Nat) (h : k < 4) : (lb b i).getD k 0 = hdr.getD k 0 := by
  rw [lb_eq]
  have e : hdr.length = 4 := rfl
  simp only [List.append_assoc, List.getD]
  rw [List.getElem?_append_left (by omega)]
theorem lb_one (b i : Int) (k : Nat) (h : k < 4) : (lb b i).getD (4 + k) 0 = byteAt b k := by
  rw [lb_eq, ← bytesOf_get b 4 k h]
  have e : hdr.length = 4 := rfl
  have l := length_bytesOf b 4
  simp only [List.append_assoc, List.getD]
  rw [List.getElem?_append_right (by omega), e, List.getElem?_append_left (by omega)]
  congr 2; omega
theorem lb_two (b i : Int) (k : Nat) (h : k < 4) : (lb b i).getD (8 + k) 0 = byteAt i k := by
  rw [lb_eq, ← bytesOf_get i 4 k h]
  have e : hdr.length = 4 := rfl
  have l := length_bytesOf b 4
  have l2 := length_bytesOf i 4
  simp only [List.append_assoc, List.getD]
  rw [List.getElem?_append_right (by omega), e, List.getElem?_append_right (by omega), l, List.getElem?_append_left (by omega)]
  congr 2; omega
theorem lb_rest (b i : Int) (k : Nat) (h : 12 ≤ k) : (lb b i).getD k 0 = 0 := by
  rw [lb_eq]
  have l := pre_len b i
  rw [List.getD, List.getElem?_append_right (by omega), l]
  simp only [List.getElem?_replicate]
  split <;> rfl
theorem num_lb1 (b i : Int) (h : 0 ≤ b ∧ b ≤ 1024) : num (lb b i) 4 4 = b := by
  rw [num_congr _ (bytesOf b 4) 4 0 4 (fun t ht => by rw [lb_one b i t ht, Nat.zero_add, bytesOf_get b 4 t ht]), num_bytesOf b 4 4 (Nat.le_refl _)]
  omega
theorem num_lb2 (b i : Int) (h : 0 ≤ i ∧ i ≤ 1024) : num (lb b i) 8 4 = i := by
  rw [num_congr _ (bytesOf i 4) 8 0 4 (fun t ht => by rw [lb_two b i t ht, Nat.zero_add, bytesOf_get i 4 t ht]), num_bytesOf i 4 4 (Nat.le_refl _)]
  omega
/-- Bytes of the form are those of their own numbers. -/
theorem lb_of (B : List Int) (hB : Byt B) (hl : B.length = 160) (h4 : B.take 4 = hdr) (hz : ∀ k, 12 ≤ k → k < 160 → B.getD k 0 = 0) : B = lb (num B 4 4) (num B 8 4) := by
  refine eq_getD _ _ 160 hl (length_lb _ _) (fun k hk => ?_)
  by_cases h0 : k < 4
  · rw [lb_hdr _ _ k h0, ← h4]
    simp [List.getD, h0]
  by_cases h1 : k < 8
  · obtain ⟨j, rfl⟩ : ∃ j, k = 4 + j := ⟨k - 4, by omega⟩
    rw [lb_one _ _ j (by omega), byteAt_num B 4 hB 4 j (by omega)]
  by_cases h2 : k < 12
  · obtain ⟨j, rfl⟩ : ∃ j, k = 8 + j := ⟨k - 8, by omega⟩
    rw [lb_two _ _ j (by omega), byteAt_num B 8 hB 4 j (by omega)]
  · rw [lb_rest _ _ k (by omega), hz k (by omega) hk]
theorem getV_not (B : List Int) (h : ¬ (B.length = 160 ∧ okL (num B 4 4) (num B 8 4) ∧ B = lb (num B 4 4) (num B 8 4))) : getV B = .tuple #[.agg (lc 0 0 0 0), .int .i64 11] := if_neg h
theorem getV_ok (B : List Int) (h : B.length = 160 ∧ okL (num B 4 4) (num B 8 4) ∧ B = lb (num B 4 4) (num B 8 4)) : getV B = .tuple #[.agg (lc (num B 4 4) (num B 8 4) 3 (3 + (num B 8 4 + 4) / 5)), .int .i64 0] := if_pos h
theorem getV_lb (b i : Int) (h : okL b i) : getV (lb b i) = .tuple #[.agg (lc b i 3 (3 + (i + 4) / 5)), .int .i64 0] := by
  have h' := h
  unfold okL at h'
  have e1 := num_lb1 b i (by omega)
  have e2 := num_lb2 b i (by omega)
  rw [getV_ok _ ⟨length_lb b i, by rw [e1, e2]; exact h, by rw [e1, e2]⟩, e1, e2]
theorem ext4 (B : List Int) (hB : Byt B) : (((strOfNums B).extract 0 4).toList == [82, 76, 81, 49]) = decide (B.take 4 = hdr) := by
  have e : (strOfNums B).extract 0 4 = strOfNums (B.take 4) := by
    have := ByteArray.extract_mk (B.map fun n => UInt8.ofNat n.toNat) 0 4
    unfold strOfNums
    rw [this]
    simp
  have e2 : (strOfNums hdr).toList = [82, 76, 81, 49] := by rw [ByteArray.toList_eq]; rfl
  rw [e, ← e2]
  exact str_beq (B.take 4) hdr (byt_take B 4 hB) byt_hdr
theorem exec_cv {o : Oper} {ρ : Operand → Value} {w w' : World} (s t : TypeId) (x : Operand) (ho : o.op = .convert s t x) (v r : Value) (hx : ρ x = v) (h : (convert s t v).run Try.prog w = .ok r w') : (execOp ρ o).run Try.prog w = .ok (.value r) w' := by
  unfold execOp
  simp only [ho, hx, Sem.run_bind, Sem.run_pure, h, Result.andThen_ok]
theorem exec_sl {o : Oper} {ρ : Operand → Value} {w : World} (t : TypeId) (x h : Operand) (ho : o.op = .slice t x none (some h) none) (r : Value) (hr : (Instr.sliceAt t (ρ x) none (some (ρ h)) none).run Try.prog w = .ok r w) : (execOp ρ o).run Try.prog w = .ok (.value r) w := by
  unfold execOp
  simp only [ho, Option.map_none, Option.map_some, Sem.run_bind, Sem.run_pure, hr, Result.andThen_ok]


set_option maxHeartbeats 1000000 in
theorem rlget_len (B : List Int) (n : Nat) (w : World) (hl : B.length = n) (hn : n ≠ 160) :
    Calls Try.prog 17 #[.string (strOfNums B)] w fun e w' => e = .returned (.tuple #[.agg (lc 0 0 0 0), .int .i64 11]) ∧ Below w.heap.size w w' := by
  have g1 : ((n : Int) != 160) = true := by simp; omega
  have hs : (strOfNums B).size = n := by rw [str_size, hl]
  obtain ⟨S, hS⟩ : ∃ S, w.heap.size = S := ⟨_, rfl⟩
  have HS : Box (w.heap.size = S) := ⟨hS⟩
  have H1 : Box ((w.alloc (.cells (lc 0 0 0 0) 28)).heap[S]? = some (.cells (lc 0 0 0 0) 28 (0, 0)) ∧ (w.alloc (.cells (lc 0 0 0 0) 28)).heap.size = S + 1 ∧ Below S w (w.alloc (.cells (lc 0 0 0 0) 28))) := ⟨al_at hS, by simp [hS], (Below.refl _ _).alloc (by omega) _⟩
  clear hS
  go_enter Try.func17, Try.ntmps17
  go_upto_region 1 with fail
  rw [HS.out]
  change Code.wp _ _ _ _ (w.alloc (.cells (lc 0 0 0 0) 28))
  generalize w.alloc (.cells (lc 0 0 0 0) 28) = w1 at H1 ⊢
  go_wp2_with (first
    | (refine wpList_run rfl _ _ (exec_built 28 [] rfl [] rfl _ built_M0) ?_)
    | (refine wpList_stM rfl _ _ rfl S 0 0 0 0 _ rfl rfl H1.out.1 rfl ?_))
  (try simp only [Exit.inBlock, Exit.then])
  refine bodyPost_ret (results_M2 rfl _ _ S _ _ _ _ rfl (setRow_heap _ _ _ _ _ _ H1.out.1)) rfl ?_
  exact ⟨rfl, by rw [HS.out]; exact below_setRow' H1.out.2.2 _⟩

set_option maxHeartbeats 1000000 in
theorem rlget_hdr (B : List Int) (w : World) (hB : Byt B) (hl : B.length = 160) (hd : B.take 4 ≠ hdr) :
    Calls Try.prog 17 #[.string (strOfNums B)] w fun e w' => e = .returned (.tuple #[.agg (lc 0 0 0 0), .int .i64 11]) ∧ Below w.heap.size w w' := by
  have hd' : (((strOfNums B).extract 0 4).toList == [82, 76, 81, 49]) = false := by rw [ext4 B hB]; simpa using hd
  have hs : (strOfNums B).size = 160 := by rw [str_size, hl]
  obtain ⟨S, hS⟩ : ∃ S, w.heap.size = S := ⟨_, rfl⟩
  have HS : Box (w.heap.size = S) := ⟨hS⟩
  have H1 : Box ((w.alloc (.cells (lc 0 0 0 0) 28)).heap[S]? = some (.cells (lc 0 0 0 0) 28 (0, 0)) ∧ (w.alloc (.cells (lc 0 0 0 0) 28)).heap.size = S + 1 ∧ Below S w (w.alloc (.cells (lc 0 0 0 0) 28))) := ⟨al_at hS, by simp [hS], (Below.refl _ _).alloc (by omega) _⟩
  clear hS
  go_enter Try.func17, Try.ntmps17
  go_upto_region 1 with fail
  rw [HS.out]
  change Code.wp _ _ _ _ (w.alloc (.cells (lc 0 0 0 0) 28))
  generalize w.alloc (.cells (lc 0 0 0 0) 28) = w1 at H1 ⊢
  go_wp2_with (first
    | (refine wpList_run rfl _ _ (exec_built 28 [] rfl [] rfl _ built_M0) ?_)
    | (refine wpList_stM rfl _ _ rfl S 0 0 0 0 _ rfl rfl H1.out.1 rfl ?_))
  (try simp only [Exit.inBlock, Exit.then])
  refine bodyPost_ret (results_M2 rfl _ _ S _ _ _ _ rfl (setRow_heap _ _ _ _ _ _ H1.out.1)) rfl ?_
  exact ⟨rfl, by rw [HS.out]; exact below_setRow' H1.out.2.2 _⟩

set_option maxHeartbeats 4000000 in
theorem rlget_in (B : List Int) (x y : Int) (w : World) (hB : Byt B) (hl : B.length = 160) (hd : B.take 4 = hdr) (ex : num B 4 4 = x) (ey : num B 8 4 = y) :
    Calls Try.prog 17 #[.string (strOfNums B)] w fun e w' => e = .returned (getV B) ∧ Below w.heap.size w w' := by
  have hd' : (((strOfNums B).extract 0 4).toList == [82, 76, 81, 49]) = true := by rw [ext4 B hB]; simpa using hd
  have hs : (strOfNums B).size = 160 := by rw [str_size, hl]
  obtain ⟨S, hS⟩ : ∃ S, w.heap.size = S := ⟨_, rfl⟩
  have HS : Box (w.heap.size = S) := ⟨hS⟩
  have H1 : Box ((w.alloc (.cells (lc 0 0 0 0) 28)).heap[S]? = some (.cells (lc 0 0 0 0) 28 (0, 0)) ∧ (w.alloc (.cells (lc 0 0 0 0) 28)).heap.size = S + 1 ∧ Below S w (w.alloc (.cells (lc 0 0 0 0) 28))) := ⟨al_at hS, by simp [hS], (Below.refl _ _).alloc (by omega) _⟩
  clear hS
  go_enter Try.func17, Try.ntmps17
  go_upto_region 1 with fail
  rw [HS.out]
  change Code.wp _ _ _ _ (w.alloc (.cells (lc 0 0 0 0) 28))
  generalize w.alloc (.cells (lc 0 0 0 0) 28) = w1 at H1 ⊢
  go_upto_region 3 with fail
  clear hd'
  have HB : Box (Byt B ∧ B.length = 160 ∧ B.take 4 = hdr) := ⟨hB, hl, hd⟩
  have HC : Box (∀ x, ∃ c w', (convert 9 35 (.string (strOfNums B))).run Try.prog x = .ok (.slice (some ⟨x.heap.size, 0, none⟩) 160 c) w' ∧ Bytes w' (some ⟨x.heap.size, 0, none⟩) 160 B ∧ Below x.heap.size x w') := ⟨fun x => by
    have := conv_str x B hB
    rwa [hl] at this⟩
  have hix : ∀ i : Nat, i < 160 → ∀ x, (Instr.index 9 (.string (strOfNums B)) (.int .i64 (i : Int))).run Try.prog x = .ok (.int .u8 (B.getD i 0)) x := fun i hi x => index_str B hB i (by omega) x
  have HIX : Box (∀ i : Nat, i < 160 → ∀ x, (Instr.index 9 (.string (strOfNums B)) (.int .i64 (i : Int))).run Try.prog x = .ok (.int .u8 (B.getD i 0)) x) := ⟨hix⟩
  have G1 : Box (∀ z a c, Bytes z a 160 B → Calls Try.prog 24 #[.slice a 160 c, .int .i64 4, .int .i64 4] z fun e w' => e = .returned (.tuple #[.int .u64 x, .int .i64 0]) ∧ z = w') := ⟨fun z a c hz => by
    have := rget_ok a 160 c B 4 4 z hz (by unfold maxLen; omega) (by omega) (by omega) (by omega)
    rw [ex] at this
    exact this⟩
  have G2 : Box (∀ z a c, Bytes z a 160 B → Calls Try.prog 24 #[.slice a 160 c, .int .i64 8, .int .i64 4] z fun e w' => e = .returned (.tuple #[.int .u64 y, .int .i64 0]) ∧ z = w') := ⟨fun z a c hz => by
    have := rget_ok a 160 c B 8 4 z hz (by unfold maxLen; omega) (by omega) (by omega) (by omega)
    rw [ey] at this
    exact this⟩
  have b1 : 0 ≤ x ∧ x < 4294967296 := by rw [← ex]; exact num_bd B 4 hB 4
  have b2 : 0 ≤ y ∧ y < 4294967296 := by rw [← ey]; exact num_bd B 8 hB 4
  clear hix hB hl hd
  obtain ⟨c1, w2, e1, hB1, hb1⟩ := HC.out w1
  have H2 : Box (Bytes w2 (some ⟨w1.heap.size, 0, none⟩) 160 B ∧ w2.heap[S]? = some (.cells (lc 0 0 0 0) 28 (0, 0)) ∧ S < w2.heap.size ∧ Below S w w2) := ⟨hB1, (hb1.block S (lt_of_row H1.out.1)).trans H1.out.1, Nat.lt_of_lt_of_le (lt_of_row H1.out.1) hb1.size, H1.out.2.2.trans (hb1.mono (Nat.le_of_lt (lt_of_row H1.out.1)))⟩
  clear hB1 hb1
  go_upto_region 4 with (first
    | (refine wpList_run rfl _ w2 (exec_cv 9 35 _ rfl _ _ rfl e1) ?_)
    | (go_at_call 24; refine Calls.mono (G1.out w2 _ c1 H2.out.1) ?_; rintro e w' ⟨rfl, rfl⟩))
  clear e1 H1
  obtain ⟨c2, w3, e2, hB2, hb2⟩ := HC.out w2
  have H3 : Box (Bytes w3 (some ⟨w2.heap.size, 0, none⟩) 160 B ∧ w3.heap[S]? = some (.cells (lc 0 0 0 0) 28 (0, 0)) ∧ S < w3.heap.size ∧ Below S w w3) := ⟨hB2, (hb2.block S H2.out.2.2.1).trans H2.out.2.1, Nat.lt_of_lt_of_le H2.out.2.2.1 hb2.size, H2.out.2.2.2.trans (hb2.mono (Nat.le_of_lt H2.out.2.2.1))⟩
  clear hB2 hb2
  go_upto_region 5 with (first
    | (refine wpList_run rfl _ w3 (exec_cv 9 35 _ rfl _ _ rfl e2) ?_)
    | (go_at_call 24; refine Calls.mono (G2.out w3 _ c2 H3.out.1) ?_; rintro e w' ⟨rfl, rfl⟩))
  clear e2 HC G1 G2
  go_wp2
  go_loop [8] (fun i => ∃ k : Nat, 12 ≤ k ∧ k ≤ 160 ∧ i = .int .i64 (k : Int) ∧ Box (∀ j, 12 ≤ j → j < k → B.getD j 0 = 0)) (fun i => 160 - (intOf i).toNat)
  case atStart => exact ⟨12, by omega, by omega, rfl, ⟨fun j h1 h2 => by omega⟩⟩
  case round =>
    obtain ⟨k, hk1, hk2, rfl, HZ⟩ := hrel
    clear H2
    by_cases hlt : k < 160
    · have g5 : (k : Int) < 160 := by omega
      have hx1 := HIX.out k hlt
      obtain ⟨z, hz⟩ : ∃ z, Box (B.getD k 0 = z) := ⟨_, ⟨rfl⟩⟩
      rw [hz.out] at hx1
      by_cases h0 : z = 0
      · have HZ2 : Box (∀ j, 12 ≤ j → j < k + 1 → B.getD j 0 = 0) := ⟨fun j h1 h2 => by
          by_cases e : j = k
          · rw [e, hz.out, h0]
          · exact HZ.out j h1 (by omega)⟩
        have h1 : (z != 0) = false := by simp [h0]
        clear h0 hz
        go_wp2
        go_round
        case rel => exact ⟨k + 1, by omega, by omega, by go_num, HZ2⟩
        case measure => simp [intOf]; omega
      · have h1 : (z != 0) = true := by simp [h0]
        have HV : Box (getV B = .tuple #[.agg (lc 0 0 0 0), .int .i64 11]) := ⟨getV_not B (fun hh => h0 (by rw [← hz.out, hh.2.2]; exact lb_rest _ _ k hk1))⟩
        clear h0 hz
        have hr := H3.out.2.1
        go_wp2_with (first
          | (refine wpList_run rfl _ _ (exec_built 28 [] rfl [] rfl _ built_M0) ?_)
          | (refine wpList_stM rfl _ _ rfl S 0 0 0 0 _ rfl rfl hr rfl ?_))
        (try simp only [Exit.inBlock, Exit.then])
        refine bodyPost_ret (results_M2 rfl _ _ S _ _ _ _ rfl (setRow_heap _ _ _ _ _ _ hr)) rfl ?_
        exact ⟨by rw [HV.out]; rfl, by rw [HS.out]; exact below_setRow' H3.out.2.2.2 _⟩
    · have g5 : ¬ (k : Int) < 160 := by omega
      have HK : Box (B = lb x y) := ⟨by
        have := lb_of B HB.out.1 HB.out.2.1 HB.out.2.2 (fun j h1 h2 => HZ.out j h1 (by omega))
        rwa [ex, ey] at this⟩
      have W1 : IntKind.i64.wrap x = x := by rw [IntKind.wrap_i64]; omega
      have W2 : IntKind.i64.wrap y = y := by rw [IntKind.wrap_i64]; omega
      clear HIX HZ
      by_cases hok : okL x y
      · have CN : Box (Calls Try.prog 10 #[.int .i64 x, .int .i64 y] w3 fun e w' => e = .returned (.tuple #[.agg (lc x y 3 (3 + (y + 4) / 5)), .int .i64 0]) ∧ Below w3.heap.size w3 w') := ⟨by have := rnew_any x y w3; rwa [newV_ok hok] at this⟩
        have HV : Box (getV B = .tuple #[.agg (lc x y 3 (3 + (y + 4) / 5)), .int .i64 0]) := ⟨by rw [getV_ok B ⟨HB.out.2.1, by rw [ex, ey]; exact hok, by rw [ex, ey]; exact HK.out⟩, ex, ey]⟩
        clear hok
        generalize 3 + (y + 4) / 5 = z at CN HV
        go_upto_region 11 with (first
          | (refine wpList_newM w4 x y 3 z rfl _ _ rfl rfl rfl rfl ?_; intro w5 hz hb5; have H5 : Box (w5.heap[S]? = some (.cells (lc 0 0 0 0) 28 (0, 0)) ∧ Lay' w5 w4.heap.size x y 3 z ∧ Below S w w5) := ⟨(hb5.block S (Nat.lt_of_lt_of_le H3.out.2.2.1 hb4.size)).trans ((hb4.block S H3.out.2.2.1).trans H3.out.2.1), hz, (H3.out.2.2.2.trans (hb4.mono (Nat.le_of_lt H3.out.2.2.1))).trans (hb5.mono (by have := hb4.size; have := H3.out.2.2.1; omega))⟩; clear hz hb5 hb4)
          | (go_at_call 10; (try rw [W1]); (try rw [W2]); refine Calls.mono (CN.out) ?_; rintro e w4 ⟨rfl, hb4⟩))
        have hr := H5.out.1
        generalize w4.heap.size = T at H5 ⊢
        go_wp2_with (first
          | (refine wpList_ldM rfl _ rfl T x y 3 z rfl H5.out.2.1 ?_)
          | (refine wpList_stM rfl _ _ rfl S x y 3 z _ rfl rfl hr rfl ?_))
        (try simp only [Exit.inBlock, Exit.then])
        refine bodyPost_ret (results_M2 rfl _ _ S _ _ _ _ rfl (setRow_heap _ _ _ _ _ _ hr)) rfl ?_
        exact ⟨by rw [HV.out]; rfl, by rw [HS.out]; exact below_setRow' H5.out.2.2 _⟩
      · have CN : Box (Calls Try.prog 10 #[.int .i64 x, .int .i64 y] w3 fun e w' => e = .returned (.tuple #[.agg (lc 0 0 0 0), .int .i64 1]) ∧ Below w3.heap.size w3 w') := ⟨by have := rnew_any x y w3; rwa [newV_no hok] at this⟩
        have HV : Box (getV B = .tuple #[.agg (lc 0 0 0 0), .int .i64 11]) := ⟨getV_not B (fun hh => hok (by have := hh.2.1; rwa [ex, ey] at this))⟩
        clear hok
        go_upto_region 11 with (first
          | (refine wpList_newM w4 0 0 0 0 rfl _ _ rfl rfl rfl rfl ?_; intro w5 hz hb5; have H5 : Box (w5.heap[S]? = some (.cells (lc 0 0 0 0) 28 (0, 0)) ∧ Below S w w5) := ⟨(hb5.block S (Nat.lt_of_lt_of_le H3.out.2.2.1 hb4.size)).trans ((hb4.block S H3.out.2.2.1).trans H3.out.2.1), (H3.out.2.2.2.trans (hb4.mono (Nat.le_of_lt H3.out.2.2.1))).trans (hb5.mono (by have := hb4.size; have := H3.out.2.2.1; omega))⟩; clear hz hb5 hb4)
          | (go_at_call 10; (try rw [W1]); (try rw [W2]); refine Calls.mono (CN.out) ?_; rintro e w4 ⟨rfl, hb4⟩))
        have hr := H5.out.1
        generalize w4.heap.size = T
        go_wp2_with (first
          | (refine wpList_run rfl _ _ (exec_built 28 [] rfl [] rfl _ built_M0) ?_)
          | (refine wpList_stM rfl _ _ rfl S 0 0 0 0 _ rfl rfl hr rfl ?_))
        (try simp only [Exit.inBlock, Exit.then])
        refine bodyPost_ret (results_M2 rfl _ _ S _ _ _ _ rfl (setRow_heap _ _ _ _ _ _ hr)) rfl ?_
        exact ⟨by rw [HV.out]; rfl, by rw [HS.out]; exact below_setRow' H5.out.2 _⟩

theorem rlget_any (B : List Int) (w : World) (hB : Byt B) : Calls Try.prog 17 #[.string (strOfNums B)] w fun e w' => e = .returned (getV B) ∧ Below w.heap.size w w' := by
  by_cases hl : B.length = 160
  · by_cases hd : B.take 4 = hdr
    · exact rlget_in B _ _ w hB hl hd rfl rfl
    · rw [getV_not B (fun hh => hd (by
        rw [hh.2.2, lb_eq, List.append_assoc, List.append_assoc]
        simp [hdr]))]
      exact rlget_hdr B w hB hl hd
  · rw [getV_not B (fun hh => hl hh.1)]
    exact rlget_len B _ w rfl hl
end Go.Proofs.Ytniminalkjhfbaa
