/-
  The reference's rows of blocks in memory; what its Find, without and first answer.
-/
import Derived.Test.YthjfobcfdpogeaaBJ
namespace Go.Proofs.Ythjfobcfdpogeaa
set_option linter.unusedVariables false
open Go.RowKit Plain

/-- The cells of a block as the reference keeps it. -/
def rc (x : Kp) : List Value := [.int .u64 x.b, .string (strOfNums x.bs), .int .i64 x.h]
def rcs (L : List Kp) : List Value := (L.map rc).flatten
theorem length_rc (x : Kp) : (rc x).length = 3 := rfl
theorem one_rc (x : Kp) : ∀ u ∈ rc x, u.oneCell' = true := by
  intro u hu
  simp only [rc, List.mem_cons, List.not_mem_nil, or_false] at hu
  rcases hu with rfl | rfl | rfl <;> rfl
theorem rcs_all (L : List Kp) : ∀ x ∈ L.map rc, x.length = 3 := by
  intro x hx
  obtain ⟨y, hy, rfl⟩ := List.mem_map.1 hx
  rfl
theorem length_rcs (L : List Kp) : (rcs L).length = L.length * 3 := by
  rw [rcs, flat_length _ 3 (rcs_all L), List.length_map]
theorem rcs_app (A B : List Kp) : rcs (A ++ B) = rcs A ++ rcs B := by simp [rcs]
theorem rcs_one (x : Kp) : rcs [x] = rc x := by simp [rcs]
theorem rcs_cons (x : Kp) (L : List Kp) : rcs (x :: L) = rc x ++ rcs L := by simp [rcs]
theorem one_rcs (L : List Kp) : ∀ u ∈ rcs L, u.oneCell' = true := by
  intro u hu
  simp only [rcs, List.mem_flatten, List.mem_map] at hu
  obtain ⟨l, ⟨x, _, rfl⟩, h⟩ := hu
  exact one_rc x u h
theorem rcs_at (L : List Kp) (k : Nat) (hk : k < L.length) (j : Nat) (hj : j < 3) : (rcs L)[3 * k + j]? = (rc L[k])[j]? := by
  rw [rcs, flat_at _ 3 (rcs_all L) k (by simpa using hk) j hj]
  simp
/-- A row of the reference's. -/
def RRow (w : World) (rv : Value) (L : List Kp) : Prop := w.ownsRow 0 49 3 rv L.length (rcs L)
theorem RRow.form {w : World} {rv : Value} {L : List Kp} (h : RRow w rv L) : ∃ a cap, rv = .slice a L.length cap ∧ L.length ≤ cap ∧ cap ≤ maxLen := by
  rcases h.2 with ⟨rfl, h2⟩ | ⟨g, cap, cur, rfl, _, _, h1, h2, _⟩
  · exact ⟨none, 0, by rw [h2], by omega, Nat.zero_le _⟩
  · exact ⟨_, _, rfl, h1, h2⟩
theorem RRow.below {w w' : World} {rv : Value} {L : List Kp} (h : RRow w rv L) (hb : Below w.heap.size w w') : RRow w' rv L := own_same h (fun k hk => hb.block k (h.lt k hk).2)
theorem RRow.fr {B : Nat} {w w' : World} {rv : Value} {L : List Kp} (h : RRow w rv L) (hf : Fr B w w') : RRow w' rv L := own_same h (fun k hk => by
  obtain ⟨cs, hc⟩ := own_type h hk
  rw [hf.row hc (by decide) (by decide), hc])
theorem RRow.nil (w : World) : RRow w (.slice none 0 0) [] := World.ownsRow_nil _ _ _ _
/-- What lies in a row of the reference's. -/
def RWays (w : World) (a : Option Addr) (L : List Kp) : Prop := 0 < L.length → ∃ g, a = some ⟨g, 0, none⟩ ∧ g < w.heap.size ∧ ∀ k (h : k < L.length), w.rangeAt g (k * 3) (rc L[k])
theorem RRow.ways {w : World} {a : Option Addr} {n cap : Nat} {L : List Kp} (h : RRow w (.slice a n cap) L) : RWays w a L := by
  intro h0
  rcases h.2 with ⟨h1, h2⟩ | ⟨g, cap', cur, h1, hb, hg, _⟩
  · omega
  · simp only [Value.slice.injEq] at h1
    obtain ⟨rfl, rfl, rfl⟩ := h1
    refine ⟨g, rfl, (Array.getElem?_eq_some_iff.1 hg).1, fun k hk j v hv => ?_⟩
    have hj : j < 3 := (List.getElem?_eq_some_iff.1 hv).1
    have := h.cells (g := g) rfl (3 * k + j) v (by rw [rcs_at L k hk j hj]; exact hv)
    rw [Addr.add_lit, Nat.zero_add, Nat.mul_comm] at this
    exact this
theorem infoB : (Try.prog.info? 49).map (fun i => (i.zero, i.size, i.bytes)) = some (some (.agg #[.int .u64 0, .string ByteArray.empty, .int .i64 0]), 3, 32) := by kernel_rfl
theorem sizeB : (Try.prog.info? 49).map (·.size) = some 3 := by kernel_rfl
theorem zeroB : (Try.prog.info? 49).map (·.zero) = some (some (.agg #[.int .u64 0, .string ByteArray.empty, .int .i64 0])) := by kernel_rfl
set_option maxRecDepth 20000 in
set_option maxHeartbeats 2000000 in
theorem rfind_any (w : World) (rv : Value) (L : List Kp) (h : RRow w rv L) (hl : L.length < 1000000) (b : Int) :
    Calls Try.prog 26 #[rv, .int .u64 b] w fun e w' => w = w' ∧ ((e = .returned (.int .i64 (-1)) ∧ No L b) ∨ ∃ k : Nat, e = .returned (.int .i64 (k : Int)) ∧ Fs L b k) := by
  obtain ⟨a, cap, rfl, _, _⟩ := h.form
  have HW : Box (RWays w a L) := ⟨h.ways⟩
  have hl2 : L.length < 9223372036854775807 := by omega
  clear h
  go_enter Try.func26, Try.ntmps26
  go_wp2
  go_loopw [5] (fun j wr => ∃ k : Nat, k ≤ L.length ∧ j = .int .i64 k ∧ Box (wr = w ∧ ∀ q (h : q < L.length), q < k → L[q].b ≠ b)) (fun j _ => L.length - (intOf j).toNat)
  case atStart => exact ⟨0, Nat.zero_le _, rfl, ⟨rfl, fun q _ hq => by omega⟩⟩
  case round =>
    obtain ⟨k, hk, rfl, HI⟩ := hrel
    obtain ⟨hwr, hno⟩ := HI.out
    rw [hwr]
    have HI2 : Box (∀ q (h : q < L.length), q < k → L[q].b ≠ b) := ⟨hno⟩
    clear hwr hno HI
    by_cases hlt : k < L.length
    · obtain ⟨g, rfl, hg, hr⟩ := HW.out (show 0 < L.length by omega)
      have d0 : w.cell? ⟨g, k * 3, none⟩ = some (.int .u64 L[k].b) := hr k hlt 0 _ rfl
      obtain ⟨x, hx⟩ : ∃ x, L[k].b = x := ⟨_, rfl⟩
      have Hx : Box (L[k].b = x) := ⟨hx⟩
      rw [hx] at d0
      clear hr hx
      by_cases hp : x = b
      · have hz : (x == b) = true := by simpa using hp
        have HP : Box (x = b) := ⟨hp⟩
        clear hp
        go_wp2
        go_ret
        exact ⟨rfl, .inr ⟨k, rfl, hlt, by rw [Hx.out]; exact HP.out, fun q hq hqk => HI2.out q hq hqk⟩⟩
      · have hz : (x == b) = false := by simpa using hp
        go_wp2
        exact ⟨⟨k + 1, by omega, by simp, ⟨by first | rfl | trivial, fun q hq hqk => by
          by_cases e : q = k
          · subst e; rw [Hx.out]; exact hp
          · exact HI2.out q hq (by omega)⟩⟩, by simp [intOf]; omega⟩
    · obtain rfl : k = L.length := by omega
      go_wp2
      go_ret
      exact ⟨rfl, .inl ⟨rfl, fun x hx => by
        obtain ⟨j, hj, rfl⟩ := List.getElem_of_mem hx
        exact HI2.out j hj hj⟩⟩
theorem rfind_no (w : World) (rv : Value) (L : List Kp) (h : RRow w rv L) (hl : L.length < 1000000) (b : Int) (hn : No L b) : Calls Try.prog 26 #[rv, .int .u64 b] w fun e w' => e = .returned (.int .i64 (-1)) ∧ w = w' := by
  refine (rfind_any w rv L h hl b).mono ?_
  rintro e w' ⟨hb, ⟨rfl, _⟩ | ⟨k, rfl, hk⟩⟩
  · exact ⟨rfl, hb⟩
  · exact (hn.not hk).elim
theorem rfind_ok (w : World) (rv : Value) (L : List Kp) (h : RRow w rv L) (hl : L.length < 1000000) (b : Int) (i : Nat) (hi : Fs L b i) : Calls Try.prog 26 #[rv, .int .u64 b] w fun e w' => e = .returned (.int .i64 (i : Int)) ∧ w = w' := by
  refine (rfind_any w rv L h hl b).mono ?_
  rintro e w' ⟨hb, ⟨rfl, hn⟩ | ⟨k, rfl, hk⟩⟩
  · exact (hn.not hi).elim
  · exact ⟨by rw [hk.only hi], hb⟩
/-- Nothing appended, out of a slice that is nil. -/
theorem run_appB_none {w : World} {base n c : Nat} {v : Value} {xs : List Value} {ty : TypeId} (h : w.ownsRow base 49 3 v n xs) : (Builtin.append_ #[26, 26] ty #[v, .slice none 0 c]).run Try.prog w = .ok v w := by
  obtain ⟨i0, hi, hz0, hz1, hz2⟩ := info_parts infoB
  rcases h.2 with ⟨rfl, rfl⟩ | ⟨g, cap', cur, rfl, _, _, hle, _⟩
  · simp [Builtin.append_, run_underlying Try.underlying26, sizeOf, typeInfo, hi, Builtin.lenOf, Builtin.firstCells]
  · simp [Builtin.append_, run_underlying Try.underlying26, sizeOf, typeInfo, hi, Builtin.lenOf, Builtin.firstCells, hle, storeCells]
/-- Blocks appended to a row of a call's own. -/
theorem wpList_appB {ops : Array Oper} {rest : List Oper} {o : Oper} {act : Act} {w : World} {Q : Exit → Act → World → Prop} (hgd : o.guard = none) (s x : Operand)
    (ho : o.op = .call { callee := .builtin .append, args := #[s, x], argTypes := #[26, 26] }) (base n m c : Nat) (v : Value) (A Y : List Kp) (a : Option Addr) (w0 : World)
    (hs : act.eval s = v) (hx : act.eval x = .slice a m c) (hown : w.ownsRow base 49 3 v n (rcs A)) (hm : Y.length = m) (hb : 0 < m → ∃ g o, a = some ⟨g, o, none⟩ ∧ w.rangeAt g o (rcs Y)) (hl : n + m < 1000000) (hbel : Below base w0 w) (hbase : base ≤ w.heap.size)
    (h : ∀ v' w', Box (w'.ownsRow base 49 3 v' (n + m) (rcs (A ++ Y)) ∧ Below base w0 w' ∧ base ≤ w'.heap.size) → wpList Try.prog ops Q rest (act.put o.dst v') w') : wpList Try.prog ops Q (o :: rest) act w := by
  obtain ⟨i0, hi, hz0, hz1, hz2⟩ := info_parts infoB
  cases a with
  | none =>
    have hm0 : m = 0 := by
      by_cases hm : m = 0
      · exact hm
      · obtain ⟨_, _, he, _⟩ := hb (by omega)
        cases he
    subst hm0
    obtain rfl : Y = [] := List.eq_nil_of_length_eq_zero hm
    refine wpList_plain hgd fun _ hK => ?_
    unfold Oper.wp execOp
    simp only [ho, resolve, invoke, builtin, Sem.run_bind, Sem.run_pure, Result.andThen_ok, List.map_toArray, List.map_cons, List.map_nil, hs, hx, run_appB_none hown]
    exact hK _ _ (h v w ⟨by simpa using hown, hbel, hbase⟩)
  | some ad =>
    refine wpList_append_own w hgd s x 26 ho base 49 i0 _ 3 32 Try.underlying26 hi hz0 hz1 hz2 rfl (by decide) v n _ hs hown ad m c (rcs Y) hx (by rw [length_rcs, hm]) (fun j u hj => ?_) (one_rcs Y) (by unfold maxLen; omega) (by omega) hbase ?_
    · have hjl := (List.getElem?_eq_some_iff.1 hj).1
      rw [length_rcs, hm] at hjl
      obtain ⟨g, o', e, hr⟩ := hb (by omega)
      simp only [Option.some.injEq] at e
      subst e
      rw [Addr.add_lit]
      exact hr j u hj
    · intro v' w' h1 h2 _
      have hsz := h2.size
      exact h v' w' ⟨by rw [rcs_app]; exact h1, hbel.grown h2 hbase (fun k hk => (hown.lt k hk).1), by omega⟩
theorem sliceB_hi (g n cap i : Nat) (hc : i ≤ cap) (x : World) : (Instr.sliceAt 26 (.slice (some ⟨g, 0, none⟩) n cap) none (some (.int .i64 (i : Int))) none).run Try.prog x = .ok (.slice (some ⟨g, 0, none⟩) i cap) x := by
  have hu : Try.prog.underlying 26 = some (.slice (Try.prog.elem 26)) := by kernel_rfl
  rw [run_sliceAt_slice (P := Try.prog) x 26 _ _ _ _ hu, run_slice_h (P := Try.prog) x 26 _ n cap hu .i64 (i : Int) (by omega) (by omega)]
  have hs : (sizeOf (Try.prog.elem 26)).run Try.prog x = .ok 3 x := by kernel_rfl
  rw [hs, Result.andThen_ok, sliced]
  simp [Addr.add_mid]
theorem sliceB_lo (g n cap i : Nat) (hi : i ≤ n) (hc : n ≤ cap) (x : World) : (Instr.sliceAt 26 (.slice (some ⟨g, 0, none⟩) n cap) (some (.int .i64 (i : Int))) none none).run Try.prog x = .ok (.slice (some ⟨g, beh cap i, none⟩) (n - i) (cap - i)) x := by
  have hu : Try.prog.underlying 26 = some (.slice (Try.prog.elem 26)) := by kernel_rfl
  rw [run_sliceAt_slice (P := Try.prog) x 26 _ _ _ _ hu, run_slice_l (P := Try.prog) x 26 _ n cap hu .i64 (i : Int) (by omega) (by omega)]
  have hs : (sizeOf (Try.prog.elem 26)).run Try.prog x = .ok 3 x := by kernel_rfl
  rw [hs, Result.andThen_ok, sliced, beh]
  by_cases e : cap = i <;> simp [e, Addr.add_mid]
theorem RRow.blk {w : World} {rv : Value} {L : List Kp} (h : RRow w rv L) (h0 : 0 < L.length) : ∃ g cap, rv = .slice (some ⟨g, 0, none⟩) L.length cap ∧ L.length ≤ cap ∧ cap ≤ maxLen ∧ g < w.heap.size ∧ ∀ A M Z, L = A ++ M ++ Z → w.rangeAt g (A.length * 3) (rcs M) := by
  rcases h.2 with ⟨h1, h2⟩ | ⟨g, cap, cur, h1, hb, hg, hc, hm, hs, htk⟩
  · omega
  · refine ⟨g, cap, h1, hc, hm, (Array.getElem?_eq_some_iff.1 hg).1, fun A M Z e j v hv => ?_⟩
    have hj := (List.getElem?_eq_some_iff.1 hv).1
    have h2 : (rcs L)[A.length * 3 + j]? = some v := by
      rw [e, rcs_app, rcs_app, List.append_assoc, List.getElem?_append_right (by rw [length_rcs]; omega), length_rcs, Nat.add_sub_cancel_left, List.getElem?_append_left hj]
      exact hv
    rw [cell_of_row _ _ _ _ _ _ hg, ← Array.getElem?_toList]
    rw [← htk, List.getElem?_take] at h2
    split at h2
    · exact h2
    · cases h2
set_option maxRecDepth 20000 in
set_option maxHeartbeats 2000000 in
theorem without_any (w : World) (rv : Value) (L : List Kp) (h : RRow w rv L) (hl : L.length < 1000000) (i : Nat) (hi : i < L.length) :
    Calls Try.prog 28 #[rv, .int .i64 (i : Int)] w fun e w' => ∃ rv', e = .returned rv' ∧ RRow w' rv' (L.eraseIdx i) ∧ Below w.heap.size w w' ∧ ∀ k, rv'.ownBlock = some k → w.heap.size ≤ k := by
  obtain ⟨g, cap, rfl, hc, hm, hgl, hr⟩ := h.blk (by omega)
  have HR : Box (∀ x, Below w.heap.size w x → x.rangeAt g 0 (rcs (L.take i)) ∧ x.rangeAt g ((i + 1) * 3) (rcs (L.drop (i + 1)))) := ⟨fun x hx => by
    have r1 := hr [] (L.take i) (L.drop i) (by simp)
    have r2 := hr (L.take (i + 1)) (L.drop (i + 1)) [] (by simp)
    rw [List.length_take, Nat.min_eq_left (by omega)] at r2
    simp only [List.length_nil, Nat.zero_mul] at r1
    exact ⟨range_below r1 hx hgl, range_below r2 hx hgl⟩⟩
  have HL : Box ((L.take i).length = i ∧ (L.drop (i + 1)).length = L.length - (i + 1) ∧ L.take i ++ L.drop (i + 1) = L.eraseIdx i ∧ (L.eraseIdx i).length = i + (L.length - (i + 1))) := ⟨by rw [List.length_take]; omega, by rw [List.length_drop], (List.eraseIdx_eq_take_drop_succ ..).symm, by rw [List.length_eraseIdx, if_pos hi]; omega⟩
  have hcm : cap ≤ 9223372036854775807 := hm
  obtain ⟨N, hN⟩ : ∃ N, L.length = N := ⟨_, rfl⟩
  rw [hN] at HL hi hl hc ⊢
  obtain ⟨j, hj⟩ : ∃ j, i + 1 = j := ⟨_, rfl⟩
  have HJ : Box (i + 1 = j ∧ (j < cap → beh cap j = j * 3)) := ⟨hj, fun h => by rw [beh, if_neg (by omega)]⟩
  have hjN : j ≤ N := by omega
  have hw : IntKind.i64.wrap ((i : Int) + 1) = (j : Int) := by rw [IntKind.wrap_i64]; omega
  have hij : i < j := by omega
  clear h hr hm hN hgl hj
  go_enter Try.func28, Try.ntmps28
  go_upto_region 3 with (first
    | (refine atSlice _ ?_; refine wpList_run rfl _ _ (exec_slice 26 (.tmp 7) none (some (.tmp 8)) rfl _ (sliceB_hi g N cap i (by omega) _)) ?_)
    | (at_builtin; refine wpList_appB rfl _ _ rfl w.heap.size 0 i cap (.slice none 0 0) [] (L.take i) (some ⟨g, 0, none⟩) w rfl rfl (World.ownsRow_nil _ _ _ _) HL.out.1 (fun _ => ⟨g, 0, rfl, (HR.out _ (Below.refl _ _)).1⟩) (by omega) (Below.refl _ _) (Nat.le_refl _) ?_; intro v1 w1 H1))
  have hb1 : Below w.heap.size w w1 := H1.out.2.1
  go_wp2_with (first
    | (refine atBin _ _ ?_; refine wpList_run rfl _ _ (exec_addE _ _ _ rfl (i : Int) 1 (j : Int) (by have := HJ.out.1; omega) (by omega) rfl rfl) ?_)
    | (refine atSlice _ ?_; refine wpList_run rfl _ _ (exec_slice 26 (.tmp 12) (some (.tmp 14)) none rfl _ (sliceB_lo g N cap j (by omega) (by omega) _)) ?_)
    | (at_builtin; refine wpList_appB rfl _ _ rfl w.heap.size (0 + i) (N - j) (cap - j) v1 (L.take i) (L.drop (i + 1)) (some ⟨g, beh cap j, none⟩) w rfl rfl (by have h1 := H1.out.1; rw [List.nil_append] at h1; exact h1) (by rw [HL.out.2.1, HJ.out.1]) (fun h0 => ⟨g, beh cap j, rfl, by rw [HJ.out.2 (by omega), ← HJ.out.1]; exact (HR.out w1 hb1).2⟩) (by omega) hb1 H1.out.2.2 ?_; intro v2 w2 H2))
  go_ret
  refine ⟨v2, rfl, ?_, H2.out.2.1, fun k hk => (H2.out.1.lt k hk).1⟩
  unfold RRow
  rw [HL.out.2.2.2]
  have h2 := H2.out.1
  rw [HL.out.2.2.1, Nat.zero_add, ← HJ.out.1] at h2
  exact own_low2 h2 (Nat.zero_le _)
set_option maxRecDepth 20000 in
set_option maxHeartbeats 2000000 in
theorem first_any (w : World) (rv : Value) (L : List Kp) (x : Kp) (h : RRow w rv L) (hl : L.length < 900000) :
    Calls Try.prog 27 #[.agg (rc x).toArray, rv] w fun e w' => ∃ rv', e = .returned rv' ∧ RRow w' rv' (x :: L) ∧ Below w.heap.size w w' ∧ ∀ k, rv'.ownBlock = some k → w.heap.size ≤ k := by
  obtain ⟨a, cap, rfl, hc, hm⟩ := h.form
  obtain ⟨S, hS⟩ : ∃ S, w.heap.size = S := ⟨_, rfl⟩
  have hb0 : Below w.heap.size w (w.alloc (.cells (rc x).toArray 49)) := (Below.refl _ _).alloc (Nat.le_refl _) _
  have hs0 : (w.alloc (.cells (rc x).toArray 49)).heap.size = S + 1 := by simp [hS]
  have H0 : Box ((w.alloc (.cells (rc x).toArray 49)).rangeAt S 0 (rc x) ∧ Below w.heap.size w (w.alloc (.cells (rc x).toArray 49))) := ⟨range_arr (al_at hS) _ (fun j v hv => by simpa using hv), hb0⟩
  have HW : Box (∀ y, Below w.heap.size w y → 0 < L.length → ∃ g o, a = some ⟨g, o, none⟩ ∧ y.rangeAt g o (rcs L)) := ⟨fun y hy h0 => by
    obtain ⟨g, cap', e, _, _, hgl, hr⟩ := h.blk h0
    simp only [Value.slice.injEq, true_and] at e
    refine ⟨g, 0, e.1, range_below ?_ hy hgl⟩
    have := hr [] L [] (by simp)
    simpa using this⟩
  obtain ⟨b, xa, xl, xc, bs, hh⟩ := x
  obtain ⟨N, hN⟩ : ∃ N, L.length = N := ⟨_, rfl⟩
  have HN : Box (L.length = N) := ⟨hN⟩
  rw [hN] at HW hl ⊢
  clear h hm hc hN hb0
  go_enter Try.func27, Try.ntmps27
  go_upto_region 1 with fail
  generalize w.alloc (.cells (rc ⟨b, xa, xl, xc, bs, hh⟩).toArray 49) = w1 at H0 hs0 ⊢
  (try simp only [hS])
  have HO : Box ((w1.alloc (.cells (rc ⟨b, xa, xl, xc, bs, hh⟩).toArray 49)).ownsRow w.heap.size 49 3 (.slice (some ⟨S + 1, 0, none⟩) 1 1) 1 (rcs [⟨b, xa, xl, xc, bs, hh⟩]) ∧ Below w.heap.size w (w1.alloc (.cells (rc ⟨b, xa, xl, xc, bs, hh⟩).toArray 49)) ∧ w.heap.size ≤ (w1.alloc (.cells (rc ⟨b, xa, xl, xc, bs, hh⟩).toArray 49)).heap.size) := ⟨by
    refine ⟨⟨by simp [rcs, rc], .inr ⟨S + 1, 1, _, rfl, by omega, al_at hs0, Nat.le_refl _, by unfold maxLen; omega, by simp [rc], by simp [rcs, rc]⟩⟩, H0.out.2.alloc (by omega) _, by simp; omega⟩⟩
  simp only [rc] at H0 HO ⊢
  go_upto_region 2 with (refine atLoad _ ?_; refine wpList_load_mid rfl 49 _ rfl S 0 rfl _ _ H0.out.1 Try.underlying49 rfl sizeB ?_)
  (try simp only [hs0])
  generalize w1.alloc (.cells #[.int .u64 b, .string (strOfNums bs), .int .i64 hh] 49) = w2 at HO ⊢
  go_wp2_with (at_builtin; refine wpList_appB rfl _ _ rfl w.heap.size 1 N cap (.slice (some ⟨S + 1, 0, none⟩) 1 1) [⟨b, xa, xl, xc, bs, hh⟩] L a w rfl rfl HO.out.1 HN.out (HW.out _ HO.out.2.1) (by omega) HO.out.2.1 HO.out.2.2 ?_; intro v2 w3 H2)
  go_ret
  refine ⟨v2, rfl, ?_, H2.out.2.1, fun k hk => (H2.out.1.lt k hk).1⟩
  unfold RRow
  have h2 := own_low2 H2.out.1 (Nat.zero_le _)
  rw [List.length_cons, HN.out, Nat.add_comm]
  exact h2
end Go.Proofs.Ythjfobcfdpogeaa
