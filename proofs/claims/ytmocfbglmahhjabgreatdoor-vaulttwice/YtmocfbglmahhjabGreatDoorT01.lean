/-
  Strings of bytes; rows of bytes that came in, and rows of a call's own. And what follows it.
-/
import Derived.Test.YtmocfbglmahhjabGreatDoorProg
import Derived.Laws.BytesArg
import Derived.Laws.Strings
import Derived.Laws.AppendOwn
import Derived.OwnWalk
import Derived.Maps.AppendAt
import Derived.OpenShut
import Derived.Test.YtmocfbglmahhjabGreatDoorT00
import Derived.ProofKit
import Derived.ShutString
import Derived.ChangeOld
import Derived.Below
import Derived.Deep.Matrix
import Derived.Deep.Cut
import Derived.Test.YtmocfbglmahhjabGreatDoorRows
import Derived.WalkKit
import Derived.WalkSpells
import Derived.WalkLawsBesides
import Derived.Deep.RegionHeld3
import Derived.Laws.CopyOwn
import Derived.Laws.BitsAllLaws
namespace Go.Proofs.YtmocfbglmahhjabGreatDoor
set_option maxRecDepth 100000
set_option linter.unusedVariables false
set_option maxRecDepth 100000
open Go.RowKit Plain
theorem str_nil : strOfNums [] = ByteArray.empty := rfl
theorem conv_zero (w : World) (a : Option Addr) (c : Nat) : (convert 24 9 (.slice a 0 c)).run Tryz.prog w = .ok (.string ByteArray.empty) w := by
  rw [run_convert_bytes_string w 24 9 5 a 0 c Tryz.underlying24 Tryz.underlying5 Tryz.underlying9]
  cases a with
  | none => simp [Conv.bytesToString]
  | some a =>
    rw [run_bytesToString w a 0 c [] (by simp [loadCells, loadCellsFrom])]
    rfl
theorem conv_bytes {w : World} {a : Option Addr} {len : Nat} {L : List Int} (h : Bytes w a len L) (cap : Nat) : (convert 24 9 (.slice a len cap)).run Tryz.prog w = .ok (.string (strOfNums L)) w := by
  by_cases h0 : len = 0
  · subst h0
    obtain rfl : L = [] := List.eq_nil_of_length_eq_zero h.1
    rw [str_nil]
    exact conv_zero w a cap
  · obtain ⟨b, off, rfl, _, hc⟩ := h.2.2 (by omega)
    exact run_convert_bytes_arg w 24 5 Tryz.underlying24 Tryz.underlying5 b off len cap L h.1 hc 9 Tryz.underlying9
theorem exec_conv {o : Oper} {a : Act} {w' : World} {ad : Option Addr} {len cap : Nat} {L : List Int} (x : Operand) (ho : o.op = .convert 24 9 x) (hx : a.eval x = .slice ad len cap) (hB : Bytes w' ad len L) :
    (execOp a.eval o).run Tryz.prog w' = .ok (.value (.string (strOfNums L))) w' := by
  unfold execOp
  simp only [ho, hx, Sem.run_bind, Sem.run_pure, conv_bytes hB, Result.andThen_ok]
/-- Strings of bytes are the same just if the bytes are. -/
theorem str_eq (A B : List Int) (hA : Byt A) (hB : Byt B) : strOfNums A = strOfNums B ↔ A = B := by
  constructor
  · intro h
    have hl : A.length = B.length := by
      have := congrArg (fun s : ByteArray => s.data.size) h
      simpa [strOfNums] using this
    refine eq_getD A B A.length rfl hl.symm (fun i hi => ?_)
    have h1 := congrArg (fun s : ByteArray => s.data[i]?) h
    have hi' : i < B.length := by omega
    simp [strOfNums, hi, hi'] at h1
    have hb1 := hA i
    have hb2 := hB i
    simp [hi] at hb1
    simp [hi'] at hb2
    simp [hi, hi']
    have h2 := congrArg UInt8.toNat h1
    simp at h2
    omega
  · rintro rfl; rfl
theorem str_beq (A B : List Int) (hA : Byt A) (hB : Byt B) : ((strOfNums A).toList == (strOfNums B).toList) = decide (A = B) := by
  rw [ByteArray.toList_eq, ByteArray.toList_eq]
  by_cases h : A = B
  · subst h; simp
  · have : ¬ (strOfNums A).data = (strOfNums B).data := fun e => h ((str_eq A B hA hB).1 (ByteArray.ext e))
    simp [h, this]
end Go.Proofs.YtmocfbglmahhjabGreatDoor
namespace Go.Proofs.YtmocfbglmahhjabGreatDoor
set_option maxRecDepth 100000
set_option linter.unusedVariables false
open Go.RowKit Plain
theorem own : ownKnob Tryz.prog.godebug = none := by kernel_rfl
theorem laidOut : laidOutB Tryz.prog = true := by kernel_rfl
/-- A slice of integers that came in: nil, or a row of 'cap' cells, the numbers 'zs', of which the first 'len' are its elements. -/
def IsRow (k : IntKind) (w : World) (a : Option Addr) (len cap : Nat) (zs : List Int) : Prop :=
  (a = none ∧ len = 0 ∧ cap = 0 ∧ zs = []) ∨
  ∃ x, a = some x ∧ len ≤ cap ∧ cap ≤ maxLen ∧ zs.length = cap ∧ (∀ i, i < zs.length → w.cell? (x.add i) = some (.int k (zs.getD i 0))) ∧ ∀ n ∈ zs, (Lit.int k n).wf = true
theorem block_lt {w : World} {b o : Nat} {v : Value} (h : w.cell? ⟨b, o, none⟩ = some v) : b < w.heap.size := by
  apply Nat.lt_of_not_le
  intro hle
  simp [World.cell?, Array.getElem?_eq_none hle] at h
theorem IsRow.len {k : IntKind} {w : World} {a : Option Addr} {len cap : Nat} {zs : List Int} (h : IsRow k w a len cap zs) : len ≤ maxLen := by
  rcases h with ⟨_, rfl, _⟩ | ⟨_, _, h1, h2, _⟩
  · exact Nat.zero_le _
  · omega
theorem IsRow.cells {k : IntKind} {w : World} {a : Option Addr} {len cap : Nat} {zs : List Int} (h : IsRow k w a len cap zs) :
    (zs.take len).length = len ∧ (∀ n ∈ zs.take len, (Lit.int k n).wf = true) ∧ (0 < len → ∃ b off, a = some ⟨b, off, none⟩ ∧ b < w.heap.size ∧ ∀ i, i < len → w.cell? ⟨b, off + i, none⟩ = some (.int k ((zs.take len).getD i 0))) := by
  rcases h with ⟨rfl, rfl, rfl, rfl⟩ | ⟨⟨b, off, spot⟩, rfl, hl, hm, hz, hcell, hwz⟩
  · exact ⟨rfl, by simp, by omega⟩
  · refine ⟨by rw [List.length_take]; omega, fun n hn => hwz n (List.mem_of_mem_take hn), fun hp => ?_⟩
    have h0 := hcell 0 (by omega)
    have hspot : spot = none := by simpa [Addr.add] using World.cell?_spot h0
    subst hspot
    have hc : ∀ i, i < len → w.cell? ⟨b, off + i, none⟩ = some (.int k ((zs.take len).getD i 0)) := by
      intro i hi
      have := hcell i (by omega)
      rw [Addr.add_lit] at this
      rw [this]
      simp only [List.getD, List.getElem?_take, if_pos hi]
    exact ⟨b, off, rfl, block_lt (hc 0 hp), hc⟩
theorem IsRow.bytes {w : World} {a : Option Addr} {len cap : Nat} {zs : List Int} (h : IsRow .u8 w a len cap zs) : Bytes w a len (zs.take len) := by
  obtain ⟨h1, h2, h3⟩ := h.cells
  refine ⟨h1, fun i => ?_, h3⟩
  by_cases hi : i < (zs.take len).length
  · have := bounds_u8 (h2 _ (List.getElem_mem hi))
    have e : (zs.take len).getD i 0 = (zs.take len)[i] := by simp only [List.getD, List.getElem?_eq_getElem hi, Option.getD_some]
    rw [e]
    omega
  · simp [List.getD, List.getElem?_eq_none (Nat.le_of_not_lt hi)]
theorem IsRow.pc {w : World} {a : Option Addr} {len cap : Nat} {zs : List Int} (h : IsRow .u8 w a len cap zs) : Bytes w a len (zs.take len) ∧ len ≤ cap ∧ cap ≤ 9223372036854775807 := by
  refine ⟨h.bytes, ?_⟩
  rcases h with ⟨_, rfl, rfl, _⟩ | ⟨_, _, h1, h2, _⟩
  · omega
  · unfold maxLen at h2; omega
end Go.Proofs.YtmocfbglmahhjabGreatDoor
namespace Go.Proofs.YtmocfbglmahhjabGreatDoor
set_option maxRecDepth 100000
set_option linter.unusedVariables false
open Go.RowKit Plain
theorem info5 : (Tryz.prog.info? 5).map (fun i => (i.zero, i.size, i.bytes)) = some (some (.int .u8 0), 1, 1) := by kernel_rfl
theorem own_cap {w : World} {base n cap : Nat} {a : Option Addr} {xs : List Value} (h : w.ownsRow base 5 1 (.slice a n cap) n xs) : n ≤ cap ∧ cap ≤ maxLen := by
  rcases h.2 with ⟨h1, h2⟩ | ⟨g, cap', cur, h1, _, _, h2, h3, _⟩
  · simp only [Value.slice.injEq] at h1
    obtain ⟨_, rfl, rfl⟩ := h1
    exact ⟨Nat.le_refl _, Nat.zero_le _⟩
  · simp only [Value.slice.injEq, true_and] at h1
    obtain ⟨_, rfl⟩ := h1
    exact ⟨h2, h3⟩
theorem bytes_news {w : World} {ad : Addr} {len : Nat} {L : List Int} (h : Bytes w (some ad) len L) : ∀ j u, (L.map (Value.int .u8))[j]? = some u → w.cell? (ad.add j) = some u := by
  intro j u hj
  have hlt : j < L.length := by simpa using (List.getElem?_eq_some_iff.1 hj).1
  obtain ⟨b, off, he, _, hc⟩ := h.2.2 (by rw [← h.1]; omega)
  simp only [Option.some.injEq] at he
  subst he
  rw [Addr.add_lit, hc j (by rw [← h.1]; exact hlt), ← hj]
  simp [hlt]
/-- Nothing appended to a row of the call's own, out of a slice that is nil. -/
theorem run_append_none {w : World} {base n c : Nat} {v : Value} {xs : List Value} {ty : TypeId} (h : w.ownsRow base 5 1 v n xs) : (Builtin.append_ #[24, 24] ty #[v, .slice none 0 c]).run Tryz.prog w = .ok v w := by
  obtain ⟨i0, hi, hz0, hz1, hz2⟩ := info_parts info5
  rcases h.2 with ⟨rfl, rfl⟩ | ⟨g, cap', cur, rfl, _, _, hle, _⟩
  · simp [Builtin.append_, run_underlying Tryz.underlying24, sizeOf, typeInfo, hi, Builtin.lenOf, Builtin.firstCells]
  · simp [Builtin.append_, run_underlying Tryz.underlying24, sizeOf, typeInfo, hi, Builtin.lenOf, Builtin.firstCells, hle, storeCells]
/-- Bytes appended to a row of the call's own. -/
theorem wpList_app {ops : Array Oper} {rest : List Oper} {o : Oper} {act : Act} {w : World} {Q : Exit → Act → World → Prop} (hgd : o.guard = none) (s x : Operand)
    (ho : o.op = .call { callee := .builtin .append, args := #[s, x], argTypes := #[24, 24] }) (base n m c : Nat) (v : Value) (A L : List Int) (a : Option Addr) (w0 : World)
    (hs : act.eval s = v) (hx : act.eval x = .slice a m c) (hown : w.ownsRow base 5 1 v n (A.map (Value.int .u8))) (hb : Bytes w a m L) (hl : n + m ≤ 140737488355328) (hbel : Below base w0 w) (hbase : base ≤ w.heap.size)
    (h : ∀ v' w', Box (w'.ownsRow base 5 1 v' (n + m) ((A ++ L).map (Value.int .u8)) ∧ Below base w0 w' ∧ base ≤ w'.heap.size) → wpList Tryz.prog ops Q rest (act.put o.dst v') w') : wpList Tryz.prog ops Q (o :: rest) act w := by
  obtain ⟨i0, hi, hz0, hz1, hz2⟩ := info_parts info5
  cases a with
  | none =>
    have hm : m = 0 := by
      by_cases hm : m = 0
      · exact hm
      · obtain ⟨_, _, he, _⟩ := hb.2.2 (by omega)
        cases he
    subst hm
    obtain rfl : L = [] := List.eq_nil_of_length_eq_zero hb.1
    refine wpList_plain hgd fun _ hK => ?_
    unfold Oper.wp execOp
    simp only [ho, resolve, invoke, builtin, Sem.run_bind, Sem.run_pure, Result.andThen_ok, List.map_toArray, List.map_cons, List.map_nil, hs, hx, run_append_none hown]
    exact hK _ _ (h v w ⟨by simpa using hown, hbel, hbase⟩)
  | some ad =>
    refine wpList_append_own w hgd s x 24 ho base 5 i0 (.int .u8 0) 1 1 Tryz.underlying24 hi hz0 hz1 hz2 rfl (by decide) v n _ hs hown ad m c (L.map (Value.int .u8)) hx (by simp [hb.1]) (bytes_news hb) (ints_oneCell _ _) (by unfold maxLen; omega) (by omega) hbase ?_
    intro v' w' h1 h2 _
    have := h2.size
    exact h v' w' ⟨by rw [List.map_append]; exact h1, hbel.grown h2 hbase (own_block_le hown), by omega⟩
theorem exec_slice {o : Oper} {a : Act} {w' : World} (t : TypeId) (x : Operand) (lo hi : Option Operand) (ho : o.op = .slice t x lo hi none) (r : Value) (h : (Instr.sliceAt t (a.eval x) (lo.map a.eval) (hi.map a.eval) none).run Tryz.prog w' = .ok r w') :
    (execOp a.eval o).run Tryz.prog w' = .ok (.value r) w' := by
  unfold execOp
  simp only [ho, Option.map_none, Sem.run_bind, Sem.run_pure, h, Result.andThen_ok]
theorem slice_lo (a : Option Addr) (len cap n : Nat) (hn : n ≤ len) (hc : len ≤ cap) : ∃ a', (∀ x, (Instr.sliceAt 24 (.slice a len cap) (some (.int .i64 (n : Int))) none none).run Tryz.prog x = .ok (.slice a' (len - n) (cap - n)) x) ∧ ∀ x B, Bytes x a len B → Bytes x a' (len - n) (B.drop n) := by
  refine ⟨if cap = n then a else a.map (·.add (n * 1)), fun x => ?_, fun x B hB => ?_⟩
  · have hu : Tryz.prog.underlying 24 = some (.slice (Tryz.prog.elem 24)) := by kernel_rfl
    rw [run_sliceAt_slice (P := Tryz.prog) x 24 _ _ _ _ hu, run_slice_l (P := Tryz.prog) x 24 a len cap hu .i64 (n : Int) (by omega) (by omega)]
    have hs : (sizeOf (Tryz.prog.elem 24)).run Tryz.prog x = .ok 1 x := by kernel_rfl
    rw [hs, Result.andThen_ok, sliced]
    simp
  · refine ⟨by rw [List.length_drop, hB.1], byt_drop B n hB.2.1, fun hp => ?_⟩
    obtain ⟨b, off, rfl, hlt, hcl⟩ := hB.2.2 (by omega)
    rw [if_neg (by omega)]
    refine ⟨b, off + n, by simp [Addr.add_mid], hlt, fun i hi => ?_⟩
    rw [Nat.add_assoc, hcl (n + i) (by omega)]
    simp [List.getD, List.getElem?_drop]
end Go.Proofs.YtmocfbglmahhjabGreatDoor
namespace Go.Proofs.YtmocfbglmahhjabGreatDoor
set_option maxRecDepth 100000
set_option linter.unusedVariables false
open Go.RowKit
set_option maxHeartbeats 400000 in
theorem fits_yes (n : Int) (w : World) (h1 : 1 ≤ n) (h2 : n ≤ 8) :
    Calls Tryz.prog 87 #[.int .i64 n] w fun e w' => e = .returned (.bool true) ∧ w = w' := by
  go_enter Tryz.func87, Tryz.ntmps87
  go_wp2
  go_ret
  exact ⟨rfl, rfl⟩
set_option maxHeartbeats 400000 in
theorem check_ok (a : Option Addr) (len cap : Nat) (at' n : Int) (w : World) (h1 : 1 ≤ n) (h2 : n ≤ 8) (hl : len ≤ maxLen) (h0 : 0 ≤ at') (h3 : at' + n ≤ (len : Int)) :
    Calls Tryz.prog 91 #[.slice a len cap, .int .i64 at', .int .i64 n] w fun e w' => e = .returned (.int .i64 0) ∧ w = w' := by
  unfold maxLen at hl
  have h4 : ¬ (len : Int) - n < at' := by omega
  have h5 : ¬ at' < 0 := by omega
  go_enter Tryz.func91, Tryz.ntmps91
  go_wp2_with (go_at_call 87; refine (fits_yes _ _ h1 h2).mono ?_; rintro e w' ⟨rfl, rfl⟩)
  go_ret
  exact ⟨rfl, rfl⟩
end Go.Proofs.YtmocfbglmahhjabGreatDoor
namespace Go.Proofs.YtmocfbglmahhjabGreatDoor
set_option maxRecDepth 100000
set_option linter.unusedVariables false
open Go.RowKit Plain
set_option maxHeartbeats 400000 in
theorem lay_any (g off n cap : Nat) (cur : List Value) (x : Int) (w : World) (hx0 : 0 ≤ x) (hx1 : x ≤ 18446744073709551615) (hn : n ≤ 8) (hg : w.heap[g]? = some (.cells cur.toArray 5 (0, 0))) (hfit : off + n ≤ cur.length) :
    Calls Tryz.prog 88 #[.slice (some ⟨g, off, none⟩) n cap, .int .u64 x] w fun e w' => e = .returned (.tuple #[]) ∧ w'.heap[g]? = some (.cells (splice cur off (bys x n)).toArray 5 (0, 0)) ∧ w.grownBy w' (some g) ∧ w'.heap.size = w.heap.size := by
  go_enter Tryz.func88, Tryz.ntmps88
  go_wp2
  go_loopw [7] (fun i wr => ∃ k : Nat, k ≤ n ∧ i = .int .i64 k ∧ wr.heap[g]? = some (.cells (splice cur off (bys x k)).toArray 5 (0, 0)) ∧ w.grownBy wr (some g) ∧ wr.heap.size = w.heap.size) (fun i _ => n - (intOf i).toNat)
  case atStart => exact ⟨0, Nat.zero_le _, rfl, by rw [bys_zero, splice_nil]; exact hg, World.grownBy.refl _ _, rfl⟩
  case round =>
    obtain ⟨k, hk, rfl, hg', hgr, hsz⟩ := hrel
    by_cases hlt : k < n
    · have hf : wr.frozen? ⟨g, off + k, none⟩ = false := frozen_of_row wr g (off + k) _ 5 hg'
      obtain ⟨v, hc⟩ := cell_row wr g (off + k) _ 5 hg' (by rw [length_splice _ _ _ (by rw [length_bys]; omega)]; omega)
      have R := lay_step w wr g off k cur x (by omega) hg' hgr hsz
      go_wp2
      go_roundw
      case rel => exact ⟨k + 1, by omega, by go_num, R⟩
      case measure => simp [intOf]; omega
    · obtain rfl : k = n := by omega
      go_wp2
      go_end0
      exact ⟨rfl, hg', hgr, hsz⟩
set_option maxHeartbeats 400000 in
theorem get_ok (a : Option Addr) (len cap : Nat) (L : List Int) (p n : Nat) (w : World) (hb : Bytes w a len L) (hl : len ≤ maxLen) (hn1 : 1 ≤ n) (hn2 : n ≤ 8) (hp : p + n ≤ len) :
    Calls Tryz.prog 67 #[.slice a len cap, .int .i64 p, .int .i64 n] w fun e w' => e = .returned (.tuple #[.int .u64 (num L p n), .int .i64 0]) ∧ w = w' := by
  obtain ⟨hL, hz, hc⟩ := hb
  obtain ⟨b, off, rfl, hlt, hc⟩ := hc (by omega)
  have hl' := hl
  unfold maxLen at hl'
  go_enter Tryz.func67, Tryz.ntmps67
  go_wp2_with (go_at_call 91; refine (check_ok _ _ _ _ _ _ (by omega) (by omega) hl (by omega) (by omega)).mono ?_; rintro e w' ⟨rfl, rfl⟩)
  go_loop [9, 19] (fun t i => ∃ k : Nat, k ≤ n ∧ i = .int .i64 k ∧ t = .int .u64 (num L p k)) (fun _ i => n - (intOf i).toNat)
  case atStart => exact ⟨0, Nat.zero_le _, rfl, rfl⟩
  case round =>
    obtain ⟨k, hk, rfl, rfl⟩ := hrel
    by_cases hlt : k < n
    · have hck := hc (p + k) (by omega)
      have hzk := hz (p + k)
      have hs : num L p (k + 1) = num L p k + L.getD (p + k) 0 * 2 ^ (8 * k) := rfl
      generalize L.getD (p + k) 0 = z at hck hzk hs
      have hnb := num_bd L p hz k
      generalize num L p k = t at hnb hs
      have HS : Hid (bits .or .u64 t (IntKind.u64.wrap (z * 2 ^ (8 * k))) = num L p (k + 1)) := by rw [hs]; exact or_step k (by omega) t z hnb hzk
      clear hc hz hs
      go_wp2
      go_round
      case rel => exact ⟨k + 1, by omega, by go_num, by rw [HS.out]⟩
      case measure => simp [intOf]; omega
    · obtain rfl : k = n := by omega
      go_wp2
      go_ret2
      exact ⟨rfl, rfl⟩
end Go.Proofs.YtmocfbglmahhjabGreatDoor
namespace Go.Proofs.YtmocfbglmahhjabGreatDoor
set_option maxRecDepth 100000
set_option linter.unusedVariables false
open Go.RowKit Plain
theorem Tryz.info5 : (Tryz.prog.info? 5).map (fun i => (i.zero, i.size, i.bytes)) = some (some (.int .u8 0), 1, 1) := by kernel_rfl
theorem splice_full (n : Nat) (x : Int) : splice (List.replicate n (Value.int .u8 0)) 0 (bys x n) = bys x n := by
  have := length_bys x n
  simp [splice, this]
set_option maxHeartbeats 400000 in
theorem put_ok (x : Int) (n : Nat) (w : World) (hx0 : 0 ≤ x) (hx1 : x ≤ 18446744073709551615) (h1 : 1 ≤ n) (h2 : n ≤ 8) :
    Calls Tryz.prog 59 #[.int .u64 x, .int .i64 n] w fun e w' => ∃ g, e = .returned (.slice (some ⟨g, 0, none⟩) n n) ∧ Out w w' (some ⟨g, 0, none⟩) n n (bytesOf x n) := by
  obtain ⟨i0, hi, hz0, hz1, hz2⟩ := info_parts Tryz.info5
  go_enter Tryz.func59, Tryz.ntmps59
  go_wp2_with (first | (go_at_call 87; refine (fits_yes _ _ (by omega) (by omega)).mono ?_; rintro e w' ⟨rfl, rfl⟩) | (at_make; refine wpList_make_full _ rfl (.tmp 9) (.tmp 9) 24 rfl _ 5 i0 (.int .u8 0) 1 Tryz.underlying24 hi hz0 hz1 _ _ _ _ n rfl rfl rfl rfl (by rw [hz2]; omega) (by unfold maxLen; omega) (Nat.le_refl _) ?_; intro w1 hown hgrow; have HR := made_row hown; clear hown))
  refine (lay_any _ 0 n n _ x _ hx0 hx1 h2 HR (by simp)).mono ?_
  rintro e w2 ⟨rfl, hr, hgr, _⟩
  rw [splice_full] at hr
  have hbl := ((Below.refl w.heap.size w).grown hgrow (Nat.le_refl _) (by simp)).grown hgr hgrow.size (by simp)
  clear HR hgrow hgr
  go_wp2
  go_ret
  exact ⟨_, rfl, Out.of_row (length_bytesOf x n) (by unfold maxLen; omega) (Nat.le_refl _) hr hbl⟩
end Go.Proofs.YtmocfbglmahhjabGreatDoor
namespace Go.Proofs.YtmocfbglmahhjabGreatDoor.Seq
set_option maxRecDepth 100000
open Go.RowKit
section
variable {P : Program} {md : Region.Mode} {ops : Array Oper} {Q : Exit → Act → World → Prop} {S S' : World → Prop}
/-- A later world: what was there has not turned. -/
def Lat (w0 : World) : World → Prop := fun w' => Below w0.heap.size w0 w'
theorem into (hS : ∀ w, S' w → S w) : ∀ (fuel : Nat) (listed : Array Bool) (a : Act) (w : World), wpAnyH P md ops Q S' fuel listed a w → wpAnyH P md ops Q S fuel listed a w
  | 0, _, _, _, h => h
  | fuel + 1, _, _, _, h => ⟨h.1, fun i hi => wpOp_mono (fun a' w' h' => ⟨hS _ h'.1, into hS fuel _ a' w' h'.2⟩) (h.2 i hi)⟩
theorem begin_lat {id : Nat} {a : Act} {w : World} (hm : P.follows .mixedOrders = true)
    (h : wpAnyH P .any ops Q (Lat w.drew) ops.size (Array.replicate ops.size false) a w.drew) : (Code.region id ops true).wp P Q a w :=
  wp_region_held_drew (S := Lat w.drew) hm (Below.refl _ _) (fun _ => h)
theorem begin_any {id : Nat} {a : Act} {w : World} (hm : P.follows .mixedOrders = true)
    (h : ∀ wd, Below w.heap.size w wd → wpAnyH P .any ops Q (Lat wd) ops.size (Array.replicate ops.size false) a wd) : (Code.region id ops true).wp P Q a w :=
  begin_lat hm (h _ (Below.refl _ _).drew)
theorem take_lat {i : Nat} {oi : Oper} {v : Value} {fuel : Nat} {listed : Array Bool} {a : Act} {w : World} (hi : ops[i]? = some oi)
    (hs : Region.noSelect ops = true) (hf : Region.free md ops listed i = true) (hr : (Region.ready md ops listed).contains i = true)
    (hQ : ∀ c a w, Q (.panic c) (a.put oi.dst v) w → Q (.panic c) a w) (hw : Region.wanted oi (yielded ops a.tmps) = true)
    (hv : ∀ w', Lat w w' → (execOp a.eval oi).run P w' = .ok (.value v) w')
    (h : wpAnyH P md ops Q (Lat w) fuel (listed.setIfInBounds i true) (a.put oi.dst v) w) : wpAnyH P md ops Q (Lat w) (fuel + 1) listed a w :=
  wpAnyH_take hi hs hf hr hQ (Or.inl ⟨hw, hv⟩) (Below.refl _ _) h
theorem only_lat {i : Nat} {o : Oper} {fuel : Nat} {listed : Array Bool} {a : Act} {w : World} (ho : ops[i]? = some o) (hr : Region.ready md ops listed = [i])
    (h : ∀ K' : Act → World → Prop, Shut (∀ a w1, Below w.heap.size w w1 → wpAnyH P md ops Q (Lat w1) fuel (listed.setIfInBounds i true) a w1 → K' a w1) → if Region.wanted o (yielded ops a.tmps) = true then Oper.wp P o a w K' Q else K' (a.put o.dst undef) w) :
    wpAnyH P md ops Q (Lat w) (fuel + 1) listed a w := by
  refine wpAnyH_ready hr (by simp) (AllReadyH.cons ho (fun K' hK => h K' ?_) AllReadyH.nil)
  intro a1 w1 hb hn
  exact hK.out a1 w1 hb (fun _ => into (fun w' hl => hb.trans (hl.mono hb.size)) _ _ _ _ hn)
end
end Go.Proofs.YtmocfbglmahhjabGreatDoor.Seq
namespace Go.Proofs.YtmocfbglmahhjabGreatDoor.Dig.Plain
set_option maxRecDepth 100000
set_option linter.unusedVariables false
open Go.RowKit
/-- A word is one of 32 bits. -/
def W32 (x : Int) : Prop := 0 ≤ x ∧ x < 4294967296
theorem W32.wrap (x : Int) : W32 (x % 4294967296) := by unfold W32; omega
theorem W32.bits (op : BinOp) (x y : Int) : W32 (bits op .u32 x y) := by
  unfold Go.bits
  rw [IntKind.wrap_u32]
  exact W32.wrap _
def rotr (x k : Int) : Int := bits .or .u32 (x / 2 ^ k.toNat) (x * 2 ^ (32 - k.toNat) % 4294967296)
theorem W32.rotr (x k : Int) : W32 (rotr x k) := W32.bits _ _ _
theorem bits_or_comm (k : IntKind) (x y : Int) : bits .or k x y = bits .or k y x := by
  unfold bits
  simp only [BitVec.or_comm]
theorem and31 (n : Nat) (h : 1 ≤ n) (h' : n ≤ 31) : bits .and .u64 (IntKind.u64.wrap (-(n : Int))) 31 = 32 - (n : Int) := by
  have key : ∀ n : Fin 32, 1 ≤ n.val → bits .and .u64 (IntKind.u64.wrap (-(n.val : Int))) 31 = 32 - (n.val : Int) := by decide +kernel
  exact key ⟨n, by omega⟩ h
end Go.Proofs.YtmocfbglmahhjabGreatDoor.Dig.Plain
namespace Go.Proofs.YtmocfbglmahhjabGreatDoor.Dig
set_option maxRecDepth 100000
set_option linter.unusedVariables false
open Go.RowKit Go.Proofs.YtmocfbglmahhjabGreatDoor.Dig.Plain
theorem rotl_any (x : Int) (n : Nat) (w : World) (h : W32 x) (hn : 1 ≤ n) (hn' : n ≤ 31) :
    Calls Tryz.prog 112 #[.int .u32 x, .int .i64 (-(n : Int))] w fun e w' => e = .returned (.int .u32 (rotr x n)) ∧ w = w' := by
  obtain ⟨h0, h1⟩ := h
  have hb := and31 n hn hn'
  have HR : Hid (bits .or .u32 (x * 2 ^ (32 - n) % 4294967296) (x / 2 ^ n) = rotr x n) := by unfold rotr; exact bits_or_comm _ _ _
  have e1 : (32 - (n : Int)).toNat = 32 - n := by omega
  have e2 : (32 - (32 - (n : Int))).toNat = n := by omega
  go_enter Tryz.func112, Tryz.ntmps112
  go_wp2
  go_ret
  exact ⟨by rw [← HR.out]; rfl, rfl⟩
theorem right_any (x : Int) (n : Nat) (w : World) (h : W32 x) (hn : 1 ≤ n) (hn' : n ≤ 31) :
    Calls Tryz.prog 109 #[.int .u32 x, .int .i64 n] w fun e w' => e = .returned (.int .u32 (rotr x n)) ∧ w = w' := by
  go_enter Tryz.func109, Tryz.ntmps109
  go_wp2_with (go_at_call 112; refine (rotl_any _ _ _ h hn hn').mono ?_; rintro e w' ⟨rfl, rfl⟩)
  go_ret
  exact ⟨rfl, rfl⟩
theorem right_k (x k : Int) (w : World) (h : W32 x) (hn : 1 ≤ k) (hn' : k ≤ 31) :
    Calls Tryz.prog 109 #[.int .u32 x, .int .i64 k] w fun e w' => e = .returned (.int .u32 (rotr x k)) ∧ w' = w := by
  obtain ⟨n, rfl⟩ := Int.eq_ofNat_of_zero_le (by omega : 0 ≤ k)
  exact (right_any x n w h (by omega) (by omega)).mono fun _ _ ⟨he, hw⟩ => ⟨he, hw.symm⟩
end Go.Proofs.YtmocfbglmahhjabGreatDoor.Dig
namespace Go.Proofs.YtmocfbglmahhjabGreatDoor.Dig.Plain
set_option maxRecDepth 100000
set_option linter.unusedVariables false
open Go.RowKit
/-- Bytes, each of 0 to 255. -/
def Byt (B : List Int) : Prop := ∀ i, 0 ≤ B.getD i 0 ∧ B.getD i 0 ≤ 255
/-- Words, each of 32 bits. -/
def Wrd (L : List Int) : Prop := ∀ i, W32 (L.getD i 0)
def u8s (B : List Int) : Array Value := (B.map (Value.int .u8)).toArray
def u32s (L : List Int) : Array Value := (L.map (Value.int .u32)).toArray
theorem getD_app_left (X Y : List Int) (i : Nat) (h : i < X.length) : (X ++ Y).getD i 0 = X.getD i 0 := by
  simp [List.getD, List.getElem?_append_left h]
theorem getD_of_lt (X : List Int) (i : Nat) (h : i < X.length) : X[i]? = some (X.getD i 0) := by simp [List.getD, h]
/-- A row of words, filled up by noughts to n. -/
def fil (X : List Int) (n : Nat) : Array Value := u32s (X ++ List.replicate (n - X.length) 0)
theorem size_fil (X : List Int) (n : Nat) (h : X.length ≤ n) : (fil X n).size = n := by simp [fil, u32s]; omega
theorem fil_set (X : List Int) (n : Nat) (v : Int) (h : X.length < n) : (fil X n).setIfInBounds X.length (.int .u32 v) = fil (X ++ [v]) n := by
  obtain ⟨m, hm⟩ : ∃ m, n - X.length = m + 1 := ⟨n - X.length - 1, by omega⟩
  have hm' : n - (X ++ [v]).length = m := by simp; omega
  unfold fil u32s
  rw [hm, hm']
  simp [List.replicate_succ]
theorem fil_get (X : List Int) (n i : Nat) (h : i < X.length) : (fil X n)[i]? = some (.int .u32 (X.getD i 0)) := by
  simp only [fil, u32s, List.getElem?_toArray, List.getElem?_map, List.getElem?_append_left h]
  rw [getD_of_lt X i h]; rfl
theorem fil_full (X : List Int) (n : Nat) (h : X.length = n) : fil X n = u32s X := by simp [fil, h]
theorem fil_some (X : List Int) (n i : Nat) (h : i < n) (hX : X.length ≤ n) : ∃ v, (fil X n)[i]? = some v := by
  have : i < (fil X n).size := by rw [size_fil X n hX]; exact h
  exact ⟨_, Array.getElem?_eq_getElem this⟩
def word (B : List Int) (p t : Nat) : Int := B.getD (p + 4 * t) 0 * 16777216 + B.getD (p + 4 * t + 1) 0 * 65536 + B.getD (p + 4 * t + 2) 0 * 256 + B.getD (p + 4 * t + 3) 0
theorem W32.word (B : List Int) (p t : Nat) (h : Byt B) : W32 (word B p t) := by
  unfold Plain.word W32
  have h1 := h (p + 4 * t)
  have h2 := h (p + 4 * t + 1)
  have h3 := h (p + 4 * t + 2)
  have h4 := h (p + 4 * t + 3)
  omega
theorem or_add (s a b : Nat) (ha : a % 2 ^ s = 0) (hb : b < 2 ^ s) (h1 : a < 4294967296) (h2 : b < 4294967296) : bits .or .u32 (a : Int) (b : Int) = (a : Int) + (b : Int) := by
  rw [u32_or_nat a b h1 h2, nat_join s a b ha hb]; simp
theorem or4 (a b c d : Int) (ha : 0 ≤ a ∧ a ≤ 255) (hb : 0 ≤ b ∧ b ≤ 255) (hc : 0 ≤ c ∧ c ≤ 255) (hd : 0 ≤ d ∧ d ≤ 255) :
    bits .or .u32 (bits .or .u32 (bits .or .u32 (a * 16777216) (b * 65536)) (c * 256)) d = a * 16777216 + b * 65536 + c * 256 + d := by
  obtain ⟨A, rfl⟩ := Int.eq_ofNat_of_zero_le ha.1
  obtain ⟨B, rfl⟩ := Int.eq_ofNat_of_zero_le hb.1
  obtain ⟨C, rfl⟩ := Int.eq_ofNat_of_zero_le hc.1
  obtain ⟨D, rfl⟩ := Int.eq_ofNat_of_zero_le hd.1
  have e1 := or_add 24 (A * 16777216) (B * 65536) (by omega) (by omega) (by omega) (by omega)
  have e2 := or_add 16 (A * 16777216 + B * 65536) (C * 256) (by omega) (by omega) (by omega) (by omega)
  have e3 := or_add 8 (A * 16777216 + B * 65536 + C * 256) D (by omega) (by omega) (by omega) (by omega)
  simp only [Int.natCast_add, Int.natCast_mul, Int.cast_ofNat_Int] at e1 e2 e3
  rw [e1, e2, e3]
def wl0 (B : List Int) (p : Nat) : Nat → List Int
  | 0 => []
  | k + 1 => wl0 B p k ++ [word B p k]
def sig0 (x : Int) : Int := bits .xor .u32 (bits .xor .u32 (rotr x 7) (rotr x 18)) (x / 8)
def sig1 (x : Int) : Int := bits .xor .u32 (bits .xor .u32 (rotr x 17) (rotr x 19)) (x / 1024)
def nextW (L : List Int) (j : Nat) : Int := (L.getD j 0 + sig0 (L.getD (j + 1) 0) + L.getD (j + 9) 0 + sig1 (L.getD (j + 14) 0)) % 4294967296
def wlx (B : List Int) (p : Nat) : Nat → List Int
  | 0 => wl0 B p 16
  | j + 1 => wlx B p j ++ [nextW (wlx B p j) j]
def sched (B : List Int) (p : Nat) : List Int := wlx B p 48
theorem length_wl0 (B : List Int) (p k : Nat) : (wl0 B p k).length = k := by
  induction k with
  | zero => rfl
  | succ k ih => simp [wl0, ih]
theorem length_wlx (B : List Int) (p j : Nat) : (wlx B p j).length = 16 + j := by
  induction j with
  | zero => simp [wlx, length_wl0]
  | succ j ih => simp [wlx, ih]; omega
theorem length_sched (B : List Int) (p : Nat) : (sched B p).length = 64 := length_wlx B p 48
theorem wrd_snoc (L : List Int) (v : Int) (h : Wrd L) (hv : W32 v) : Wrd (L ++ [v]) := by
  intro i
  by_cases hi : i < L.length
  · rw [getD_app_left _ _ _ hi]; exact h i
  · simp only [List.getD, List.getElem?_append_right (Nat.le_of_not_lt hi)]
    by_cases e : i - L.length = 0
    · rw [e]; simpa using hv
    · rw [List.getElem?_eq_none (by simp; omega)]; simp [W32]
theorem wrd_nil : Wrd [] := by intro i; simp [W32]
theorem wrd_wl0 (B : List Int) (p k : Nat) (h : Byt B) : Wrd (wl0 B p k) := by
  induction k with
  | zero => exact wrd_nil
  | succ k ih => exact wrd_snoc _ _ ih (W32.word B p k h)
theorem wrd_wlx (B : List Int) (p j : Nat) (h : Byt B) : Wrd (wlx B p j) := by
  induction j with
  | zero => exact wrd_wl0 B p 16 h
  | succ j ih => exact wrd_snoc _ _ ih (W32.wrap _)
theorem wrd_sched (B : List Int) (p : Nat) (h : Byt B) : Wrd (sched B p) := wrd_wlx B p 48 h
theorem wl0_congr (B C : List Int) (p q : Nat) (h : ∀ i, i < 64 → B.getD (p + i) 0 = C.getD (q + i) 0) (k : Nat) (hk : k ≤ 16) : wl0 B p k = wl0 C q k := by
  induction k with
  | zero => rfl
  | succ k ih =>
    rw [wl0, wl0, ih (by omega)]
    have h1 := h (4 * k) (by omega)
    have h2 := h (4 * k + 1) (by omega)
    have h3 := h (4 * k + 2) (by omega)
    have h4 := h (4 * k + 3) (by omega)
    simp only [← Nat.add_assoc] at h2 h3 h4
    simp only [word, h1, h2, h3, h4]
theorem sched_congr (B C : List Int) (p q : Nat) (h : ∀ i, i < 64 → B.getD (p + i) 0 = C.getD (q + i) 0) : sched B p = sched C q := by
  have key : ∀ j, wlx B p j = wlx C q j := by
    intro j
    induction j with
    | zero => exact wl0_congr B C p q h 16 (by omega)
    | succ j ih => rw [wlx, wlx, ih]
  exact key 48
theorem row_cell (w : World) (g i : Nat) (B : List Int) (t : TypeId) (fr : Nat × Nat) (hg : w.heap[g]? = some (.cells (u8s B) t fr)) (h : i < B.length) : w.cell? ⟨g, i, none⟩ = some (.int .u8 (B.getD i 0)) := by
  rw [cell_of_row _ _ _ _ _ _ hg]; simp [u8s, h]
theorem fil_cell (w : World) (g i n : Nat) (X : List Int) (t : TypeId) (fr : Nat × Nat) (hg : w.heap[g]? = some (.cells (fil X n) t fr)) (h : i < X.length) : w.cell? ⟨g, i, none⟩ = some (.int .u32 (X.getD i 0)) := by
  rw [cell_of_row _ _ _ _ _ _ hg]; exact fil_get X n i h
theorem u32_cell (w : World) (g i : Nat) (X : List Int) (t : TypeId) (fr : Nat × Nat) (hg : w.heap[g]? = some (.cells (u32s X) t fr)) (h : i < X.length) : w.cell? ⟨g, i, none⟩ = some (.int .u32 (X.getD i 0)) := by
  rw [cell_of_row _ _ _ _ _ _ hg]; simp [u32s, h]
/-- A store at the first nought of a row that is being filled. -/
theorem fil_step (w wr : World) (g n S : Nat) (X : List Int) (v : Int) (h : X.length < n) (hS : S ≤ g) (hg : wr.heap[g]? = some (.cells (fil X n) 173 (0, 0))) (hb : Below S w wr) :
    (wr.setCell ⟨g, X.length, none⟩ (.int .u32 v)).heap[g]? = some (.cells (fil (X ++ [v]) n) 173 (0, 0)) ∧ Below S w (wr.setCell ⟨g, X.length, none⟩ (.int .u32 v)) ∧ ∀ j, j ≠ g → (wr.setCell ⟨g, X.length, none⟩ (.int .u32 v)).heap[j]? = wr.heap[j]? := by
  refine ⟨?_, ⟨hb.os, hb.tape, hb.output, by simpa using hb.size, fun k hk => ?_⟩, fun j hj => heap_setCell_other wr ⟨g, X.length, none⟩ j _ (fun e => hj e)⟩
  · rw [heap_setCell_same wr g X.length _ 173 _ hg, fil_set X n v h]
  · rw [heap_setCell_other wr ⟨g, X.length, none⟩ k _ (fun e => by simp at e; omega)]
    exact hb.block k hk
theorem al_at {w : World} {o : Obj} {S : Nat} (h : w.heap.size = S) : (w.alloc o).heap[S]? = some o := by rw [← h]; exact heap_alloc_new w o
theorem al_old {w : World} {o x : Obj} {j : Nat} (h : w.heap[j]? = some x) : (w.alloc o).heap[j]? = some x := by
  rw [Below.heap_alloc w o j (Array.getElem?_eq_some_iff.1 h).1]; exact h
end Go.Proofs.YtmocfbglmahhjabGreatDoor.Dig.Plain
