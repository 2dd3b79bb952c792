/-
  Package seal.
-/
import Derived.Test.YtnicgmimhgbcfaaGreatDoorLB
import Derived.Test.YtnicgmimhgbcfaaGreatDoorMB
import Derived.Deep.OwnRows
import Derived.Laws.IdiomStrings
import Derived.Laws.Strings2
import Derived.Maps.AppendAt
import Derived.OpenShut
import Derived.Deep.Cut
namespace Go.Proofs.YtnicgmimhgbcfaaGreatDoor.Seal.Plain
set_option maxRecDepth 100000
end Go.Proofs.YtnicgmimhgbcfaaGreatDoor.Seal.Plain
namespace Go.Proofs.YtnicgmimhgbcfaaGreatDoor.Seal
set_option maxRecDepth 100000
set_option linter.unusedVariables false
set_option maxRecDepth 100000
open Go.RowKit Go.Proofs.YtnicgmimhgbcfaaGreatDoor.Plain Go.Proofs.YtnicgmimhgbcfaaGreatDoor.Seal.Plain

theorem exec_load8 {o : Oper} {a : Act} {w' : World} (t : TypeId) (n : Nat) (hu : Tryz.prog.underlying t = some (.array n 5)) (ht : (Tryz.prog.info? t).map (·.size) = some n) (x : Operand) (ho : o.op = .load t x) (g : Nat) (hx : a.eval x = .pointer (some ⟨g, 0, none⟩)) (X : List Int) (hX : X.length = n) (hg : w'.heap[g]? = some (.cells (u8s X) t (0, 0))) :
    (execOp a.eval o).run Tryz.prog w' = .ok (.value (.agg (u8s X))) w' := by
  have hs : (u8s X).size = n := by rw [size_u8s, hX]
  unfold execOp
  simp only [ho, hx, Instr.loadAt, Instr.sureAddr, Sem.run_bind, Sem.run_pure, Result.andThen_ok, run_loadVar_row w' g t t (u8s X) (0, 0) _ hg hu rfl (by rw [hs]; exact ht)]
theorem made8 (k : Nat) : madeCells #[Value.int .u8 0] k = u8s (List.replicate k 0) := by
  rw [← Array.toList_inj, toList_madeCells_one]
  simp [u8s]

theorem str_app (A B : List Int) : strOfNums A ++ strOfNums B = strOfNums (A ++ B) := by
  apply ByteArray.ext
  simp [strOfNums]
theorem str_size (L : List Int) : (strOfNums L).size = L.length := by
  show (strOfNums L).data.size = L.length
  simp [strOfNums]
theorem exec_slice {o : Oper} {a : Act} {w' : World} (t : TypeId) (x : Operand) (lo hi : Option Operand) (ho : o.op = .slice t x lo hi none) (r : Value) (h : (Instr.sliceAt t (a.eval x) (lo.map a.eval) (hi.map a.eval) none).run Tryz.prog w' = .ok r w') :
    (execOp a.eval o).run Tryz.prog w' = .ok (.value r) w' := by
  unfold execOp
  simp only [ho, Option.map_none, Sem.run_bind, Sem.run_pure, h, Result.andThen_ok]
theorem slice_hi (a : Option Addr) (len cap n : Nat) (hn : n ≤ len) (hc : len ≤ cap) : ∃ a', (∀ x, (Instr.sliceAt 62 (.slice a len cap) none (some (.int .i64 (n : Int))) none).run Tryz.prog x = .ok (.slice a' n cap) x) ∧ ∀ x B, Bytes x a len B → Bytes x a' n (B.take n) := by
  refine ⟨if cap = 0 then a else a.map (·.add (0 * 1)), fun x => ?_, fun x B hB => ?_⟩
  · have hu : Tryz.prog.underlying 62 = some (.slice (Tryz.prog.elem 62)) := by kernel_rfl
    rw [run_sliceAt_slice (P := Tryz.prog) x 62 _ _ _ _ hu, run_slice_h (P := Tryz.prog) x 62 a len cap hu .i64 (n : Int) (by omega) (by omega)]
    have hs : (sizeOf (Tryz.prog.elem 62)).run Tryz.prog x = .ok 1 x := by kernel_rfl
    rw [hs, Result.andThen_ok, sliced]
    simp
  · refine ⟨by rw [List.length_take, hB.1]; omega, byt_take B n hB.2.1, fun hp => ?_⟩
    obtain ⟨b, off, rfl, hlt, hcl⟩ := hB.2.2 (by omega)
    rw [if_neg (by omega)]
    refine ⟨b, off, by simp [Addr.add_mid], hlt, fun i hi => ?_⟩
    rw [hcl i (by omega)]
    simp [List.getD, hi]
theorem slice_lo (a : Option Addr) (len cap n : Nat) (hn : n ≤ len) (hc : len ≤ cap) : ∃ a', (∀ x, (Instr.sliceAt 62 (.slice a len cap) (some (.int .i64 (n : Int))) none none).run Tryz.prog x = .ok (.slice a' (len - n) (cap - n)) x) ∧ ∀ x B, Bytes x a len B → Bytes x a' (len - n) (B.drop n) := by
  refine ⟨if cap = n then a else a.map (·.add (n * 1)), fun x => ?_, fun x B hB => ?_⟩
  · have hu : Tryz.prog.underlying 62 = some (.slice (Tryz.prog.elem 62)) := by kernel_rfl
    rw [run_sliceAt_slice (P := Tryz.prog) x 62 _ _ _ _ hu, run_slice_l (P := Tryz.prog) x 62 a len cap hu .i64 (n : Int) (by omega) (by omega)]
    have hs : (sizeOf (Tryz.prog.elem 62)).run Tryz.prog x = .ok 1 x := by kernel_rfl
    rw [hs, Result.andThen_ok, sliced]
    simp
  · refine ⟨by rw [List.length_drop, hB.1], byt_drop B n hB.2.1, fun hp => ?_⟩
    obtain ⟨b, off, rfl, hlt, hcl⟩ := hB.2.2 (by omega)
    rw [if_neg (by omega)]
    refine ⟨b, off + n, by simp [Addr.add_mid], hlt, fun i hi => ?_⟩
    rw [Nat.add_assoc, hcl (n + i) (by omega)]
    simp [List.getD, List.getElem?_drop]

/-- A key in block S, a nonce in the next one, all else as it was. -/
def Tw (w x : World) (S : Nat) (K N : List Int) : Prop := x.heap[S]? = some (.cells (u8s K) 23 (0, 0)) ∧ x.heap[S + 1]? = some (.cells (u8s N) 217 (0, 0)) ∧ Below w.heap.size w x
theorem Tw.on {w x y : World} {S : Nat} {K N : List Int} (h : Tw w x S K N) (hb : Below x.heap.size x y) : Tw w y S K N := ⟨row_on h.1 hb, row_on h.2.1 hb, below_to h.2.2 hb⟩

theorem exec_conv {o : Oper} {a : Act} {w' : World} {ad : Option Addr} {len cap : Nat} {L : List Int} (x : Operand) (ho : o.op = .convert 62 9 x) (hx : a.eval x = .slice ad len cap) (hB : Bytes w' ad len L) :
    (execOp a.eval o).run Tryz.prog w' = .ok (.value (.string (strOfNums L))) w' := by
  unfold execOp
  simp only [ho, hx, Sem.run_bind, Sem.run_pure, conv_bytes hB, Result.andThen_ok]
/-- Strings of bytes are the same just if the bytes are. -/
theorem str_eq (A B : List Int) (hA : Byt A) (hB : Byt B) : strOfNums A = strOfNums B ↔ A = B := by
  constructor
  · intro h
    have hl : A.length = B.length := by
      have := congrArg (fun s : ByteArray => s.data.size) h
      simpa [strOfNums] using this
    refine eq_getD A B A.length rfl hl.symm (fun i hi => ?_)
    have h1 := congrArg (fun s : ByteArray => s.data[i]?) h
    have hi' : i < B.length := by omega
    simp [strOfNums, hi, hi'] at h1
    have hb1 := hA i
    have hb2 := hB i
    simp [hi] at hb1
    simp [hi'] at hb2
    simp [hi, hi']
    have h2 := congrArg UInt8.toNat h1
    simp at h2
    omega
  · rintro rfl; rfl
theorem str_beq (A B : List Int) (hA : Byt A) (hB : Byt B) : ((strOfNums A).toList == (strOfNums B).toList) = decide (A = B) := by
  rw [ByteArray.toList_eq, ByteArray.toList_eq]
  by_cases h : A = B
  · subst h; simp
  · have : ¬ (strOfNums A).data = (strOfNums B).data := fun e => h ((str_eq A B hA hB).1 (ByteArray.ext e))
    simp [h, this]
theorem own_cap {w : World} {base n cap : Nat} {a : Option Addr} {xs : List Value} (h : w.ownsRow base 5 1 (.slice a n cap) n xs) : n ≤ cap ∧ cap ≤ maxLen := by
  rcases h.2 with ⟨h1, h2⟩ | ⟨g, cap', cur, h1, _, _, h2, h3, _⟩
  · simp only [Value.slice.injEq] at h1
    obtain ⟨_, rfl, rfl⟩ := h1
    exact ⟨Nat.le_refl _, Nat.zero_le _⟩
  · simp only [Value.slice.injEq, true_and] at h1
    obtain ⟨_, rfl⟩ := h1
    exact ⟨h2, h3⟩
/-- Nothing appended to a row of the call's own, out of a slice that is nil. -/
theorem run_append_none {w : World} {base n c : Nat} {v : Value} {xs : List Value} {ty : TypeId} (h : w.ownsRow base 5 1 v n xs) : (Builtin.append_ #[62, 62] ty #[v, .slice none 0 c]).run Tryz.prog w = .ok v w := by
  obtain ⟨i0, hi, hz0, hz1, hz2⟩ := info_parts Tryz.info5
  rcases h.2 with ⟨rfl, rfl⟩ | ⟨g, cap', cur, rfl, _, _, hle, _⟩
  · simp [Builtin.append_, run_underlying Tryz.underlying62, sizeOf, typeInfo, hi, Builtin.lenOf, Builtin.firstCells]
  · simp [Builtin.append_, run_underlying Tryz.underlying62, sizeOf, typeInfo, hi, Builtin.lenOf, Builtin.firstCells, hle, storeCells]
/-- Bytes appended to a row of the call's own. -/
theorem wpList_app {ops : Array Oper} {rest : List Oper} {o : Oper} {act : Act} {w : World} {Q : Exit → Act → World → Prop} (hgd : o.guard = none) (s x : Operand)
    (ho : o.op = .call { callee := .builtin .append, args := #[s, x], argTypes := #[62, 62] }) (base n m c : Nat) (v : Value) (A L : List Int) (a : Option Addr) (w0 : World)
    (hs : act.eval s = v) (hx : act.eval x = .slice a m c) (hown : w.ownsRow base 5 1 v n (A.map (Value.int .u8))) (hb : Bytes w a m L) (hl : n + m ≤ 140737488355328) (hbel : Below base w0 w) (hbase : base ≤ w.heap.size)
    (h : ∀ v' w', Box (w'.ownsRow base 5 1 v' (n + m) ((A ++ L).map (Value.int .u8)) ∧ Below base w0 w' ∧ base ≤ w'.heap.size) → wpList Tryz.prog ops Q rest (act.put o.dst v') w') : wpList Tryz.prog ops Q (o :: rest) act w := by
  obtain ⟨i0, hi, hz0, hz1, hz2⟩ := info_parts Tryz.info5
  cases a with
  | none =>
    have hm : m = 0 := by
      by_cases hm : m = 0
      · exact hm
      · obtain ⟨_, _, he, _⟩ := hb.2.2 (by omega)
        cases he
    subst hm
    obtain rfl : L = [] := List.eq_nil_of_length_eq_zero hb.1
    refine wpList_plain hgd fun _ hK => ?_
    unfold Oper.wp execOp
    simp only [ho, resolve, invoke, builtin, Sem.run_bind, Sem.run_pure, Result.andThen_ok, List.map_toArray, List.map_cons, List.map_nil, hs, hx, run_append_none hown]
    exact hK _ _ (h v w ⟨by simpa using hown, hbel, hbase⟩)
  | some ad =>
    refine wpList_append_own w hgd s x 62 ho base 5 i0 (.int .u8 0) 1 1 Tryz.underlying62 hi hz0 hz1 hz2 rfl (by decide) v n _ hs hown ad m c (L.map (Value.int .u8)) hx (by simp [hb.1]) (hb.news) (ints_oneCell _ _) (by unfold maxLen; omega) (by omega) hbase ?_
    intro v' w' h1 h2 _
    have := h2.size
    exact h v' w' ⟨by rw [List.map_append]; exact h1, hbel.grown h2 hbase (own_block_le hown), by omega⟩
/-- The block of a row of a call's own that has bytes in it. -/
theorem own_block {w : World} {base n : Nat} {v : Value} {A : List Int} (h : w.ownsRow base 5 1 v n (A.map (Value.int .u8))) (hp : 0 < n) : ∃ g cap cur, v = .slice (some ⟨g, 0, none⟩) n cap ∧ base ≤ g ∧ w.heap[g]? = some (.cells cur 5 (0, 0)) ∧ n ≤ cur.size ∧ n ≤ cap ∧ cap ≤ maxLen ∧ ∀ i, i < n → cur[i]? = some (.int .u8 (A.getD i 0)) := by
  have hn : A.length = n := by simpa using h.1
  rcases h.2 with ⟨_, h3⟩ | ⟨g, cap', cur, h3, hb, hh, hle, hm, hs, ht⟩
  · omega
  · subst h3
    refine ⟨g, cap', cur, rfl, hb, hh, by omega, hle, hm, fun i hi => ?_⟩
    have e : cur.toList[i]? = (cur.toList.take n)[i]? := by rw [List.getElem?_take, if_pos hi]
    rw [← Array.getElem?_toList, e]
    have ht' : cur.toList.take n = A.map (Value.int .u8) := by simpa using ht
    rw [ht']
    have hi' : i < A.length := by omega
    simp [hi']
theorem byt_set (A : List Int) (k : Nat) (z : Int) (h : Byt A) (hz : 0 ≤ z ∧ z ≤ 255) : Byt (A.set k z) := by
  intro i
  simp only [List.getD]
  rw [List.getElem?_set]
  split
  · split
    · exact hz
    · simp
  · exact h i
theorem own_set {w : World} {g n k : Nat} {cur : Array Value} {A : List Int} {z : Int} (hg : w.heap[g]? = some (.cells cur 5 (0, 0))) (hs : n ≤ cur.size) (hc : ∀ i, i < n → cur[i]? = some (.int .u8 (A.getD i 0))) (hn : A.length = n) (hA : Byt A) (hz : 0 ≤ z ∧ z ≤ 255) (hk : k < n) :
    Bytes (w.setCell ⟨g, k, none⟩ (.int .u8 z)) (some ⟨g, 0, none⟩) n (A.set k z) := by
  have hh := heap_setCell_same w g k cur 5 (.int .u8 z) hg
  refine ⟨by simp [hn], byt_set A k z hA hz, fun _ => ⟨g, 0, rfl, by simpa using (Array.getElem?_eq_some_iff.1 hg).1, fun i hi => ?_⟩⟩
  rw [cell_of_row _ _ _ _ _ _ hh, Nat.zero_add]
  have hi' : i < A.length := by omega
  by_cases e : k = i
  · subst e
    simp [hi', show k < cur.size by omega]
  · have := hc i hi
    simp only [List.getD, List.getElem?_set, if_neg e]
    rw [Array.getElem?_setIfInBounds, if_neg e]
    exact this
set_option maxHeartbeats 400000 in
theorem pad_ok (a : Option Addr) (len cap : Nat) (L : List Int) (n : Nat) (w : World) (hb : Bytes w a len L) (h1 : 1 ≤ n) (h2 : n ≤ 2147483648) :
    Calls Tryz.prog 125 #[.slice a len cap, .int .i64 n] w fun e w' => ∃ g, e = .returned (.slice (some ⟨g, 0, none⟩) n n) ∧ Out w w' (some ⟨g, 0, none⟩) n n (padTo L n) := by
  obtain ⟨i0, hi, hz0, hz1, hz2⟩ := info_parts Tryz.info5
  have hlm : n ≤ maxLen := by unfold maxLen; omega
  have hLl := hb.1
  have hn1 : ¬ (n : Int) < 1 := by omega
  have hn2 : ¬ (2147483648 : Int) < (n : Int) := by omega
  go_enter Tryz.func125, Tryz.ntmps125
  go_wp2_with (first | (at_make; refine wpList_make_full _ rfl (.tmp 13) (.tmp 13) 62 rfl _ 5 i0 (.int .u8 0) 1 Tryz.underlying62 hi hz0 hz1 _ _ _ _ n rfl rfl rfl rfl (by rw [hz2]; omega) hlm (Nat.le_refl _) ?_; intro w1 hown hgrow; have HR := made_row hown; clear hown; have hbl := (Below.refl w.heap.size w).grown hgrow (Nat.le_refl _) (by simp); have hb1 := hb.below hbl) | (refine wpList_copy_splice rfl (.tmp 15) (.tmp 16) 62 62 rfl 5 Tryz.underlying62 size5 _ _ _ _ _ _ rfl rfl w.heap.size 0 _ 5 HR ((L.take n).map (Value.int .u8)) (length_cut L n len hLl) (fun h => ⟨rfl, hb1.src_take n (pos_cut L n len hLl h)⟩) (fit_cut L n) (ints_oneCell _ _) w.heap.size w hbl (Nat.le_refl _) ?_; intro w2 HG2 hB2))
  have HG := HG2.out
  rw [splice_pad L n] at HG
  clear HR hgrow HG2 hb1 hb
  go_ret
  exact ⟨_, rfl, Out.of_row (length_padTo L n) hlm (Nat.le_refl _) HG hB2⟩


theorem slice_mid (a : Option Addr) (len cap lo hi : Nat) (h1 : lo ≤ hi) (hn : hi ≤ len) (hc : len ≤ cap) : ∃ a', (∀ x, (Instr.sliceAt 62 (.slice a len cap) (some (.int .i64 (lo : Int))) (some (.int .i64 (hi : Int))) none).run Tryz.prog x = .ok (.slice a' (hi - lo) (cap - lo)) x) ∧ ∀ x B, Bytes x a len B → Bytes x a' (hi - lo) ((B.take hi).drop lo) := by
  refine ⟨if cap = lo then a else a.map (·.add (lo * 1)), fun x => ?_, fun x B hB => ?_⟩
  · have hu : Tryz.prog.underlying 62 = some (.slice (Tryz.prog.elem 62)) := by kernel_rfl
    rw [run_sliceAt_slice (P := Tryz.prog) x 62 _ _ _ _ hu, run_slice_lh (P := Tryz.prog) x 62 a len cap hu .i64 .i64 (lo : Int) (hi : Int) (by omega) (by omega) (by omega)]
    have hs : (sizeOf (Tryz.prog.elem 62)).run Tryz.prog x = .ok 1 x := by kernel_rfl
    rw [hs, Result.andThen_ok, sliced]
    simp
  · refine ⟨by rw [List.length_drop, List.length_take, hB.1]; omega, byt_drop _ lo (byt_take B hi hB.2.1), fun hp => ?_⟩
    obtain ⟨b, off, rfl, hlt, hcl⟩ := hB.2.2 (by omega)
    rw [if_neg (by omega)]
    refine ⟨b, off + lo, by simp [Addr.add_mid], hlt, fun i hi' => ?_⟩
    rw [Nat.add_assoc, hcl (lo + i) (by omega)]
    simp [List.getD, List.getElem?_drop, show lo + i < hi by omega]
theorem u8_back (z : Int) (h : 0 ≤ z ∧ z ≤ 255) : ((UInt8.ofNat z.toNat).toNat : Int) = z := by simp; omega
theorem str_data (L : List Int) : (strOfNums L).data = (L.map fun n => UInt8.ofNat n.toNat).toArray := rfl
/-- The bytes of a string, laid into new memory. -/
theorem conv_str (w : World) (L : List Int) (hL : Byt L) : ∃ c w', (convert 9 62 (.string (strOfNums L))).run Tryz.prog w = .ok (.slice (some ⟨w.heap.size, 0, none⟩) L.length c) w' ∧ Bytes w' (some ⟨w.heap.size, 0, none⟩) L.length L ∧ Below w.heap.size w w' := by
  have h := run_bytes_of_string (P := Tryz.prog) w 9 62 5 (strOfNums L) Tryz.underlying9 Tryz.underlying62 Tryz.underlying5
  rw [str_size] at h
  refine ⟨_, _, h, ⟨rfl, hL, fun hp => ⟨w.heap.size, 0, rfl, by simp, fun i hi => ?_⟩⟩, ((Below.refl _ _).drew).alloc (Nat.le_refl _) _⟩
  have ha : (w.drew.alloc (.cells (bytesRow (strOfNums L) (grownCap w L.length 0 5)) 5 ((bytesRow (strOfNums L) (grownCap w L.length 0 5)).size, (bytesRow (strOfNums L) (grownCap w L.length 0 5)).size + 1))).heap[w.heap.size]? = some (.cells (bytesRow (strOfNums L) (grownCap w L.length 0 5)) 5 ((bytesRow (strOfNums L) (grownCap w L.length 0 5)).size, (bytesRow (strOfNums L) (grownCap w L.length 0 5)).size + 1)) := al_at rfl
  rw [cell_of_row _ _ _ _ _ _ ha, Nat.zero_add]
  have hb := hL i
  have hg : L.getD i 0 = L[i] := by simp [List.getD, hi]
  rw [hg] at hb ⊢
  unfold bytesRow
  rw [Array.getElem?_append_left (by simp [str_data]; exact hi)]
  simp [str_data, hi]
  omega
/-- A byte of a string. -/
theorem index_str (L : List Int) (hL : Byt L) (i : Nat) (hi : i < L.length) (w : World) : (Instr.index 9 (.string (strOfNums L)) (.int .i64 (i : Int))).run Tryz.prog w = .ok (.int .u8 (L.getD i 0)) w := by
  rw [run_index_string w 9 _ .i64 (i : Int) Tryz.underlying9, dif_pos ⟨by omega, by rw [str_size]; omega⟩]
  have hb := hL i
  have hg : L.getD i 0 = L[i] := by simp [List.getD, hi]
  rw [hg] at hb ⊢
  have e : ((strOfNums L)[(i : Int).toNat]'(by rw [str_size]; omega)) = UInt8.ofNat (L[i]).toNat := by
    simp only [Int.toNat_natCast]
    show (strOfNums L).data[i]'_ = _
    simp [str_data]
  rw [e, u8_back _ hb]
/-- A part of a string. -/
theorem slice_str (L : List Int) (lo hi : Nat) (h1 : lo ≤ hi) (h2 : hi ≤ L.length) (w : World) : (Instr.sliceAt 9 (.string (strOfNums L)) (some (.int .i64 (lo : Int))) (some (.int .i64 (hi : Int))) none).run Tryz.prog w = .ok (.string (strOfNums ((L.take hi).drop lo))) w := by
  rw [run_sliceAt_string w 9 _ _ _ _ Tryz.underlying9, run_slice_string w 9 _ .i64 .i64 _ _ Tryz.underlying9 (by omega) (by omega) (by rw [str_size]; omega)]
  have e : (strOfNums L).extract (lo : Int).toNat (hi : Int).toNat = strOfNums ((L.take hi).drop lo) := by
    simp only [Int.toNat_natCast]
    have := ByteArray.extract_mk (L.map fun n => UInt8.ofNat n.toNat) lo hi
    unfold strOfNums
    rw [this]
    simp [List.drop_take]
  rw [e]
end Go.Proofs.YtnicgmimhgbcfaaGreatDoor.Seal
namespace Go.Proofs.YtnicgmimhgbcfaaGreatDoor.Seal.Plain
set_option maxRecDepth 100000
end Go.Proofs.YtnicgmimhgbcfaaGreatDoor.Seal.Plain
namespace Go.Proofs.YtnicgmimhgbcfaaGreatDoor.Seal
set_option maxRecDepth 100000
set_option linter.unusedVariables false
open Go.RowKit Go.Proofs.YtnicgmimhgbcfaaGreatDoor.Plain Go.Proofs.YtnicgmimhgbcfaaGreatDoor.Seal.Plain

theorem sfits_yes (n : Int) (w : World) (h : n = 160 ∨ n = 176) : Calls Tryz.prog 123 #[.int .i64 n] w fun e w' => e = .returned (.bool true) ∧ w = w' := by
  rcases h with rfl | rfl
  all_goals
    go_enter Tryz.func123, Tryz.ntmps123
    go_wp2
    go_ret
    exact ⟨rfl, rfl⟩
theorem sfits_no (n : Int) (w : World) (h1 : ¬ n = 160) (h2 : ¬ n = 176) : Calls Tryz.prog 123 #[.int .i64 n] w fun e w' => e = .returned (.bool false) ∧ w = w' := by
  have g1 : (n == 160) = false := by simpa using h1
  have g2 : (n == 176) = false := by simpa using h2
  go_enter Tryz.func123, Tryz.ntmps123
  go_wp2
  go_ret
  exact ⟨rfl, rfl⟩

set_option maxRecDepth 20000 in
set_option maxHeartbeats 1000000 in
theorem scrypt_in (K X B : List Int) (p v : Int) (a : Option Addr) (len cap : Nat) (w : World) (hKl : K.length = 32)
    (C1 : Box (∀ x, Calls Tryz.prog 150 #[.int .u32 p, .int .u64 v] x fun e w' => e = .returned (.agg (u8s X)) ∧ Below x.heap.size x w'))
    (C2 : Box (∀ x, Below w.heap.size w x → Calls Tryz.prog 149 #[.agg (u8s K), .int .u32 0, .agg (u8s X), .slice a len cap] x fun e w' => ∃ a', e = .returned (.tuple #[.slice a' len len, .int .i64 0]) ∧ Bytes w' a' len (cr K 0 X B len) ∧ Below x.heap.size x w')) :
    Calls Tryz.prog 124 #[.agg (u8s K), .int .u32 p, .int .u64 v, .slice a len cap] w fun e w' => ∃ a', e = .returned (.slice a' len len) ∧ Bytes w' a' len (cr K 0 X B len) ∧ Below w.heap.size w w' := by
  obtain ⟨S, hS⟩ : ∃ S, w.heap.size = S := ⟨_, rfl⟩
  have HS : Hid (w.heap.size = S) := hS
  have H0 : Box ((w.alloc (.cells (u8s K) 23)).heap[S]? = some (.cells (u8s K) 23 (0, 0)) ∧ Below w.heap.size w (w.alloc (.cells (u8s K) 23))) := ⟨al_at hS, (Below.refl _ _).alloc (Nat.le_refl _) _⟩
  clear hS
  go_enter Tryz.func124, Tryz.ntmps124
  go_upto_region 1 with fail
  rw [HS.out]
  generalize w.alloc (.cells (u8s K) 23) = x0 at H0 ⊢
  refine Seq.begin_any (by kernel_rfl) (fun wd hd => ?_)
  refine Seq.take_lat (i := 0) (v := .agg (u8s K)) rfl (by kernel_rfl) (by kernel_rfl) (by kernel_rfl) (fun _ _ _ h => h) (by rfl) (fun w' hLat => exec_load8 23 32 Tryz.underlying23 size32 (.tmp 4) rfl S rfl K hKl (row_on (row_on H0.out.1 hd) hLat)) ?_
  try simp only [Act.put, List.setIfInBounds_toArray, List.set_cons_zero, List.set_cons_succ, List.getElem_toArray, List.getElem_cons_zero]
  refine Seq.take_lat (i := 1) (v := ?_) rfl (by kernel_rfl) (by kernel_rfl) (by kernel_rfl) (fun _ _ _ h => h) (by rfl) ?_ ?_
  rotate_left
  · intro w' hLat; change Below _ _ _ at hLat; go_simp <;> with_reducible rfl
  try simp only [Act.put, List.setIfInBounds_toArray, List.set_cons_zero, List.set_cons_succ, List.getElem_toArray, List.getElem_cons_zero, List.getElem_cons_succ]
  refine Seq.take_lat (i := 2) (v := ?_) rfl (by kernel_rfl) (by kernel_rfl) (by kernel_rfl) (fun _ _ _ h => h) (by rfl) ?_ ?_
  rotate_left
  · intro w' hLat; change Below _ _ _ at hLat; go_simp <;> with_reducible rfl
  try simp only [Act.put, List.setIfInBounds_toArray, List.set_cons_zero, List.set_cons_succ, List.getElem_toArray, List.getElem_cons_zero, List.getElem_cons_succ]
  refine Seq.take_lat (i := 4) (v := ?_) rfl (by kernel_rfl) (by kernel_rfl) (by kernel_rfl) (fun _ _ _ h => h) (by rfl) ?_ ?_
  rotate_left
  · intro w' hLat; change Below _ _ _ at hLat; go_simp <;> with_reducible rfl
  try simp only [Act.put, List.setIfInBounds_toArray, List.set_cons_zero, List.set_cons_succ, List.getElem_toArray, List.getElem_cons_zero, List.getElem_cons_succ]
  refine Seq.only_lat (i := 3) rfl (by kernel_rfl) (fun KK hK => ?_)
  rw [if_pos (by rfl)]
  go_simp
  refine Calls.mono (C1.out wd) ?_
  rintro e w2 ⟨rfl, hb2⟩
  have H2 : Box (Below w.heap.size w w2) := ⟨below_to (below_to H0.out.2 hd) hb2⟩
  refine hK.out _ _ hb2 ?_
  clear hb2
  clear hK KK
  try simp only [Act.put, List.setIfInBounds_toArray, List.set_cons_zero, List.set_cons_succ, List.getElem_toArray, List.getElem_cons_zero, List.getElem_cons_succ]
  refine Seq.only_lat (i := 5) rfl (by kernel_rfl) (fun KK hK => ?_)
  rw [if_pos (by rfl)]
  go_simp
  refine Calls.mono (C2.out w2 H2.out) ?_
  rintro e w3 ⟨a3, rfl, hB3, hb3⟩
  have H3 : Box (Bytes w3 a3 len (cr K 0 X B len) ∧ Below w.heap.size w w3) := ⟨hB3, below_to H2.out hb3⟩
  refine hK.out _ _ hb3 ?_
  clear hb3 hB3
  clear hK KK
  try simp only [Act.put, List.setIfInBounds_toArray, List.set_cons_zero, List.set_cons_succ, List.getElem_toArray, List.getElem_cons_zero, List.getElem_cons_succ]
  refine Seq.take_lat (i := 6) (v := ?_) rfl (by kernel_rfl) (by kernel_rfl) (by kernel_rfl) (fun _ _ _ h => h) (by rfl) ?_ ?_
  rotate_left
  · intro w' hLat; change Below _ _ _ at hLat; go_simp <;> with_reducible rfl
  try simp only [Act.put, List.setIfInBounds_toArray, List.set_cons_zero, List.set_cons_succ, List.getElem_toArray, List.getElem_cons_zero, List.getElem_cons_succ]
  refine Seq.take_lat (i := 7) (v := ?_) rfl (by kernel_rfl) (by kernel_rfl) (by kernel_rfl) (fun _ _ _ h => h) (by rfl) ?_ ?_
  rotate_left
  · intro w' hLat; change Below _ _ _ at hLat; go_simp <;> with_reducible rfl
  try simp only [Act.put, List.setIfInBounds_toArray, List.set_cons_zero, List.set_cons_succ, List.getElem_toArray, List.getElem_cons_zero, List.getElem_cons_succ]
  refine Seq.take_lat (i := 8) (v := ?_) rfl (by kernel_rfl) (by kernel_rfl) (by kernel_rfl) (fun _ _ _ h => h) (by rfl) ?_ ?_
  rotate_left
  · intro w' hLat; change Below _ _ _ at hLat; go_simp <;> with_reducible rfl
  try simp only [Act.put, List.setIfInBounds_toArray, List.set_cons_zero, List.set_cons_succ, List.getElem_toArray, List.getElem_cons_zero, List.getElem_cons_succ]
  refine Seq.take_lat (i := 9) (v := ?_) rfl (by kernel_rfl) (by kernel_rfl) (by kernel_rfl) (fun _ _ _ h => h) (by rfl) ?_ ?_
  rotate_left
  · intro w' hLat; change Below _ _ _ at hLat; go_simp <;> with_reducible rfl
  try simp only [Act.put, List.setIfInBounds_toArray, List.set_cons_zero, List.set_cons_succ, List.getElem_toArray, List.getElem_cons_zero, List.getElem_cons_succ]
  refine Seq.take_lat (i := 10) (v := ?_) rfl (by kernel_rfl) (by kernel_rfl) (by kernel_rfl) (fun _ _ _ h => h) (by rfl) ?_ ?_
  rotate_left
  · intro w' hLat; change Below _ _ _ at hLat; go_simp <;> with_reducible rfl
  try simp only [Act.put, List.setIfInBounds_toArray, List.set_cons_zero, List.set_cons_succ, List.getElem_toArray, List.getElem_cons_zero, List.getElem_cons_succ]
  refine wpAnyH_done (by kernel_rfl) ?_ _
  go_wp2
  go_ret
  exact ⟨a3, rfl, H3.out.1, H3.out.2⟩
theorem scrypt_any (K B : List Int) (p v : Int) (a : Option Addr) (len cap : Nat) (w : World) (hT : Tab w) (hKl : K.length = 32) (hKb : Byt K) (hp : W32 p) (hv : 0 ≤ v ∧ v ≤ 18446744073709551615) (hB : Bytes w a len B) (hl : len ≤ 1000) :
    Calls Tryz.prog 124 #[.agg (u8s K), .int .u32 p, .int .u64 v, .slice a len cap] w fun e w' => ∃ a', e = .returned (.slice a' len len) ∧ Bytes w' a' len (cr K 0 (non p v) B len) ∧ Below w.heap.size w w' :=
  scrypt_in K (non p v) B p v a len cap w hKl ⟨fun x => nonce_any p v x hp hv⟩ ⟨fun x hx => crypt_ok a len cap K (non p v) B 0 x hKb hKl (byt_non p v) (length_non p v) ⟨by omega, by omega⟩ (hT.below hx) (hB.below hx) (by omega) (by omega)⟩

/-- What is sealed. -/
def sl (K : List Int) (p v : Int) (B : List Int) : List Int := padTo (bytesOf v 8 ++ cr K 0 (non p v) B B.length) 192
theorem length_sl (K : List Int) (p v : Int) (B : List Int) : (sl K p v B).length = 192 := length_padTo _ _
theorem byt_padTo (L : List Int) (n : Nat) (h : Byt L) : Byt (padTo L n) := byt_app _ _ (byt_take L n h) (byt_zeros _)
theorem byt_sl (K : List Int) (p v : Int) (B : List Int) : Byt (sl K p v B) := byt_padTo _ _ (byt_app _ _ (bytesOf_bd v 8) (byt_cr _ _ _ _ _))
theorem out_low {w0 w w' : World} {a : Option Addr} {n c : Nat} {L : List Int} (h : Out w w' a n c L) (hb : Below w0.heap.size w0 w) : Out w0 w' a n c L := by
  refine ⟨h.1, ⟨h.2.1.1, ?_⟩, hb.trans (h.2.2.mono hb.size)⟩
  rcases h.2.1.2 with h3 | ⟨g, cap', cur, h3, hb', r⟩
  · exact .inl h3
  · exact .inr ⟨g, cap', cur, h3, Nat.le_trans hb.size hb', r⟩

set_option maxRecDepth 20000 in
set_option maxHeartbeats 1000000 in
theorem seal_arg (K : List Int) (p v : Int) (a : Option Addr) (len cap : Nat) (w : World) (h : (¬ len = 160 ∧ ¬ len = 176) ∨ ((len = 160 ∨ len = 176) ∧ v = 0)) :
    Calls Tryz.prog 95 #[.agg (u8s K), .int .u32 p, .int .u64 v, .slice a len cap] w fun e w' => e = .returned (.tuple #[.slice none 0 0, .int .i64 1]) ∧ Below w.heap.size w w' := by
  have H0 : Box (Below w.heap.size w (w.alloc (.cells (u8s K) 23))) := ⟨(Below.refl _ _).alloc (Nat.le_refl _) _⟩
  rcases h with ⟨h1, h2⟩ | ⟨h1, rfl⟩
  · have HF : Box (∀ x, Calls Tryz.prog 123 #[.int .i64 (len : Int)] x fun e w' => e = .returned (.bool false) ∧ x = w') := ⟨fun x => sfits_no _ x (by omega) (by omega)⟩
    clear h1 h2
    go_enter Tryz.func95, Tryz.ntmps95
    go_upto_region 1 with fail
    generalize w.alloc (.cells (u8s K) 23) = x0 at H0 ⊢
    go_wp2_with (go_at_call 123; refine (HF.out _).mono ?_; rintro e w' ⟨rfl, rfl⟩)
    go_ret2
    exact ⟨rfl, H0.out⟩
  · have HF : Box (∀ x, Calls Tryz.prog 123 #[.int .i64 (len : Int)] x fun e w' => e = .returned (.bool true) ∧ x = w') := ⟨fun x => sfits_yes _ x (by omega)⟩
    clear h1
    go_enter Tryz.func95, Tryz.ntmps95
    go_upto_region 1 with fail
    generalize w.alloc (.cells (u8s K) 23) = x0 at H0 ⊢
    go_wp2_with (go_at_call 123; refine (HF.out _).mono ?_; rintro e w' ⟨rfl, rfl⟩)
    go_ret2
    exact ⟨rfl, H0.out⟩
set_option maxRecDepth 20000 in
set_option maxHeartbeats 1000000 in
theorem seal_worn (K : List Int) (p : Int) (a : Option Addr) (len cap : Nat) (w : World) (h : len = 160 ∨ len = 176) :
    Calls Tryz.prog 95 #[.agg (u8s K), .int .u32 p, .int .u64 18446744073709551615, .slice a len cap] w fun e w' => e = .returned (.tuple #[.slice none 0 0, .int .i64 15]) ∧ Below w.heap.size w w' := by
  have H0 : Box (Below w.heap.size w (w.alloc (.cells (u8s K) 23))) := ⟨(Below.refl _ _).alloc (Nat.le_refl _) _⟩
  have HF : Box (∀ x, Calls Tryz.prog 123 #[.int .i64 (len : Int)] x fun e w' => e = .returned (.bool true) ∧ x = w') := ⟨fun x => sfits_yes _ x (by omega)⟩
  clear h
  go_enter Tryz.func95, Tryz.ntmps95
  go_upto_region 1 with fail
  generalize w.alloc (.cells (u8s K) 23) = x0 at H0 ⊢
  go_wp2_with (go_at_call 123; refine (HF.out _).mono ?_; rintro e w' ⟨rfl, rfl⟩)
  go_ret2
  exact ⟨rfl, H0.out⟩

set_option maxRecDepth 20000 in
set_option maxHeartbeats 2000000 in
theorem seal_in (K C : List Int) (p v : Int) (a : Option Addr) (len cap : Nat) (w : World) (hKl : K.length = 32) (hC : Byt C) (hl : len ≤ 184) (hv0 : ¬ v = 0) (hv1 : ¬ v = 18446744073709551615) (hv : 0 ≤ v ∧ v ≤ 18446744073709551615)
    (HF : Box (∀ x, Calls Tryz.prog 123 #[.int .i64 (len : Int)] x fun e w' => e = .returned (.bool true) ∧ x = w'))
    (C1 : Box (∀ x, Below w.heap.size w x → Calls Tryz.prog 124 #[.agg (u8s K), .int .u32 p, .int .u64 v, .slice a len cap] x fun e w' => ∃ a', e = .returned (.slice a' len len) ∧ Bytes w' a' len C ∧ Below x.heap.size x w')) :
    Calls Tryz.prog 95 #[.agg (u8s K), .int .u32 p, .int .u64 v, .slice a len cap] w fun e w' => ∃ g, e = .returned (.tuple #[.slice (some ⟨g, 0, none⟩) 192 192, .int .i64 0]) ∧ Out w w' (some ⟨g, 0, none⟩) 192 192 (padTo (bytesOf v 8 ++ C) 192) := by
  obtain ⟨S, hS⟩ : ∃ S, w.heap.size = S := ⟨_, rfl⟩
  have HS : Hid (w.heap.size = S) := hS
  have H0 : Box ((w.alloc (.cells (u8s K) 23)).heap[S]? = some (.cells (u8s K) 23 (0, 0)) ∧ Below w.heap.size w (w.alloc (.cells (u8s K) 23))) := ⟨al_at hS, (Below.refl _ _).alloc (Nat.le_refl _) _⟩
  have g0 : (v == 0) = false := by simpa using hv0
  have g1 : (v == 18446744073709551615) = false := by simpa using hv1
  have C2 : Box (∀ x, Calls Tryz.prog 126 #[.int .u64 v, .int .i64 8] x fun e w' => ∃ g, e = .returned (.slice (some ⟨g, 0, none⟩) 8 8) ∧ Out x w' (some ⟨g, 0, none⟩) 8 8 (bytesOf v 8)) := ⟨fun x => put_ok v 8 x hv.1 hv.2 (by omega) (by omega)⟩
  have C3 : Box (∀ x a c, Bytes x a (8 + len) (bytesOf v 8 ++ C) → Calls Tryz.prog 125 #[.slice a (8 + len) c, .int .i64 192] x fun e w' => ∃ g, e = .returned (.slice (some ⟨g, 0, none⟩) 192 192) ∧ Out x w' (some ⟨g, 0, none⟩) 192 192 (padTo (bytesOf v 8 ++ C) 192)) := ⟨fun x a c hx => pad_ok a (8 + len) c _ 192 x hx (by omega) (by omega)⟩
  have HC : Box (Byt (bytesOf v 8 ++ C)) := ⟨byt_app _ _ (bytesOf_bd v 8) hC⟩
  clear hS hv hC hv0 hv1
  go_enter Tryz.func95, Tryz.ntmps95
  go_upto_region 1 with fail
  rw [HS.out]
  generalize w.alloc (.cells (u8s K) 23) = x0 at H0 ⊢
  go_wp2_with (first
    | (go_at_call 125; refine (C3.out w4 a4 c4 (own_bytes H4.out.1 HC.out)).mono ?_; rintro e w5 ⟨g5, rfl, ho⟩; have H5 : Box (Out w w5 (some ⟨g5, 0, none⟩) 192 192 (padTo (bytesOf v 8 ++ C) 192)) := ⟨out_low ho H4.out.2⟩; clear ho)
    | (refine wpList_app rfl (.tmp 27) (.tmp 28) rfl w2.heap.size 8 len len _ (bytesOf v 8) C a2 w2 rfl rfl H3.out.1 H3.out.2.1 (by omega) H3.out.2.2.1 H3.out.2.2.1.size ?_; intro v4 w4 HV; obtain ⟨a4, c4, hv4⟩ := own_form HV.out.1; subst hv4; have H4 : Box (w4.ownsRow w2.heap.size 5 1 (.slice a4 (8 + len) c4) (8 + len) ((bytesOf v 8 ++ C).map (Value.int .u8)) ∧ Below w.heap.size w w4) := ⟨HV.out.1, H2.out.2.trans (HV.out.2.1.mono H2.out.2.size)⟩; clear HV)
    | (go_at_call 126; refine (C2.out w2).mono ?_; rintro e w3 ⟨g3, rfl, ho⟩; have H3 : Box (w3.ownsRow w2.heap.size 5 1 (.slice (some ⟨g3, 0, none⟩) 8 8) 8 ((bytesOf v 8).map (Value.int .u8)) ∧ Bytes w3 a2 len C ∧ Below w2.heap.size w2 w3 ∧ Below w.heap.size w w3) := ⟨ho.2.1, H2.out.1.below ho.2.2, ho.2.2, below_to H2.out.2 ho.2.2⟩; clear ho)
    | (go_at_call 124; refine Calls.mono (C1.out x0 H0.out.2) ?_; rintro e w2 ⟨a2, rfl, hB, hb⟩; have H2 : Box (Bytes w2 a2 len C ∧ Below w.heap.size w w2) := ⟨hB, below_to H0.out.2 hb⟩; clear hB hb)
    | (refine wpList_seeKey S K hKl H0.out.1 rfl (.tmp 4) rfl rfl ?_)
    | (go_at_call 123; refine (HF.out _).mono ?_; rintro e w' ⟨rfl, rfl⟩))
  go_ret2
  exact ⟨g5, rfl, H5.out⟩
theorem seal_ok (K B : List Int) (p v : Int) (a : Option Addr) (len cap : Nat) (w : World) (hT : Tab w) (hKl : K.length = 32) (hKb : Byt K) (hp : W32 p) (hv0 : ¬ v = 0) (hv1 : ¬ v = 18446744073709551615) (hv : 0 ≤ v ∧ v ≤ 18446744073709551615) (hB : Bytes w a len B) (hl : len = 160 ∨ len = 176) :
    Calls Tryz.prog 95 #[.agg (u8s K), .int .u32 p, .int .u64 v, .slice a len cap] w fun e w' => ∃ g, e = .returned (.tuple #[.slice (some ⟨g, 0, none⟩) 192 192, .int .i64 0]) ∧ Out w w' (some ⟨g, 0, none⟩) 192 192 (sl K p v B) := by
  unfold sl
  rw [hB.1]
  exact seal_in K _ p v a len cap w hKl (byt_cr _ _ _ _ _) (by omega) hv0 hv1 hv ⟨fun x => sfits_yes _ x (by omega)⟩ ⟨fun x hx => scrypt_any K B p v a len cap x (hT.below hx) hKl hKb hp hv (hB.below hx) (by omega)⟩
end Go.Proofs.YtnicgmimhgbcfaaGreatDoor.Seal
namespace Go.Proofs.YtnicgmimhgbcfaaGreatDoor.Seal.Plain
set_option maxRecDepth 100000
end Go.Proofs.YtnicgmimhgbcfaaGreatDoor.Seal.Plain
namespace Go.Proofs.YtnicgmimhgbcfaaGreatDoor.Seal
set_option maxRecDepth 100000
set_option linter.unusedVariables false
open Go.RowKit Go.Proofs.YtnicgmimhgbcfaaGreatDoor.Plain Go.Proofs.YtnicgmimhgbcfaaGreatDoor.Seal.Plain

theorem set_any (z : Int) (w : World) : Calls Tryz.prog 134 #[.int .u8 z] w fun e w' => e = .returned (.bool (z != 0)) ∧ w = w' := by
  go_enter Tryz.func134, Tryz.ntmps134
  go_wp2
  go_ret
  exact ⟨rfl, rfl⟩
set_option maxRecDepth 20000 in
set_option maxHeartbeats 1000000 in
theorem index_no (a : Option Addr) (len cap : Nat) (L : List Int) (w : World) (hB : Bytes w a len L) (hl : len ≤ 1000) (h : ∀ i, i < len → L.getD i 0 = 0) :
    Calls Tryz.prog 157 #[.slice a len cap, .func (.func 134) #[] #[]] w fun e w' => e = .returned (.int .i64 (-1)) ∧ w = w' := by
  have HL : Box (∀ k, k < len → ∃ b off, a = some ⟨b, off, none⟩ ∧ w.cell? ⟨b, off + k, none⟩ = some (.int .u8 0)) := ⟨fun k hk => by
    obtain ⟨b, off, ha, _, hc⟩ := hB.2.2 (by omega)
    have := hc k hk
    rw [h k hk] at this
    exact ⟨b, off, ha, this⟩⟩
  have HC : Box (∀ x, Calls Tryz.prog 134 #[.int .u8 0] x fun e w' => e = .returned (.bool false) ∧ x = w') := ⟨fun x => set_any 0 x⟩
  clear hB h
  go_enter Tryz.func157, Tryz.ntmps157
  go_wp2
  go_loop [8] (fun i => ∃ k : Nat, k ≤ len ∧ i = .int .i64 k) (fun i => len - (intOf i).toNat)
  case atStart => exact ⟨0, by omega, rfl⟩
  case round =>
    obtain ⟨k, hk, rfl⟩ := hrel
    by_cases hlt : k < len
    · obtain ⟨b, off, rfl, hcell⟩ := HL.out k hlt
      go_wp2_with (go_at_call 134; refine (HC.out _).mono ?_; rintro e w' ⟨rfl, rfl⟩)
      go_round
      case rel => exact ⟨k + 1, by omega, by go_num⟩
      case measure => simp [intOf]; omega
    · obtain rfl : k = len := by omega
      go_wp2
      go_ret
      exact ⟨rfl, rfl⟩
set_option maxRecDepth 20000 in
set_option maxHeartbeats 1000000 in
theorem index_yes (a : Option Addr) (len cap : Nat) (L : List Int) (w : World) (hB : Bytes w a len L) (hl : len ≤ 1000) (i : Nat) (hi : i < len) (h : ¬ L.getD i 0 = 0) :
    Calls Tryz.prog 157 #[.slice a len cap, .func (.func 134) #[] #[]] w fun e w' => ∃ r : Nat, e = .returned (.int .i64 (r : Int)) ∧ w = w' := by
  obtain ⟨b, off, rfl, _, hc⟩ := hB.2.2 (by omega)
  have HL : Box (∀ k, k < len → w.cell? ⟨b, off + k, none⟩ = some (.int .u8 (L.getD k 0))) := ⟨hc⟩
  have HC : Box (∀ x z, Calls Tryz.prog 134 #[.int .u8 z] x fun e w' => e = .returned (.bool (z != 0)) ∧ x = w') := ⟨fun x z => set_any z x⟩
  have HI : Box (¬ L.getD i 0 = 0) := ⟨h⟩
  clear hB h hc
  go_enter Tryz.func157, Tryz.ntmps157
  go_wp2
  go_loop [8] (fun v => ∃ k : Nat, k ≤ i ∧ v = .int .i64 k) (fun v => len - (intOf v).toNat)
  case atStart => exact ⟨0, by omega, rfl⟩
  case round =>
    obtain ⟨k, hk, rfl⟩ := hrel
    have hlt : k < len := by omega
    have hcell := HL.out k hlt
    by_cases hz : L.getD k 0 = 0
    · rw [hz] at hcell
      have hki : ¬ k = i := fun e => HI.out (by rw [← e]; exact hz)
      have hc0 : Box (∀ x, Calls Tryz.prog 134 #[.int .u8 0] x fun e w' => e = .returned (.bool false) ∧ x = w') := ⟨fun x => HC.out x 0⟩
      clear hz
      go_wp2_with (go_at_call 134; refine (hc0.out _).mono ?_; rintro e w' ⟨rfl, rfl⟩)
      go_round
      case rel => exact ⟨k + 1, by omega, by go_num⟩
      case measure => simp [intOf]; omega
    · have hc0 : Box (∀ x, Calls Tryz.prog 134 #[.int .u8 (L.getD k 0)] x fun e w' => e = .returned (.bool true) ∧ x = w') := ⟨fun x => by
        have := HC.out x (L.getD k 0)
        rwa [show (L.getD k 0 != 0) = true by simpa using hz] at this⟩
      clear hz HI HL HC
      generalize L.getD k 0 = z at hcell hc0
      go_wp2_with (go_at_call 134; refine (hc0.out _).mono ?_; rintro e w' ⟨rfl, rfl⟩)
      go_ret
      exact ⟨k, rfl, rfl⟩
theorem contains_no (a : Option Addr) (len cap : Nat) (L : List Int) (w : World) (hB : Bytes w a len L) (hl : len ≤ 1000) (h : ∀ i, i < len → L.getD i 0 = 0) :
    Calls Tryz.prog 135 #[.slice a len cap, .func (.func 134) #[] #[]] w fun e w' => e = .returned (.bool false) ∧ w = w' := by
  have HI : Box (∀ x, x = w → Calls Tryz.prog 157 #[.slice a len cap, .func (.func 134) #[] #[]] x fun e w' => e = .returned (.int .i64 (-1)) ∧ x = w') := ⟨fun x hx => by subst hx; exact index_no a len cap L x hB hl h⟩
  clear h hB
  go_enter Tryz.func135, Tryz.ntmps135
  go_wp2_with (go_at_call 157; refine (HI.out _ rfl).mono ?_; rintro e w' ⟨rfl, rfl⟩)
  go_ret
  exact ⟨rfl, rfl⟩
theorem contains_yes (a : Option Addr) (len cap : Nat) (L : List Int) (w : World) (hB : Bytes w a len L) (hl : len ≤ 1000) (i : Nat) (hi : i < len) (h : ¬ L.getD i 0 = 0) :
    Calls Tryz.prog 135 #[.slice a len cap, .func (.func 134) #[] #[]] w fun e w' => e = .returned (.bool true) ∧ w = w' := by
  have HI : Box (∀ x, x = w → Calls Tryz.prog 157 #[.slice a len cap, .func (.func 134) #[] #[]] x fun e w' => ∃ r : Nat, e = .returned (.int .i64 (r : Int)) ∧ x = w') := ⟨fun x hx => by subst hx; exact index_yes a len cap L x hB hl i hi h⟩
  clear h hB hi
  go_enter Tryz.func135, Tryz.ntmps135
  go_wp2_with (go_at_call 157; refine (HI.out _ rfl).mono ?_; rintro e w' ⟨r, rfl, rfl⟩; have hr : (0 : Int) ≤ (r : Int) := Int.natCast_nonneg r)
  go_ret
  exact ⟨rfl, rfl⟩

set_option maxRecDepth 20000 in
set_option maxHeartbeats 1000000 in
theorem open_arg (K : List Int) (p n : Int) (a : Option Addr) (len cap : Nat) (w : World) (h1 : ¬ n = 160) (h2 : ¬ n = 176) :
    Calls Tryz.prog 107 #[.agg (u8s K), .int .u32 p, .slice a len cap, .int .i64 n] w fun e w' => e = .returned (.tuple #[.int .u64 0, .slice none 0 0, .int .i64 1]) ∧ Below w.heap.size w w' := by
  have H0 : Box (Below w.heap.size w (w.alloc (.cells (u8s K) 23))) := ⟨(Below.refl _ _).alloc (Nat.le_refl _) _⟩
  have HF : Box (∀ x, Calls Tryz.prog 123 #[.int .i64 n] x fun e w' => e = .returned (.bool false) ∧ x = w') := ⟨fun x => sfits_no _ x h1 h2⟩
  clear h1 h2
  go_enter Tryz.func107, Tryz.ntmps107
  go_upto_region 1 with fail
  generalize w.alloc (.cells (u8s K) 23) = x0 at H0 ⊢
  go_wp2_with (go_at_call 123; refine (HF.out _).mono ?_; rintro e w' ⟨rfl, rfl⟩)
  go_ret3
  exact ⟨rfl, H0.out⟩
set_option maxRecDepth 20000 in
set_option maxHeartbeats 1000000 in
theorem open_len (K : List Int) (p n : Int) (a : Option Addr) (len cap : Nat) (w : World) (h : n = 160 ∨ n = 176) (hl : ¬ len = 192) :
    Calls Tryz.prog 107 #[.agg (u8s K), .int .u32 p, .slice a len cap, .int .i64 n] w fun e w' => e = .returned (.tuple #[.int .u64 0, .slice none 0 0, .int .i64 11]) ∧ Below w.heap.size w w' := by
  have H0 : Box (Below w.heap.size w (w.alloc (.cells (u8s K) 23))) := ⟨(Below.refl _ _).alloc (Nat.le_refl _) _⟩
  have HF : Box (∀ x, Calls Tryz.prog 123 #[.int .i64 n] x fun e w' => e = .returned (.bool true) ∧ x = w') := ⟨fun x => sfits_yes _ x h⟩
  have g1 : ((len : Int) != 192) = true := by simp; omega
  clear h
  go_enter Tryz.func107, Tryz.ntmps107
  go_upto_region 1 with fail
  generalize w.alloc (.cells (u8s K) 23) = x0 at H0 ⊢
  go_wp2_with (go_at_call 123; refine (HF.out _).mono ?_; rintro e w' ⟨rfl, rfl⟩)
  go_ret3
  exact ⟨rfl, H0.out⟩

set_option maxRecDepth 20000 in
set_option maxHeartbeats 1000000 in
theorem open_zero (K : List Int) (p v : Int) (n : Nat) (a : Option Addr) (cap : Nat) (w : World) (hn : n = 160 ∨ n = 176) (hv : v = 0)
    (C1 : Box (∀ x, Below w.heap.size w x → Calls Tryz.prog 131 #[.slice a 192 cap, .int .i64 0, .int .i64 8] x fun e w' => e = .returned (.tuple #[.int .u64 v, .int .i64 0]) ∧ x = w')) :
    Calls Tryz.prog 107 #[.agg (u8s K), .int .u32 p, .slice a 192 cap, .int .i64 (n : Int)] w fun e w' => e = .returned (.tuple #[.int .u64 0, .slice none 0 0, .int .i64 11]) ∧ Below w.heap.size w w' := by
  have H0 : Box (Below w.heap.size w (w.alloc (.cells (u8s K) 23))) := ⟨(Below.refl _ _).alloc (Nat.le_refl _) _⟩
  have HF : Box (∀ x, Calls Tryz.prog 123 #[.int .i64 (n : Int)] x fun e w' => e = .returned (.bool true) ∧ x = w') := ⟨fun x => sfits_yes _ x (by omega)⟩
  subst hv
  clear hn
  go_enter Tryz.func107, Tryz.ntmps107
  go_upto_region 1 with fail
  generalize w.alloc (.cells (u8s K) 23) = x0 at H0 ⊢
  go_wp2_with (first
    | (go_at_call 131; refine (C1.out x0 H0.out).mono ?_; rintro e w' ⟨rfl, rfl⟩)
    | (go_at_call 123; refine (HF.out _).mono ?_; rintro e w' ⟨rfl, rfl⟩))
  go_ret3
  exact ⟨rfl, H0.out⟩

set_option maxRecDepth 20000 in
set_option maxHeartbeats 1000000 in
theorem open_worn (K : List Int) (p v : Int) (n : Nat) (a : Option Addr) (cap : Nat) (w : World) (hn : n = 160 ∨ n = 176) (hv : v = 18446744073709551615)
    (C1 : Box (∀ x, Below w.heap.size w x → Calls Tryz.prog 131 #[.slice a 192 cap, .int .i64 0, .int .i64 8] x fun e w' => e = .returned (.tuple #[.int .u64 v, .int .i64 0]) ∧ x = w')) :
    Calls Tryz.prog 107 #[.agg (u8s K), .int .u32 p, .slice a 192 cap, .int .i64 (n : Int)] w fun e w' => e = .returned (.tuple #[.int .u64 0, .slice none 0 0, .int .i64 11]) ∧ Below w.heap.size w w' := by
  have H0 : Box (Below w.heap.size w (w.alloc (.cells (u8s K) 23))) := ⟨(Below.refl _ _).alloc (Nat.le_refl _) _⟩
  have HF : Box (∀ x, Calls Tryz.prog 123 #[.int .i64 (n : Int)] x fun e w' => e = .returned (.bool true) ∧ x = w') := ⟨fun x => sfits_yes _ x (by omega)⟩
  subst hv
  clear hn
  go_enter Tryz.func107, Tryz.ntmps107
  go_upto_region 1 with fail
  generalize w.alloc (.cells (u8s K) 23) = x0 at H0 ⊢
  go_wp2_with (first
    | (go_at_call 131; refine (C1.out x0 H0.out).mono ?_; rintro e w' ⟨rfl, rfl⟩)
    | (go_at_call 123; refine (HF.out _).mono ?_; rintro e w' ⟨rfl, rfl⟩))
  go_ret3
  exact ⟨rfl, H0.out⟩

set_option maxRecDepth 20000 in
set_option maxHeartbeats 1000000 in
theorem open_tail (K : List Int) (p v : Int) (n : Nat) (a : Option Addr) (cap : Nat) (w : World) (hn : n = 160 ∨ n = 176) (m : Nat) (hm : 8 + n = m) (hv0 : ¬ v = 0) (hv1 : ¬ v = 18446744073709551615) (a1 : Option Addr) (hsl : ∀ x, (Instr.sliceAt 62 (.slice a 192 cap) (some (.int .i64 (m : Int))) none none).run Tryz.prog x = .ok (.slice a1 (192 - m) (cap - m)) x)
    (C2 : Box (∀ x, Below w.heap.size w x → Calls Tryz.prog 135 #[.slice a1 (192 - m) (cap - m), .func (.func 134) #[] #[]] x fun e w' => e = .returned (.bool true) ∧ x = w'))
    (C1 : Box (∀ x, Below w.heap.size w x → Calls Tryz.prog 131 #[.slice a 192 cap, .int .i64 0, .int .i64 8] x fun e w' => e = .returned (.tuple #[.int .u64 v, .int .i64 0]) ∧ x = w')) :
    Calls Tryz.prog 107 #[.agg (u8s K), .int .u32 p, .slice a 192 cap, .int .i64 (n : Int)] w fun e w' => e = .returned (.tuple #[.int .u64 0, .slice none 0 0, .int .i64 11]) ∧ Below w.heap.size w w' := by
  have H0 : Box (Below w.heap.size w (w.alloc (.cells (u8s K) 23))) := ⟨(Below.refl _ _).alloc (Nat.le_refl _) _⟩
  have HF : Box (∀ x, Calls Tryz.prog 123 #[.int .i64 (n : Int)] x fun e w' => e = .returned (.bool true) ∧ x = w') := ⟨fun x => sfits_yes _ x (by omega)⟩
  have g0 : (v == 0) = false := by simpa using hv0
  have g1 : (v == 18446744073709551615) = false := by simpa using hv1
  have e8 : IntKind.i64.wrap (8 + (n : Int)) = (m : Int) := by rw [IntKind.wrap_i64]; omega
  clear hn hm hv0 hv1
  go_enter Tryz.func107, Tryz.ntmps107
  go_upto_region 1 with fail
  generalize w.alloc (.cells (u8s K) 23) = x0 at H0 ⊢
  go_wp2_with (first
    | (go_at_call 135; refine (C2.out x0 H0.out).mono ?_; rintro e w' ⟨rfl, rfl⟩)
    | (go_at_call 131; refine (C1.out x0 H0.out).mono ?_; rintro e w' ⟨rfl, rfl⟩)
    | (go_at_call 123; refine (HF.out _).mono ?_; rintro e w' ⟨rfl, rfl⟩))
  go_ret3
  exact ⟨rfl, H0.out⟩

set_option maxRecDepth 20000 in
set_option maxHeartbeats 1000000 in
theorem open_in (K D : List Int) (p v : Int) (n : Nat) (a : Option Addr) (cap : Nat) (w : World) (hKl : K.length = 32) (hn : n = 160 ∨ n = 176) (m : Nat) (hm : 8 + n = m) (hv0 : ¬ v = 0) (hv1 : ¬ v = 18446744073709551615) (a1 a2 : Option Addr)
    (hsl : ∀ x, (Instr.sliceAt 62 (.slice a 192 cap) (some (.int .i64 (m : Int))) none none).run Tryz.prog x = .ok (.slice a1 (192 - m) (cap - m)) x)
    (hsm : ∀ x, (Instr.sliceAt 62 (.slice a 192 cap) (some (.int .i64 8)) (some (.int .i64 (m : Int))) none).run Tryz.prog x = .ok (.slice a2 (m - 8) (cap - 8)) x)
    (C2 : Box (∀ x, Below w.heap.size w x → Calls Tryz.prog 135 #[.slice a1 (192 - m) (cap - m), .func (.func 134) #[] #[]] x fun e w' => e = .returned (.bool false) ∧ x = w'))
    (C3 : Box (∀ x, Below w.heap.size w x → Calls Tryz.prog 124 #[.agg (u8s K), .int .u32 p, .int .u64 v, .slice a2 (m - 8) (cap - 8)] x fun e w' => ∃ a', e = .returned (.slice a' n n) ∧ Bytes w' a' n D ∧ Below x.heap.size x w'))
    (C1 : Box (∀ x, Below w.heap.size w x → Calls Tryz.prog 131 #[.slice a 192 cap, .int .i64 0, .int .i64 8] x fun e w' => e = .returned (.tuple #[.int .u64 v, .int .i64 0]) ∧ x = w')) :
    Calls Tryz.prog 107 #[.agg (u8s K), .int .u32 p, .slice a 192 cap, .int .i64 (n : Int)] w fun e w' => ∃ a', e = .returned (.tuple #[.int .u64 v, .slice a' n n, .int .i64 0]) ∧ Bytes w' a' n D ∧ Below w.heap.size w w' := by
  obtain ⟨S, hS⟩ : ∃ S, w.heap.size = S := ⟨_, rfl⟩
  have HS : Hid (w.heap.size = S) := hS
  have H1 : Box ((w.alloc (.cells (u8s K) 23)).heap[S]? = some (.cells (u8s K) 23 (0, 0)) ∧ Below w.heap.size w (w.alloc (.cells (u8s K) 23))) := ⟨al_at hS, (Below.refl _ _).alloc (Nat.le_refl _) _⟩
  have HF : Box (∀ x, Calls Tryz.prog 123 #[.int .i64 (n : Int)] x fun e w' => e = .returned (.bool true) ∧ x = w') := ⟨fun x => sfits_yes _ x (by omega)⟩
  have g0 : (v == 0) = false := by simpa using hv0
  have g1 : (v == 18446744073709551615) = false := by simpa using hv1
  have e8 : IntKind.i64.wrap (8 + (n : Int)) = (m : Int) := by rw [IntKind.wrap_i64]; omega
  clear hn hm hv0 hv1 hS
  go_enter Tryz.func107, Tryz.ntmps107
  go_upto_region 1 with fail
  rw [HS.out]
  generalize w.alloc (.cells (u8s K) 23) = x0 at H1 ⊢
  go_upto_region 9 with (first
    | (go_at_call 135; refine (C2.out x0 H1.out.2).mono ?_; rintro e w' ⟨rfl, rfl⟩)
    | (go_at_call 131; refine (C1.out x0 H1.out.2).mono ?_; rintro e w' ⟨rfl, rfl⟩)
    | (go_at_call 123; refine (HF.out _).mono ?_; rintro e w' ⟨rfl, rfl⟩))
  clear C1 C2 HF hsl
  refine Seq.begin_any (by kernel_rfl) (fun wd hd => ?_)
  refine Seq.take_lat (i := 0) (v := ?_) rfl (by kernel_rfl) (by kernel_rfl) (by kernel_rfl) (fun _ _ _ h => h) (by rfl) ?_ ?_
  rotate_left
  · intro w' hLat; change Below _ _ _ at hLat; go_simp <;> with_reducible rfl
  try simp only [Act.put, List.setIfInBounds_toArray, List.set_cons_zero, List.set_cons_succ, List.getElem_toArray, List.getElem_cons_zero]
  refine Seq.take_lat (i := 1) (v := .agg (u8s K)) rfl (by kernel_rfl) (by kernel_rfl) (by kernel_rfl) (fun _ _ _ h => h) (by rfl) (fun w' hLat => exec_load8 23 32 Tryz.underlying23 size32 (.tmp 4) rfl S rfl K hKl (row_on (row_on H1.out.1 hd) hLat)) ?_
  try simp only [Act.put, List.setIfInBounds_toArray, List.set_cons_zero, List.set_cons_succ, List.getElem_toArray, List.getElem_cons_zero, List.getElem_cons_succ]
  refine Seq.take_lat (i := 2) (v := ?_) rfl (by kernel_rfl) (by kernel_rfl) (by kernel_rfl) (fun _ _ _ h => h) (by rfl) ?_ ?_
  rotate_left
  · intro w' hLat; change Below _ _ _ at hLat; go_simp <;> with_reducible rfl
  try simp only [Act.put, List.setIfInBounds_toArray, List.set_cons_zero, List.set_cons_succ, List.getElem_toArray, List.getElem_cons_zero, List.getElem_cons_succ]
  refine Seq.take_lat (i := 3) (v := ?_) rfl (by kernel_rfl) (by kernel_rfl) (by kernel_rfl) (fun _ _ _ h => h) (by rfl) ?_ ?_
  rotate_left
  · intro w' hLat; change Below _ _ _ at hLat; go_simp <;> with_reducible rfl
  try simp only [Act.put, List.setIfInBounds_toArray, List.set_cons_zero, List.set_cons_succ, List.getElem_toArray, List.getElem_cons_zero, List.getElem_cons_succ]
  refine Seq.take_lat (i := 4) (v := ?_) rfl (by kernel_rfl) (by kernel_rfl) (by kernel_rfl) (fun _ _ _ h => h) (by rfl) ?_ ?_
  rotate_left
  · intro w' hLat; change Below _ _ _ at hLat; go_simp <;> with_reducible rfl
  try simp only [Act.put, List.setIfInBounds_toArray, List.set_cons_zero, List.set_cons_succ, List.getElem_toArray, List.getElem_cons_zero, List.getElem_cons_succ]
  refine Seq.take_lat (i := 5) (v := ?_) rfl (by kernel_rfl) (by kernel_rfl) (by kernel_rfl) (fun _ _ _ h => h) (by rfl) ?_ ?_
  rotate_left
  · intro w' hLat; change Below _ _ _ at hLat; go_simp <;> with_reducible rfl
  try simp only [Act.put, List.setIfInBounds_toArray, List.set_cons_zero, List.set_cons_succ, List.getElem_toArray, List.getElem_cons_zero, List.getElem_cons_succ]
  refine Seq.take_lat (i := 6) (v := ?_) rfl (by kernel_rfl) (by kernel_rfl) (by kernel_rfl) (fun _ _ _ h => h) (by rfl) ?_ ?_
  rotate_left
  · intro w' hLat; change Below _ _ _ at hLat; go_simp <;> with_reducible rfl
  try simp only [Act.put, List.setIfInBounds_toArray, List.set_cons_zero, List.set_cons_succ, List.getElem_toArray, List.getElem_cons_zero, List.getElem_cons_succ]
  refine Seq.take_lat (i := 7) (v := .slice a2 (m - 8) (cap - 8)) rfl (by kernel_rfl) (by kernel_rfl) (by kernel_rfl) (fun _ _ _ h => h) (by rfl) (fun w' hLat => exec_slice 62 (.tmp 43) (some (.const (.int .i64 8))) (some (.tmp 45)) rfl _ (hsm w')) ?_
  try simp only [Act.put, List.setIfInBounds_toArray, List.set_cons_zero, List.set_cons_succ, List.getElem_toArray, List.getElem_cons_zero, List.getElem_cons_succ]
  refine Seq.only_lat (i := 8) rfl (by kernel_rfl) (fun KK hK => ?_)
  rw [if_pos (by rfl)]
  go_simp
  refine Calls.mono (C3.out wd (below_to H1.out.2 hd)) ?_
  rintro e w3 ⟨a3, rfl, hB3, hb3⟩
  have H3 : Box (Bytes w3 a3 n D ∧ Below w.heap.size w w3) := ⟨hB3, below_to (below_to H1.out.2 hd) hb3⟩
  refine hK.out _ _ hb3 ?_
  clear hb3 hB3
  clear hK KK
  try simp only [Act.put, List.setIfInBounds_toArray, List.set_cons_zero, List.set_cons_succ, List.getElem_toArray, List.getElem_cons_zero, List.getElem_cons_succ]
  refine Seq.take_lat (i := 9) (v := ?_) rfl (by kernel_rfl) (by kernel_rfl) (by kernel_rfl) (fun _ _ _ h => h) (by rfl) ?_ ?_
  rotate_left
  · intro w' hLat; change Below _ _ _ at hLat; go_simp <;> with_reducible rfl
  try simp only [Act.put, List.setIfInBounds_toArray, List.set_cons_zero, List.set_cons_succ, List.getElem_toArray, List.getElem_cons_zero, List.getElem_cons_succ]
  refine Seq.take_lat (i := 10) (v := ?_) rfl (by kernel_rfl) (by kernel_rfl) (by kernel_rfl) (fun _ _ _ h => h) (by rfl) ?_ ?_
  rotate_left
  · intro w' hLat; change Below _ _ _ at hLat; go_simp <;> with_reducible rfl
  try simp only [Act.put, List.setIfInBounds_toArray, List.set_cons_zero, List.set_cons_succ, List.getElem_toArray, List.getElem_cons_zero, List.getElem_cons_succ]
  refine Seq.take_lat (i := 11) (v := ?_) rfl (by kernel_rfl) (by kernel_rfl) (by kernel_rfl) (fun _ _ _ h => h) (by rfl) ?_ ?_
  rotate_left
  · intro w' hLat; change Below _ _ _ at hLat; go_simp <;> with_reducible rfl
  try simp only [Act.put, List.setIfInBounds_toArray, List.set_cons_zero, List.set_cons_succ, List.getElem_toArray, List.getElem_cons_zero, List.getElem_cons_succ]
  refine wpAnyH_done (by kernel_rfl) ?_ _
  go_wp2
  go_ret3
  exact ⟨a3, rfl, H3.out.1, H3.out.2⟩

/-- What may be opened as so many bytes. -/
def Fit (L : List Int) (n : Nat) : Prop := ¬ num L 0 8 = 0 ∧ ¬ num L 0 8 = 18446744073709551615 ∧ ∀ i, 8 + n ≤ i → i < 192 → L.getD i 0 = 0
/-- The bytes that are opened. -/
def op (K : List Int) (p : Int) (L : List Int) (n : Nat) : List Int := cr K 0 (non p (num L 0 8)) ((L.take (8 + n)).drop 8) n
theorem length_op (K : List Int) (p : Int) (L : List Int) (n : Nat) : (op K p L n).length = n := length_cr _ _ _ _ _
theorem byt_op (K : List Int) (p : Int) (L : List Int) (n : Nat) : Byt (op K p L n) := byt_cr _ _ _ _ _
theorem num8 (L : List Int) (h : Byt L) : 0 ≤ num L 0 8 ∧ num L 0 8 ≤ 18446744073709551615 := by
  have := num_bd L 0 h 8
  simp at this
  omega
theorem open_form (K L : List Int) (p : Int) (n : Nat) (a : Option Addr) (cap : Nat) (w : World) (hn : n = 160 ∨ n = 176) (hB : Bytes w a 192 L) (hc : 192 ≤ cap) (h : ¬ Fit L n) :
    Calls Tryz.prog 107 #[.agg (u8s K), .int .u32 p, .slice a 192 cap, .int .i64 (n : Int)] w fun e w' => e = .returned (.tuple #[.int .u64 0, .slice none 0 0, .int .i64 11]) ∧ Below w.heap.size w w' := by
  have C1 : Box (∀ x, Below w.heap.size w x → Calls Tryz.prog 131 #[.slice a 192 cap, .int .i64 0, .int .i64 8] x fun e w' => e = .returned (.tuple #[.int .u64 (num L 0 8), .int .i64 0]) ∧ x = w') := ⟨fun x hx => get_ok a 192 cap L 0 8 x (hB.below hx) (by unfold maxLen; omega) (by omega) (by omega) (by omega)⟩
  by_cases h0 : num L 0 8 = 0
  · exact open_zero K p _ n a cap w hn h0 C1
  · by_cases h1 : num L 0 8 = 18446744073709551615
    · exact open_worn K p _ n a cap w hn h1 C1
    · obtain ⟨i, hi⟩ := Classical.not_forall.1 (fun hh => h ⟨h0, h1, hh⟩)
      have hi1 : 8 + n ≤ i := Classical.byContradiction fun hx => hi fun h => absurd h hx
      have hi2 : i < 192 := Classical.byContradiction fun hx => hi fun _ h => absurd h hx
      have hi3 : ¬ L.getD i 0 = 0 := fun hx => hi fun _ _ => hx
      obtain ⟨a1, hsl, hsb⟩ := slice_lo a 192 cap (8 + n) (by omega) hc
      refine open_tail K p _ n a cap w hn (8 + n) rfl h0 h1 a1 hsl ⟨fun x hx => contains_yes a1 _ _ (L.drop (8 + n)) x (hsb x L (hB.below hx)) (by omega) (i - (8 + n)) (by omega) ?_⟩ C1
      simp only [List.getD, List.getElem?_drop]
      rw [show 8 + n + (i - (8 + n)) = i by omega]
      exact hi3
theorem open_ok (K L : List Int) (p : Int) (n : Nat) (a : Option Addr) (cap : Nat) (w : World) (hT : Tab w) (hKl : K.length = 32) (hKb : Byt K) (hp : W32 p) (hn : n = 160 ∨ n = 176) (hB : Bytes w a 192 L) (hc : 192 ≤ cap) (h : Fit L n) :
    Calls Tryz.prog 107 #[.agg (u8s K), .int .u32 p, .slice a 192 cap, .int .i64 (n : Int)] w fun e w' => ∃ a', e = .returned (.tuple #[.int .u64 (num L 0 8), .slice a' n n, .int .i64 0]) ∧ Bytes w' a' n (op K p L n) ∧ Below w.heap.size w w' := by
  have C1 : Box (∀ x, Below w.heap.size w x → Calls Tryz.prog 131 #[.slice a 192 cap, .int .i64 0, .int .i64 8] x fun e w' => e = .returned (.tuple #[.int .u64 (num L 0 8), .int .i64 0]) ∧ x = w') := ⟨fun x hx => get_ok a 192 cap L 0 8 x (hB.below hx) (by unfold maxLen; omega) (by omega) (by omega) (by omega)⟩
  obtain ⟨a1, hsl, hsb⟩ := slice_lo a 192 cap (8 + n) (by omega) hc
  obtain ⟨a2, hsm, hmb⟩ := slice_mid a 192 cap 8 (8 + n) (by omega) (by omega) hc
  refine open_in K (op K p L n) p _ n a cap w hKl hn (8 + n) rfl h.1 h.2.1 a1 a2 hsl hsm ⟨fun x hx => contains_no a1 _ _ (L.drop (8 + n)) x (hsb x L (hB.below hx)) (by omega) fun i hi => ?_⟩ ⟨fun x hx => ?_⟩ C1
  · simp only [List.getD, List.getElem?_drop]
    exact h.2.2 (8 + n + i) (by omega) (by omega)
  · have hmx := hmb x L (hB.below hx)
    rw [show 8 + n - 8 = n by omega] at hmx ⊢
    exact scrypt_any K _ p _ a2 n (cap - 8) x (hT.below hx) hKl hKb hp (num8 L hB.2.1) hmx (by omega)
end Go.Proofs.YtnicgmimhgbcfaaGreatDoor.Seal
namespace Go.Proofs.YtnicgmimhgbcfaaGreatDoor.Seal.Plain
set_option maxRecDepth 100000
end Go.Proofs.YtnicgmimhgbcfaaGreatDoor.Seal.Plain
namespace Go.Proofs.YtnicgmimhgbcfaaGreatDoor.Seal
set_option maxRecDepth 100000
set_option linter.unusedVariables false
open Go.RowKit Go.Proofs.YtnicgmimhgbcfaaGreatDoor.Plain Go.Proofs.YtnicgmimhgbcfaaGreatDoor.Seal.Plain

theorem sl_at (K : List Int) (p v : Int) (B : List Int) (n i : Nat) (hB : B.length = n) (hn : n ≤ 184) (hi : i < 192) : (sl K p v B).getD i 0 = if i < 8 then byteAt v i else if i < 8 + n then xr (B.getD (i - 8) 0) (stm K 0 (non p v) (i - 8)) else 0 := by
  have hl : (bytesOf v 8 ++ cr K 0 (non p v) B n).length = 8 + n := by rw [List.length_append, length_bytesOf, length_cr]
  unfold sl padTo
  rw [hB, List.take_of_length_le (by omega), getD_app, hl]
  by_cases h8 : i < 8
  · rw [if_pos (by omega), if_pos h8, getD_app, if_pos (by rw [length_bytesOf]; exact h8), bytesOf_get v 8 i h8]
  · rw [if_neg h8]
    by_cases hn' : i < 8 + n
    · rw [if_pos hn', if_pos hn', getD_app, if_neg (by rw [length_bytesOf]; exact h8), length_bytesOf, cr_at _ _ _ _ _ _ (by omega)]
    · rw [if_neg hn', if_neg hn']
      simp only [List.getD, List.getElem?_replicate]
      split <;> simp
theorem sl_num (K : List Int) (p v : Int) (B : List Int) (n : Nat) (hB : B.length = n) (hn : n ≤ 184) (hv : 0 ≤ v ∧ v ≤ 18446744073709551615) : num (sl K p v B) 0 8 = v := by
  rw [num_congr (sl K p v B) (bytesOf v 8) 0 0 8 (fun t ht => by
    rw [sl_at K p v B n (0 + t) hB hn (by omega), if_pos (by omega), bytesOf_get v 8 (0 + t) (by omega)])]
  have h := num_bytesOf v 8 8 (by omega)
  have h2 : v % 2 ^ (8 * 8) = v := Int.emod_eq_of_lt hv.1 (by omega)
  rw [h2] at h
  exact h
theorem sl_fit (K : List Int) (p v : Int) (B : List Int) (n : Nat) (hB : B.length = n) (hn : n ≤ 184) (hv : 0 ≤ v ∧ v ≤ 18446744073709551615) (h0 : ¬ v = 0) (h1 : ¬ v = 18446744073709551615) : Fit (sl K p v B) n := by
  unfold Fit
  rw [sl_num K p v B n hB hn hv]
  exact ⟨h0, h1, fun i h1 h2 => by rw [sl_at K p v B n i hB hn h2, if_neg (by omega), if_neg (by omega)]⟩
theorem mid_at (L : List Int) (n i : Nat) (h : i < n) : ((L.take (8 + n)).drop 8).getD i 0 = L.getD (8 + i) 0 := by
  simp only [List.getD, List.getElem?_drop, List.getElem?_take]
  rw [if_pos (by omega)]
/-- What was sealed is opened. -/
theorem op_sl (K : List Int) (p v : Int) (B : List Int) (n : Nat) (hB : B.length = n) (hb : Byt B) (hn : n ≤ 184) (hv : 0 ≤ v ∧ v ≤ 18446744073709551615) : op K p (sl K p v B) n = B := by
  unfold op
  rw [sl_num K p v B n hB hn hv]
  apply eq_getD _ _ n (length_cr _ _ _ _ _) hB
  intro i hi
  rw [cr_at _ _ _ _ _ _ hi, mid_at _ _ _ hi, sl_at K p v B n (8 + i) hB hn (by omega), if_neg (by omega), if_pos (by omega), show 8 + i - 8 = i by omega, xr_xr _ _ (hb i) (stm_bd _ _ _ _)]
theorem byteAt_num (L : List Int) (p : Nat) (hL : Byt L) (K j : Nat) (hj : j < K) : byteAt (num L p K) j = L.getD (p + j) 0 := by
  induction K with
  | zero => omega
  | succ K ih =>
    have hb := num_bd L p hL K
    have hp : (0 : Int) < 2 ^ (8 * K) := Int.pow_pos (by omega)
    have hz := hL (p + K)
    rw [num]
    by_cases e : j = K
    · subst e
      unfold byteAt
      rw [Int.add_mul_ediv_right _ _ (by omega), Int.ediv_eq_zero_of_lt hb.1 hb.2]
      omega
    · have hlt : j < K := by omega
      rw [← ih hlt]
      unfold byteAt
      have hK : (2 : Int) ^ (8 * K) = 2 ^ (8 * j) * (256 * 2 ^ (8 * (K - j - 1))) := by
        rw [← pow8, ← Int.pow_add]
        congr 1; omega
      rw [hK, show L.getD (p + K) 0 * (2 ^ (8 * j) * (256 * 2 ^ (8 * (K - j - 1)))) = 2 ^ (8 * j) * (256 * (L.getD (p + K) 0 * 2 ^ (8 * (K - j - 1)))) by
        rw [Int.mul_left_comm, Int.mul_left_comm (L.getD (p + K) 0) 256], Int.add_mul_ediv_left _ _ (Int.ne_of_gt (Int.pow_pos (by omega))), Int.add_mul_emod_self_left]
/-- What is opened is sealed as it was. -/
theorem sl_op (K : List Int) (p : Int) (L : List Int) (n : Nat) (hL : L.length = 192) (hb : Byt L) (hn : n ≤ 184) (h : Fit L n) : sl K p (num L 0 8) (op K p L n) = L := by
  apply eq_getD _ _ 192 (length_sl _ _ _ _) hL
  intro i hi
  rw [sl_at K p _ _ n i (length_op _ _ _ _) hn hi]
  by_cases h8 : i < 8
  · rw [if_pos h8, byteAt_num L 0 hb 8 i h8, Nat.zero_add]
  · rw [if_neg h8]
    by_cases hi8 : i < 8 + n
    · rw [if_pos hi8]
      unfold op
      rw [cr_at _ _ _ _ _ _ (by omega), mid_at _ _ _ (by omega), xr_xr _ _ (hb _) (stm_bd _ _ _ _), show 8 + (i - 8) = i by omega]
    · rw [if_neg hi8]
      exact (h.2.2 i (by omega) hi).symm
end Go.Proofs.YtnicgmimhgbcfaaGreatDoor.Seal
