/-
  Strings of bytes, rows of bytes of a call's own, slices of them; what Pad of package word answers; nothing of sealing is said here.
-/
import Derived.Test.YtgfpbbikdmnnhaaDoorV1
import Derived.Test.YtgfpbbikdmnnhaaDoorSeq
import Derived.Deep.OwnRows
import Derived.Laws.IdiomStrings
import Derived.Laws.Strings2
import Derived.Maps.AppendAt
import Derived.OpenShut
import Derived.Deep.Cut
namespace Go.Proofs.YtgfpbbikdmnnhaaDoor
set_option linter.unusedVariables false
open Go.RowKit Plain

theorem exec_load8 {o : Oper} {a : Act} {w' : World} (t : TypeId) (n : Nat) (hu : Tryd.prog.underlying t = some (.array n 5)) (ht : (Tryd.prog.info? t).map (·.size) = some n) (x : Operand) (ho : o.op = .load t x) (g : Nat) (hx : a.eval x = .pointer (some ⟨g, 0, none⟩)) (X : List Int) (hX : X.length = n) (hg : w'.heap[g]? = some (.cells (u8s X) t (0, 0))) :
    (execOp a.eval o).run Tryd.prog w' = .ok (.value (.agg (u8s X))) w' := by
  have hs : (u8s X).size = n := by rw [size_u8s, hX]
  unfold execOp
  simp only [ho, hx, Instr.loadAt, Instr.sureAddr, Sem.run_bind, Sem.run_pure, Result.andThen_ok, run_loadVar_row w' g t t (u8s X) (0, 0) _ hg hu rfl (by rw [hs]; exact ht)]
theorem made8 (k : Nat) : madeCells #[Value.int .u8 0] k = u8s (List.replicate k 0) := by
  rw [← Array.toList_inj, toList_madeCells_one]
  simp [u8s]

theorem str_app (A B : List Int) : strOfNums A ++ strOfNums B = strOfNums (A ++ B) := by
  apply ByteArray.ext
  simp [strOfNums]
theorem str_size (L : List Int) : (strOfNums L).size = L.length := by
  show (strOfNums L).data.size = L.length
  simp [strOfNums]
theorem exec_slice {o : Oper} {a : Act} {w' : World} (t : TypeId) (x : Operand) (lo hi : Option Operand) (ho : o.op = .slice t x lo hi none) (r : Value) (h : (Instr.sliceAt t (a.eval x) (lo.map a.eval) (hi.map a.eval) none).run Tryd.prog w' = .ok r w') :
    (execOp a.eval o).run Tryd.prog w' = .ok (.value r) w' := by
  unfold execOp
  simp only [ho, Option.map_none, Sem.run_bind, Sem.run_pure, h, Result.andThen_ok]
theorem slice_hi (a : Option Addr) (len cap n : Nat) (hn : n ≤ len) (hc : len ≤ cap) : ∃ a', (∀ x, (Instr.sliceAt 26 (.slice a len cap) none (some (.int .i64 (n : Int))) none).run Tryd.prog x = .ok (.slice a' n cap) x) ∧ ∀ x B, Bytes x a len B → Bytes x a' n (B.take n) := by
  refine ⟨if cap = 0 then a else a.map (·.add (0 * 1)), fun x => ?_, fun x B hB => ?_⟩
  · have hu : Tryd.prog.underlying 26 = some (.slice (Tryd.prog.elem 26)) := by kernel_rfl
    rw [run_sliceAt_slice (P := Tryd.prog) x 26 _ _ _ _ hu, run_slice_h (P := Tryd.prog) x 26 a len cap hu .i64 (n : Int) (by omega) (by omega)]
    have hs : (sizeOf (Tryd.prog.elem 26)).run Tryd.prog x = .ok 1 x := by kernel_rfl
    rw [hs, Result.andThen_ok, sliced]
    simp
  · refine ⟨by rw [List.length_take, hB.1]; omega, byt_take B n hB.2.1, fun hp => ?_⟩
    obtain ⟨b, off, rfl, hlt, hcl⟩ := hB.2.2 (by omega)
    rw [if_neg (by omega)]
    refine ⟨b, off, by simp [Addr.add_mid], hlt, fun i hi => ?_⟩
    rw [hcl i (by omega)]
    simp [List.getD, hi]
theorem slice_lo (a : Option Addr) (len cap n : Nat) (hn : n ≤ len) (hc : len ≤ cap) : ∃ a', (∀ x, (Instr.sliceAt 26 (.slice a len cap) (some (.int .i64 (n : Int))) none none).run Tryd.prog x = .ok (.slice a' (len - n) (cap - n)) x) ∧ ∀ x B, Bytes x a len B → Bytes x a' (len - n) (B.drop n) := by
  refine ⟨if cap = n then a else a.map (·.add (n * 1)), fun x => ?_, fun x B hB => ?_⟩
  · have hu : Tryd.prog.underlying 26 = some (.slice (Tryd.prog.elem 26)) := by kernel_rfl
    rw [run_sliceAt_slice (P := Tryd.prog) x 26 _ _ _ _ hu, run_slice_l (P := Tryd.prog) x 26 a len cap hu .i64 (n : Int) (by omega) (by omega)]
    have hs : (sizeOf (Tryd.prog.elem 26)).run Tryd.prog x = .ok 1 x := by kernel_rfl
    rw [hs, Result.andThen_ok, sliced]
    simp
  · refine ⟨by rw [List.length_drop, hB.1], byt_drop B n hB.2.1, fun hp => ?_⟩
    obtain ⟨b, off, rfl, hlt, hcl⟩ := hB.2.2 (by omega)
    rw [if_neg (by omega)]
    refine ⟨b, off + n, by simp [Addr.add_mid], hlt, fun i hi => ?_⟩
    rw [Nat.add_assoc, hcl (n + i) (by omega)]
    simp [List.getD, List.getElem?_drop]

/-- A key in block S, a nonce in the next one, all else as it was. -/
def Tw (w x : World) (S : Nat) (K N : List Int) : Prop := x.heap[S]? = some (.cells (u8s K) 23 (0, 0)) ∧ x.heap[S + 1]? = some (.cells (u8s N) 50 (0, 0)) ∧ Below w.heap.size w x
theorem Tw.on {w x y : World} {S : Nat} {K N : List Int} (h : Tw w x S K N) (hb : Below x.heap.size x y) : Tw w y S K N := ⟨row_on h.1 hb, row_on h.2.1 hb, below_to h.2.2 hb⟩

theorem exec_conv {o : Oper} {a : Act} {w' : World} {ad : Option Addr} {len cap : Nat} {L : List Int} (x : Operand) (ho : o.op = .convert 26 9 x) (hx : a.eval x = .slice ad len cap) (hB : Bytes w' ad len L) :
    (execOp a.eval o).run Tryd.prog w' = .ok (.value (.string (strOfNums L))) w' := by
  unfold execOp
  simp only [ho, hx, Sem.run_bind, Sem.run_pure, conv_bytes hB, Result.andThen_ok]
/-- Strings of bytes are the same just if the bytes are. -/
theorem str_eq (A B : List Int) (hA : Byt A) (hB : Byt B) : strOfNums A = strOfNums B ↔ A = B := by
  constructor
  · intro h
    have hl : A.length = B.length := by
      have := congrArg (fun s : ByteArray => s.data.size) h
      simpa [strOfNums] using this
    refine eq_getD A B A.length rfl hl.symm (fun i hi => ?_)
    have h1 := congrArg (fun s : ByteArray => s.data[i]?) h
    have hi' : i < B.length := by omega
    simp [strOfNums, hi, hi'] at h1
    have hb1 := hA i
    have hb2 := hB i
    simp [hi] at hb1
    simp [hi'] at hb2
    simp [hi, hi']
    have h2 := congrArg UInt8.toNat h1
    simp at h2
    omega
  · rintro rfl; rfl
theorem str_beq (A B : List Int) (hA : Byt A) (hB : Byt B) : ((strOfNums A).toList == (strOfNums B).toList) = decide (A = B) := by
  rw [ByteArray.toList_eq, ByteArray.toList_eq]
  by_cases h : A = B
  · subst h; simp
  · have : ¬ (strOfNums A).data = (strOfNums B).data := fun e => h ((str_eq A B hA hB).1 (ByteArray.ext e))
    simp [h, this]
theorem own_cap {w : World} {base n cap : Nat} {a : Option Addr} {xs : List Value} (h : w.ownsRow base 5 1 (.slice a n cap) n xs) : n ≤ cap ∧ cap ≤ maxLen := by
  rcases h.2 with ⟨h1, h2⟩ | ⟨g, cap', cur, h1, _, _, h2, h3, _⟩
  · simp only [Value.slice.injEq] at h1
    obtain ⟨_, rfl, rfl⟩ := h1
    exact ⟨Nat.le_refl _, Nat.zero_le _⟩
  · simp only [Value.slice.injEq, true_and] at h1
    obtain ⟨_, rfl⟩ := h1
    exact ⟨h2, h3⟩
/-- Nothing appended to a row of the call's own, out of a slice that is nil. -/
theorem run_append_none {w : World} {base n c : Nat} {v : Value} {xs : List Value} {ty : TypeId} (h : w.ownsRow base 5 1 v n xs) : (Builtin.append_ #[26, 26] ty #[v, .slice none 0 c]).run Tryd.prog w = .ok v w := by
  obtain ⟨i0, hi, hz0, hz1, hz2⟩ := info_parts Tryd.info5
  rcases h.2 with ⟨rfl, rfl⟩ | ⟨g, cap', cur, rfl, _, _, hle, _⟩
  · simp [Builtin.append_, run_underlying Tryd.underlying26, sizeOf, typeInfo, hi, Builtin.lenOf, Builtin.firstCells]
  · simp [Builtin.append_, run_underlying Tryd.underlying26, sizeOf, typeInfo, hi, Builtin.lenOf, Builtin.firstCells, hle, storeCells]
/-- Bytes appended to a row of the call's own. -/
theorem wpList_app {ops : Array Oper} {rest : List Oper} {o : Oper} {act : Act} {w : World} {Q : Exit → Act → World → Prop} (hgd : o.guard = none) (s x : Operand)
    (ho : o.op = .call { callee := .builtin .append, args := #[s, x], argTypes := #[26, 26] }) (base n m c : Nat) (v : Value) (A L : List Int) (a : Option Addr) (w0 : World)
    (hs : act.eval s = v) (hx : act.eval x = .slice a m c) (hown : w.ownsRow base 5 1 v n (A.map (Value.int .u8))) (hb : Bytes w a m L) (hl : n + m ≤ 140737488355328) (hbel : Below base w0 w) (hbase : base ≤ w.heap.size)
    (h : ∀ v' w', Box (w'.ownsRow base 5 1 v' (n + m) ((A ++ L).map (Value.int .u8)) ∧ Below base w0 w' ∧ base ≤ w'.heap.size) → wpList Tryd.prog ops Q rest (act.put o.dst v') w') : wpList Tryd.prog ops Q (o :: rest) act w := by
  obtain ⟨i0, hi, hz0, hz1, hz2⟩ := info_parts Tryd.info5
  cases a with
  | none =>
    have hm : m = 0 := by
      by_cases hm : m = 0
      · exact hm
      · obtain ⟨_, _, he, _⟩ := hb.2.2 (by omega)
        cases he
    subst hm
    obtain rfl : L = [] := List.eq_nil_of_length_eq_zero hb.1
    refine wpList_plain hgd fun _ hK => ?_
    unfold Oper.wp execOp
    simp only [ho, resolve, invoke, builtin, Sem.run_bind, Sem.run_pure, Result.andThen_ok, List.map_toArray, List.map_cons, List.map_nil, hs, hx, run_append_none hown]
    exact hK _ _ (h v w ⟨by simpa using hown, hbel, hbase⟩)
  | some ad =>
    refine wpList_append_own w hgd s x 26 ho base 5 i0 (.int .u8 0) 1 1 Tryd.underlying26 hi hz0 hz1 hz2 rfl (by decide) v n _ hs hown ad m c (L.map (Value.int .u8)) hx (by simp [hb.1]) (hb.news) (ints_oneCell _ _) (by unfold maxLen; omega) (by omega) hbase ?_
    intro v' w' h1 h2 _
    have := h2.size
    exact h v' w' ⟨by rw [List.map_append]; exact h1, hbel.grown h2 hbase (own_block_le hown), by omega⟩
/-- The block of a row of a call's own that has bytes in it. -/
theorem own_block {w : World} {base n : Nat} {v : Value} {A : List Int} (h : w.ownsRow base 5 1 v n (A.map (Value.int .u8))) (hp : 0 < n) : ∃ g cap cur, v = .slice (some ⟨g, 0, none⟩) n cap ∧ base ≤ g ∧ w.heap[g]? = some (.cells cur 5 (0, 0)) ∧ n ≤ cur.size ∧ n ≤ cap ∧ cap ≤ maxLen ∧ ∀ i, i < n → cur[i]? = some (.int .u8 (A.getD i 0)) := by
  have hn : A.length = n := by simpa using h.1
  rcases h.2 with ⟨_, h3⟩ | ⟨g, cap', cur, h3, hb, hh, hle, hm, hs, ht⟩
  · omega
  · subst h3
    refine ⟨g, cap', cur, rfl, hb, hh, by omega, hle, hm, fun i hi => ?_⟩
    have e : cur.toList[i]? = (cur.toList.take n)[i]? := by rw [List.getElem?_take, if_pos hi]
    rw [← Array.getElem?_toList, e]
    have ht' : cur.toList.take n = A.map (Value.int .u8) := by simpa using ht
    rw [ht']
    have hi' : i < A.length := by omega
    simp [hi']
theorem byt_set (A : List Int) (k : Nat) (z : Int) (h : Byt A) (hz : 0 ≤ z ∧ z ≤ 255) : Byt (A.set k z) := by
  intro i
  simp only [List.getD]
  rw [List.getElem?_set]
  split
  · split
    · exact hz
    · simp
  · exact h i
theorem own_set {w : World} {g n k : Nat} {cur : Array Value} {A : List Int} {z : Int} (hg : w.heap[g]? = some (.cells cur 5 (0, 0))) (hs : n ≤ cur.size) (hc : ∀ i, i < n → cur[i]? = some (.int .u8 (A.getD i 0))) (hn : A.length = n) (hA : Byt A) (hz : 0 ≤ z ∧ z ≤ 255) (hk : k < n) :
    Bytes (w.setCell ⟨g, k, none⟩ (.int .u8 z)) (some ⟨g, 0, none⟩) n (A.set k z) := by
  have hh := heap_setCell_same w g k cur 5 (.int .u8 z) hg
  refine ⟨by simp [hn], byt_set A k z hA hz, fun _ => ⟨g, 0, rfl, by simpa using (Array.getElem?_eq_some_iff.1 hg).1, fun i hi => ?_⟩⟩
  rw [cell_of_row _ _ _ _ _ _ hh, Nat.zero_add]
  have hi' : i < A.length := by omega
  by_cases e : k = i
  · subst e
    simp [hi', show k < cur.size by omega]
  · have := hc i hi
    simp only [List.getD, List.getElem?_set, if_neg e]
    rw [Array.getElem?_setIfInBounds, if_neg e]
    exact this
set_option maxHeartbeats 400000 in
theorem pad_ok (a : Option Addr) (len cap : Nat) (L : List Int) (n : Nat) (w : World) (hb : Bytes w a len L) (h1 : 1 ≤ n) (h2 : n ≤ 2147483648) :
    Calls Tryd.prog 16 #[.slice a len cap, .int .i64 n] w fun e w' => ∃ g, e = .returned (.slice (some ⟨g, 0, none⟩) n n) ∧ Out w w' (some ⟨g, 0, none⟩) n n (padTo L n) := by
  obtain ⟨i0, hi, hz0, hz1, hz2⟩ := info_parts Tryd.info5
  have hlm : n ≤ maxLen := by unfold maxLen; omega
  have hLl := hb.1
  have hn1 : ¬ (n : Int) < 1 := by omega
  have hn2 : ¬ (2147483648 : Int) < (n : Int) := by omega
  go_enter Tryd.func16, Tryd.ntmps16
  go_wp2_with (first | (at_make; refine wpList_make_full _ rfl (.tmp 13) (.tmp 13) 26 rfl _ 5 i0 (.int .u8 0) 1 Tryd.underlying26 hi hz0 hz1 _ _ _ _ n rfl rfl rfl rfl (by rw [hz2]; omega) hlm (Nat.le_refl _) ?_; intro w1 hown hgrow; have HR := made_row hown; clear hown; have hbl := (Below.refl w.heap.size w).grown hgrow (Nat.le_refl _) (by simp); have hb1 := hb.below hbl) | (refine wpList_copy_splice rfl (.tmp 15) (.tmp 16) 26 26 rfl 5 Tryd.underlying26 size5 _ _ _ _ _ _ rfl rfl w.heap.size 0 _ 5 HR ((L.take n).map (Value.int .u8)) (length_cut L n len hLl) (fun h => ⟨rfl, hb1.src_take n (pos_cut L n len hLl h)⟩) (fit_cut L n) (ints_oneCell _ _) w.heap.size w hbl (Nat.le_refl _) ?_; intro w2 HG2 hB2))
  have HG := HG2.out
  rw [splice_pad L n] at HG
  clear HR hgrow HG2 hb1 hb
  go_ret
  exact ⟨_, rfl, Out.of_row (length_padTo L n) hlm (Nat.le_refl _) HG hB2⟩


theorem slice_mid (a : Option Addr) (len cap lo hi : Nat) (h1 : lo ≤ hi) (hn : hi ≤ len) (hc : len ≤ cap) : ∃ a', (∀ x, (Instr.sliceAt 26 (.slice a len cap) (some (.int .i64 (lo : Int))) (some (.int .i64 (hi : Int))) none).run Tryd.prog x = .ok (.slice a' (hi - lo) (cap - lo)) x) ∧ ∀ x B, Bytes x a len B → Bytes x a' (hi - lo) ((B.take hi).drop lo) := by
  refine ⟨if cap = lo then a else a.map (·.add (lo * 1)), fun x => ?_, fun x B hB => ?_⟩
  · have hu : Tryd.prog.underlying 26 = some (.slice (Tryd.prog.elem 26)) := by kernel_rfl
    rw [run_sliceAt_slice (P := Tryd.prog) x 26 _ _ _ _ hu, run_slice_lh (P := Tryd.prog) x 26 a len cap hu .i64 .i64 (lo : Int) (hi : Int) (by omega) (by omega) (by omega)]
    have hs : (sizeOf (Tryd.prog.elem 26)).run Tryd.prog x = .ok 1 x := by kernel_rfl
    rw [hs, Result.andThen_ok, sliced]
    simp
  · refine ⟨by rw [List.length_drop, List.length_take, hB.1]; omega, byt_drop _ lo (byt_take B hi hB.2.1), fun hp => ?_⟩
    obtain ⟨b, off, rfl, hlt, hcl⟩ := hB.2.2 (by omega)
    rw [if_neg (by omega)]
    refine ⟨b, off + lo, by simp [Addr.add_mid], hlt, fun i hi' => ?_⟩
    rw [Nat.add_assoc, hcl (lo + i) (by omega)]
    simp [List.getD, List.getElem?_drop, show lo + i < hi by omega]
theorem u8_back (z : Int) (h : 0 ≤ z ∧ z ≤ 255) : ((UInt8.ofNat z.toNat).toNat : Int) = z := by simp; omega
theorem str_data (L : List Int) : (strOfNums L).data = (L.map fun n => UInt8.ofNat n.toNat).toArray := rfl
/-- The bytes of a string, laid into new memory. -/
theorem conv_str (w : World) (L : List Int) (hL : Byt L) : ∃ c w', (convert 9 26 (.string (strOfNums L))).run Tryd.prog w = .ok (.slice (some ⟨w.heap.size, 0, none⟩) L.length c) w' ∧ Bytes w' (some ⟨w.heap.size, 0, none⟩) L.length L ∧ Below w.heap.size w w' := by
  have h := run_bytes_of_string (P := Tryd.prog) w 9 26 5 (strOfNums L) Tryd.underlying9 Tryd.underlying26 Tryd.underlying5
  rw [str_size] at h
  refine ⟨_, _, h, ⟨rfl, hL, fun hp => ⟨w.heap.size, 0, rfl, by simp, fun i hi => ?_⟩⟩, ((Below.refl _ _).drew).alloc (Nat.le_refl _) _⟩
  have ha : (w.drew.alloc (.cells (bytesRow (strOfNums L) (grownCap w L.length 0 5)) 5 ((bytesRow (strOfNums L) (grownCap w L.length 0 5)).size, (bytesRow (strOfNums L) (grownCap w L.length 0 5)).size + 1))).heap[w.heap.size]? = some (.cells (bytesRow (strOfNums L) (grownCap w L.length 0 5)) 5 ((bytesRow (strOfNums L) (grownCap w L.length 0 5)).size, (bytesRow (strOfNums L) (grownCap w L.length 0 5)).size + 1)) := al_at rfl
  rw [cell_of_row _ _ _ _ _ _ ha, Nat.zero_add]
  have hb := hL i
  have hg : L.getD i 0 = L[i] := by simp [List.getD, hi]
  rw [hg] at hb ⊢
  unfold bytesRow
  rw [Array.getElem?_append_left (by simp [str_data]; exact hi)]
  simp [str_data, hi]
  omega
/-- A byte of a string. -/
theorem index_str (L : List Int) (hL : Byt L) (i : Nat) (hi : i < L.length) (w : World) : (Instr.index 9 (.string (strOfNums L)) (.int .i64 (i : Int))).run Tryd.prog w = .ok (.int .u8 (L.getD i 0)) w := by
  rw [run_index_string w 9 _ .i64 (i : Int) Tryd.underlying9, dif_pos ⟨by omega, by rw [str_size]; omega⟩]
  have hb := hL i
  have hg : L.getD i 0 = L[i] := by simp [List.getD, hi]
  rw [hg] at hb ⊢
  have e : ((strOfNums L)[(i : Int).toNat]'(by rw [str_size]; omega)) = UInt8.ofNat (L[i]).toNat := by
    simp only [Int.toNat_natCast]
    show (strOfNums L).data[i]'_ = _
    simp [str_data]
  rw [e, u8_back _ hb]
/-- A part of a string. -/
theorem slice_str (L : List Int) (lo hi : Nat) (h1 : lo ≤ hi) (h2 : hi ≤ L.length) (w : World) : (Instr.sliceAt 9 (.string (strOfNums L)) (some (.int .i64 (lo : Int))) (some (.int .i64 (hi : Int))) none).run Tryd.prog w = .ok (.string (strOfNums ((L.take hi).drop lo))) w := by
  rw [run_sliceAt_string w 9 _ _ _ _ Tryd.underlying9, run_slice_string w 9 _ .i64 .i64 _ _ Tryd.underlying9 (by omega) (by omega) (by rw [str_size]; omega)]
  have e : (strOfNums L).extract (lo : Int).toNat (hi : Int).toNat = strOfNums ((L.take hi).drop lo) := by
    simp only [Int.toNat_natCast]
    have := ByteArray.extract_mk (L.map fun n => UInt8.ofNat n.toNat) lo hi
    unfold strOfNums
    rw [this]
    simp [List.drop_take]
  rw [e]
end Go.Proofs.YtgfpbbikdmnnhaaDoor
