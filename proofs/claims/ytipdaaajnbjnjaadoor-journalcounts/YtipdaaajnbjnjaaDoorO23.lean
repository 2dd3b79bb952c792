/-
  Strings of bytes, rows of bytes of a call's own, slices of them; what Pad of package word answers; nothing of sealing is said here.
-/
import Derived.Deep.OwnRows
import Derived.Laws.IdiomStrings
import Derived.Laws.Strings2
import Derived.Maps.AppendAt
import Derived.OpenShut
import Derived.Deep.Cut
import Derived.Test.YtipdaaajnbjnjaaDoorO22
import Derived.Test.YtipdaaajnbjnjaaDoorO02
namespace Go.Proofs.YtipdaaajnbjnjaaDoor.Seal.Plain
set_option maxRecDepth 100000
end Go.Proofs.YtipdaaajnbjnjaaDoor.Seal.Plain
namespace Go.Proofs.YtipdaaajnbjnjaaDoor.Seal
set_option maxRecDepth 100000
set_option linter.unusedVariables false
open Go.RowKit Go.Proofs.YtipdaaajnbjnjaaDoor.Plain Go.Proofs.YtipdaaajnbjnjaaDoor.Seal.Plain
theorem exec_load8 {o : Oper} {a : Act} {w' : World} (t : TypeId) (n : Nat) (hu : Tryd.prog.underlying t = some (.array n 5)) (ht : (Tryd.prog.info? t).map (·.size) = some n) (x : Operand) (ho : o.op = .load t x) (g : Nat) (hx : a.eval x = .pointer (some ⟨g, 0, none⟩)) (X : List Int) (hX : X.length = n) (hg : w'.heap[g]? = some (.cells (u8s X) t (0, 0))) :
    (execOp a.eval o).run Tryd.prog w' = .ok (.value (.agg (u8s X))) w' := by
  have hs : (u8s X).size = n := by rw [size_u8s, hX]
  unfold execOp
  simp only [ho, hx, Instr.loadAt, Instr.sureAddr, Sem.run_bind, Sem.run_pure, Result.andThen_ok, run_loadVar_row w' g t t (u8s X) (0, 0) _ hg hu rfl (by rw [hs]; exact ht)]
/-- A key in block S, a nonce in the next one, all else as it was. -/
def Tw (w x : World) (S : Nat) (K N : List Int) : Prop := x.heap[S]? = some (.cells (u8s K) 23 (0, 0)) ∧ x.heap[S + 1]? = some (.cells (u8s N) 158 (0, 0)) ∧ Below w.heap.size w x
theorem Tw.on {w x y : World} {S : Nat} {K N : List Int} (h : Tw w x S K N) (hb : Below x.heap.size x y) : Tw w y S K N := ⟨row_on h.1 hb, row_on h.2.1 hb, below_to h.2.2 hb⟩
theorem exec_conv {o : Oper} {a : Act} {w' : World} {ad : Option Addr} {len cap : Nat} {L : List Int} (x : Operand) (ho : o.op = .convert 64 9 x) (hx : a.eval x = .slice ad len cap) (hB : Bytes w' ad len L) :
    (execOp a.eval o).run Tryd.prog w' = .ok (.value (.string (strOfNums L))) w' := by
  unfold execOp
  simp only [ho, hx, Sem.run_bind, Sem.run_pure, conv_bytes hB, Result.andThen_ok]
/-- Strings of bytes are the same just if the bytes are. -/
theorem str_eq (A B : List Int) (hA : Byt A) (hB : Byt B) : strOfNums A = strOfNums B ↔ A = B := by
  constructor
  · intro h
    have hl : A.length = B.length := by
      have := congrArg (fun s : ByteArray => s.data.size) h
      simpa [strOfNums] using this
    refine eq_getD A B A.length rfl hl.symm (fun i hi => ?_)
    have h1 := congrArg (fun s : ByteArray => s.data[i]?) h
    have hi' : i < B.length := by omega
    simp [strOfNums, hi, hi'] at h1
    have hb1 := hA i
    have hb2 := hB i
    simp [hi] at hb1
    simp [hi'] at hb2
    simp [hi, hi']
    have h2 := congrArg UInt8.toNat h1
    simp at h2
    omega
  · rintro rfl; rfl
theorem str_beq (A B : List Int) (hA : Byt A) (hB : Byt B) : ((strOfNums A).toList == (strOfNums B).toList) = decide (A = B) := by
  rw [ByteArray.toList_eq, ByteArray.toList_eq]
  by_cases h : A = B
  · subst h; simp
  · have : ¬ (strOfNums A).data = (strOfNums B).data := fun e => h ((str_eq A B hA hB).1 (ByteArray.ext e))
    simp [h, this]
theorem own_cap {w : World} {base n cap : Nat} {a : Option Addr} {xs : List Value} (h : w.ownsRow base 5 1 (.slice a n cap) n xs) : n ≤ cap ∧ cap ≤ maxLen := by
  rcases h.2 with ⟨h1, h2⟩ | ⟨g, cap', cur, h1, _, _, h2, h3, _⟩
  · simp only [Value.slice.injEq] at h1
    obtain ⟨_, rfl, rfl⟩ := h1
    exact ⟨Nat.le_refl _, Nat.zero_le _⟩
  · simp only [Value.slice.injEq, true_and] at h1
    obtain ⟨_, rfl⟩ := h1
    exact ⟨h2, h3⟩
/-- Nothing appended to a row of the call's own, out of a slice that is nil. -/
theorem run_append_none {w : World} {base n c : Nat} {v : Value} {xs : List Value} {ty : TypeId} (h : w.ownsRow base 5 1 v n xs) : (Builtin.append_ #[64, 64] ty #[v, .slice none 0 c]).run Tryd.prog w = .ok v w := by
  obtain ⟨i0, hi, hz0, hz1, hz2⟩ := info_parts Tryd.info5
  rcases h.2 with ⟨rfl, rfl⟩ | ⟨g, cap', cur, rfl, _, _, hle, _⟩
  · simp [Builtin.append_, run_underlying Tryd.underlying64, sizeOf, typeInfo, hi, Builtin.lenOf, Builtin.firstCells]
  · simp [Builtin.append_, run_underlying Tryd.underlying64, sizeOf, typeInfo, hi, Builtin.lenOf, Builtin.firstCells, hle, storeCells]
/-- Bytes appended to a row of the call's own. -/
theorem wpList_app {ops : Array Oper} {rest : List Oper} {o : Oper} {act : Act} {w : World} {Q : Exit → Act → World → Prop} (hgd : o.guard = none) (s x : Operand)
    (ho : o.op = .call { callee := .builtin .append, args := #[s, x], argTypes := #[64, 64] }) (base n m c : Nat) (v : Value) (A L : List Int) (a : Option Addr) (w0 : World)
    (hs : act.eval s = v) (hx : act.eval x = .slice a m c) (hown : w.ownsRow base 5 1 v n (A.map (Value.int .u8))) (hb : Bytes w a m L) (hl : n + m ≤ 140737488355328) (hbel : Below base w0 w) (hbase : base ≤ w.heap.size)
    (h : ∀ v' w', Box (w'.ownsRow base 5 1 v' (n + m) ((A ++ L).map (Value.int .u8)) ∧ Below base w0 w' ∧ base ≤ w'.heap.size) → wpList Tryd.prog ops Q rest (act.put o.dst v') w') : wpList Tryd.prog ops Q (o :: rest) act w := by
  obtain ⟨i0, hi, hz0, hz1, hz2⟩ := info_parts Tryd.info5
  cases a with
  | none =>
    have hm : m = 0 := by
      by_cases hm : m = 0
      · exact hm
      · obtain ⟨_, _, he, _⟩ := hb.2.2 (by omega)
        cases he
    subst hm
    obtain rfl : L = [] := List.eq_nil_of_length_eq_zero hb.1
    refine wpList_plain hgd fun _ hK => ?_
    unfold Oper.wp execOp
    simp only [ho, resolve, invoke, builtin, Sem.run_bind, Sem.run_pure, Result.andThen_ok, List.map_toArray, List.map_cons, List.map_nil, hs, hx, run_append_none hown]
    exact hK _ _ (h v w ⟨by simpa using hown, hbel, hbase⟩)
  | some ad =>
    refine wpList_append_own w hgd s x 64 ho base 5 i0 (.int .u8 0) 1 1 Tryd.underlying64 hi hz0 hz1 hz2 rfl (by decide) v n _ hs hown ad m c (L.map (Value.int .u8)) hx (by simp [hb.1]) (hb.news) (ints_oneCell _ _) (by unfold maxLen; omega) (by omega) hbase ?_
    intro v' w' h1 h2 _
    have := h2.size
    exact h v' w' ⟨by rw [List.map_append]; exact h1, hbel.grown h2 hbase (own_block_le hown), by omega⟩
set_option maxHeartbeats 400000 in
theorem pad_ok (a : Option Addr) (len cap : Nat) (L : List Int) (n : Nat) (w : World) (hb : Bytes w a len L) (h1 : 1 ≤ n) (h2 : n ≤ 2147483648) :
    Calls Tryd.prog 84 #[.slice a len cap, .int .i64 n] w fun e w' => ∃ g, e = .returned (.slice (some ⟨g, 0, none⟩) n n) ∧ Out w w' (some ⟨g, 0, none⟩) n n (padTo L n) := by
  obtain ⟨i0, hi, hz0, hz1, hz2⟩ := info_parts Tryd.info5
  have hlm : n ≤ maxLen := by unfold maxLen; omega
  have hLl := hb.1
  have hn1 : ¬ (n : Int) < 1 := by omega
  have hn2 : ¬ (2147483648 : Int) < (n : Int) := by omega
  go_enter Tryd.func84, Tryd.ntmps84
  go_wp2_with (first | (at_make; refine wpList_make_full _ rfl (.tmp 13) (.tmp 13) 64 rfl _ 5 i0 (.int .u8 0) 1 Tryd.underlying64 hi hz0 hz1 _ _ _ _ n rfl rfl rfl rfl (by rw [hz2]; omega) hlm (Nat.le_refl _) ?_; intro w1 hown hgrow; have HR := made_row hown; clear hown; have hbl := (Below.refl w.heap.size w).grown hgrow (Nat.le_refl _) (by simp); have hb1 := hb.below hbl) | (refine wpList_copy_splice rfl (.tmp 15) (.tmp 16) 64 64 rfl 5 Tryd.underlying64 size5 _ _ _ _ _ _ rfl rfl w.heap.size 0 _ 5 HR ((L.take n).map (Value.int .u8)) (length_cut L n len hLl) (fun h => ⟨rfl, hb1.src_take n (pos_cut L n len hLl h)⟩) (fit_cut L n) (ints_oneCell _ _) w.heap.size w hbl (Nat.le_refl _) ?_; intro w2 HG2 hB2))
  have HG := HG2.out
  rw [splice_pad L n] at HG
  clear HR hgrow HG2 hb1 hb
  go_ret
  exact ⟨_, rfl, Out.of_row (length_padTo L n) hlm (Nat.le_refl _) HG hB2⟩
end Go.Proofs.YtipdaaajnbjnjaaDoor.Seal
