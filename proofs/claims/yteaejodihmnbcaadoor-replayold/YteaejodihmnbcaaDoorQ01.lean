/-
  Bytes that are the same, one of two numbers, and the first of several rows: plain facts; nothing of the program is said here. And what follows it.
-/
import Derived.Test.YteaejodihmnbcaaDoorQ00
import Derived.Test.YteaejodihmnbcaaDoorProg
import Derived.Laws.BytesArg
import Derived.Laws.Strings
import Derived.Laws.AppendOwn
import Derived.OwnWalk
import Derived.Maps.AppendAt
import Derived.OpenShut
import Derived.ProofKit
import Derived.ShutString
import Derived.ChangeOld
import Derived.Below
import Derived.Deep.Matrix
import Derived.Deep.Cut
import Derived.Deep.RegionHeld3
import Derived.WalkKit
namespace Go.Proofs.YteaejodihmnbcaaDoor.Plain
set_option maxRecDepth 100000
set_option linter.unusedVariables false
open Go.RowKit
/-- What differs in the first k bytes of two rows, laid over each other. -/
def unl (A B : List Int) : Nat → Int
  | 0 => 0
  | k + 1 => bits .or .u8 (unl A B k) (bits .xor .u8 (A.getD k 0) (B.getD k 0))
theorem bits_u8 (op : BinOp) (x y : Int) : 0 ≤ bits op .u8 x y ∧ bits op .u8 x y ≤ 255 := by
  unfold Go.bits
  rw [IntKind.wrap_u8]; omega
theorem unl_bd (A B : List Int) (k : Nat) : 0 ≤ unl A B k ∧ unl A B k ≤ 255 := by
  cases k with
  | zero => simp [unl]
  | succ k => exact bits_u8 _ _ _
theorem unl_zero (A B : List Int) (hA : Byt A) (hB : Byt B) (k : Nat) : unl A B k = 0 ↔ ∀ i, i < k → A.getD i 0 = B.getD i 0 := by
  induction k with
  | zero => simp [unl]
  | succ k ih =>
    have h1 := unl_bd A B k
    have h2 := hA k
    have h3 := hB k
    rw [unl]
    have key : bits .or .u8 (unl A B k) (bits .xor .u8 (A.getD k 0) (B.getD k 0)) = 0 ↔ unl A B k = 0 ∧ A.getD k 0 = B.getD k 0 := by
      generalize unl A B k = u at h1
      generalize A.getD k 0 = x at h2
      generalize B.getD k 0 = y at h3
      obtain ⟨U, rfl⟩ := Int.eq_ofNat_of_zero_le h1.1
      obtain ⟨X, rfl⟩ := Int.eq_ofNat_of_zero_le h2.1
      obtain ⟨Y, rfl⟩ := Int.eq_ofNat_of_zero_le h3.1
      have hx : X ^^^ Y < 2 ^ 8 := Nat.xor_lt_two_pow (by omega) (by omega)
      rw [u8_xor_nat X Y (by omega) (by omega), u8_or_nat U _ (by omega) (by omega)]
      constructor
      · intro h
        have h' : U ||| (X ^^^ Y) = 0 := by exact_mod_cast h
        rw [Nat.or_eq_zero_iff] at h'
        refine ⟨by rw [h'.1]; rfl, ?_⟩
        have : X = Y := by
          have h2 : X ^^^ Y ^^^ Y = 0 ^^^ Y := by rw [h'.2]
          rwa [Nat.xor_assoc, Nat.xor_self, Nat.xor_zero, Nat.zero_xor] at h2
        rw [this]
      · rintro ⟨h, h'⟩
        have e1 : U = 0 := by omega
        have e2 : X = Y := by omega
        rw [e1, e2, Nat.xor_self]; rfl
    rw [key, ih]
    constructor
    · rintro ⟨h, h'⟩ i hi
      by_cases e : i < k
      · exact h i e
      · obtain rfl : i = k := by omega
        exact h'
    · intro h
      exact ⟨fun i hi => h i (by omega), h k (by omega)⟩
/-- 1, if two rows are the same, else 0. -/
def sm (A B : List Int) : Int := if A = B then 1 else 0
theorem sm_end (A B : List Int) (hA : Byt A) (hB : Byt B) (n : Nat) (lA : A.length = n) (lB : B.length = n) : IntKind.u64.wrap (unl A B n - 1) / 9223372036854775808 = sm A B := by
  have h := unl_bd A B n
  unfold sm
  rw [IntKind.wrap_u64]
  split
  · rename_i e
    subst e
    have : unl A A n = 0 := (unl_zero A A hA hA n).2 (fun _ _ => rfl)
    rw [this]; rfl
  · rename_i e
    have : unl A B n ≠ 0 := fun h0 => e (eq_getD A B n lA lB ((unl_zero A B hA hB n).1 h0))
    omega
theorem sm_len (A B : List Int) (h : A.length ≠ B.length) : sm A B = 0 := by
  unfold sm
  rw [if_neg]
  intro e; exact h (by rw [e])
theorem sm_one (A B : List Int) : decide (sm A B = 1) = decide (A = B) := by
  unfold sm; split <;> simp [*]
/-- One of two numbers, by a bit. -/
def cho (bit one other : Int) : Int := if bit % 2 = 1 then one else other
/-- r is the number of the first row that is b, or -1, if none is. -/
def Hit (C : Nat → List Int) (n : Nat) (b : List Int) (r : Int) : Prop := (r = -1 ∧ ∀ i, i < n → C i ≠ b) ∨ ∃ k : Nat, k < n ∧ r = k ∧ C k = b ∧ ∀ i, i < k → C i ≠ b
theorem Hit.only {C : Nat → List Int} {n : Nat} {b : List Int} {r s : Int} (h : Hit C n b r) (k : Hit C n b s) : r = s := by
  rcases h with ⟨h1, h2⟩ | ⟨i, h1, h2, h3, h4⟩ <;> rcases k with ⟨k1, k2⟩ | ⟨j, k1, k2, k3, k4⟩
  · rw [h1, k1]
  · exact absurd k3 (h2 j k1)
  · exact absurd h3 (k2 i h1)
  · have e1 : ¬ i < j := fun h => k4 i h h3
    have e2 : ¬ j < i := fun h => h4 j h k3
    omega
/-- Rows stand, one behind the other, where a slice's address says. -/
def Pcs (w : World) (a : Option Addr) (n : Nat) (va : Nat → Option Addr) (vl vc : Nat → Nat) (C : Nat → List Int) : Prop :=
  (0 < n → ∃ b off, a = some ⟨b, off, none⟩ ∧ b < w.heap.size ∧ ∀ i, i < n → w.cell? ⟨b, off + i, none⟩ = some (.slice (va i) (vl i) (vc i))) ∧
  ∀ i, i < n → Bytes w (va i) (vl i) (C i) ∧ vl i ≤ vc i ∧ vc i ≤ 9223372036854775807
theorem Pcs.below {w w' : World} {a : Option Addr} {n : Nat} {va : Nat → Option Addr} {vl vc : Nat → Nat} {C : Nat → List Int} (h : Pcs w a n va vl vc C) (hb : Below w.heap.size w w') : Pcs w' a n va vl vc C := by
  refine ⟨fun hp => ?_, fun i hi => ⟨(h.2 i hi).1.below hb, (h.2 i hi).2⟩⟩
  obtain ⟨b, off, e, hlt, hc⟩ := h.1 hp
  exact ⟨b, off, e, Nat.lt_of_lt_of_le hlt hb.size, fun i hi => (hb.cell hlt).trans (hc i hi)⟩
end Go.Proofs.YteaejodihmnbcaaDoor.Plain
namespace Go.Proofs.YteaejodihmnbcaaDoor
set_option maxRecDepth 100000
set_option linter.unusedVariables false
open Go.RowKit Plain
theorem str_nil : strOfNums [] = ByteArray.empty := rfl
theorem conv_zero (w : World) (a : Option Addr) (c : Nat) : (convert 34 9 (.slice a 0 c)).run Tryd.prog w = .ok (.string ByteArray.empty) w := by
  rw [run_convert_bytes_string w 34 9 5 a 0 c Tryd.underlying34 Tryd.underlying5 Tryd.underlying9]
  cases a with
  | none => simp [Conv.bytesToString]
  | some a =>
    rw [run_bytesToString w a 0 c [] (by simp [loadCells, loadCellsFrom])]
    rfl
theorem conv_bytes {w : World} {a : Option Addr} {len : Nat} {L : List Int} (h : Bytes w a len L) (cap : Nat) : (convert 34 9 (.slice a len cap)).run Tryd.prog w = .ok (.string (strOfNums L)) w := by
  by_cases h0 : len = 0
  · subst h0
    obtain rfl : L = [] := List.eq_nil_of_length_eq_zero h.1
    rw [str_nil]
    exact conv_zero w a cap
  · obtain ⟨b, off, rfl, _, hc⟩ := h.2.2 (by omega)
    exact run_convert_bytes_arg w 34 5 Tryd.underlying34 Tryd.underlying5 b off len cap L h.1 hc 9 Tryd.underlying9
theorem exec_conv {o : Oper} {a : Act} {w' : World} {ad : Option Addr} {len cap : Nat} {L : List Int} (x : Operand) (ho : o.op = .convert 34 9 x) (hx : a.eval x = .slice ad len cap) (hB : Bytes w' ad len L) :
    (execOp a.eval o).run Tryd.prog w' = .ok (.value (.string (strOfNums L))) w' := by
  unfold execOp
  simp only [ho, hx, Sem.run_bind, Sem.run_pure, conv_bytes hB, Result.andThen_ok]
end Go.Proofs.YteaejodihmnbcaaDoor
namespace Go.Proofs.YteaejodihmnbcaaDoor
set_option maxRecDepth 100000
set_option linter.unusedVariables false
open Go.RowKit Plain
theorem own : ownKnob Tryd.prog.godebug = none := by kernel_rfl
theorem laidOut : laidOutB Tryd.prog = true := by kernel_rfl
/-- A slice of integers that came in: nil, or a row of 'cap' cells, the numbers 'zs', of which the first 'len' are its elements. -/
def IsRow (k : IntKind) (w : World) (a : Option Addr) (len cap : Nat) (zs : List Int) : Prop :=
  (a = none ∧ len = 0 ∧ cap = 0 ∧ zs = []) ∨
  ∃ x, a = some x ∧ len ≤ cap ∧ cap ≤ maxLen ∧ zs.length = cap ∧ (∀ i, i < zs.length → w.cell? (x.add i) = some (.int k (zs.getD i 0))) ∧ ∀ n ∈ zs, (Lit.int k n).wf = true
theorem block_lt {w : World} {b o : Nat} {v : Value} (h : w.cell? ⟨b, o, none⟩ = some v) : b < w.heap.size := by
  apply Nat.lt_of_not_le
  intro hle
  simp [World.cell?, Array.getElem?_eq_none hle] at h
theorem IsRow.len {k : IntKind} {w : World} {a : Option Addr} {len cap : Nat} {zs : List Int} (h : IsRow k w a len cap zs) : len ≤ maxLen := by
  rcases h with ⟨_, rfl, _⟩ | ⟨_, _, h1, h2, _⟩
  · exact Nat.zero_le _
  · omega
theorem IsRow.cells {k : IntKind} {w : World} {a : Option Addr} {len cap : Nat} {zs : List Int} (h : IsRow k w a len cap zs) :
    (zs.take len).length = len ∧ (∀ n ∈ zs.take len, (Lit.int k n).wf = true) ∧ (0 < len → ∃ b off, a = some ⟨b, off, none⟩ ∧ b < w.heap.size ∧ ∀ i, i < len → w.cell? ⟨b, off + i, none⟩ = some (.int k ((zs.take len).getD i 0))) := by
  rcases h with ⟨rfl, rfl, rfl, rfl⟩ | ⟨⟨b, off, spot⟩, rfl, hl, hm, hz, hcell, hwz⟩
  · exact ⟨rfl, by simp, by omega⟩
  · refine ⟨by rw [List.length_take]; omega, fun n hn => hwz n (List.mem_of_mem_take hn), fun hp => ?_⟩
    have h0 := hcell 0 (by omega)
    have hspot : spot = none := by simpa [Addr.add] using World.cell?_spot h0
    subst hspot
    have hc : ∀ i, i < len → w.cell? ⟨b, off + i, none⟩ = some (.int k ((zs.take len).getD i 0)) := by
      intro i hi
      have := hcell i (by omega)
      rw [Addr.add_lit] at this
      rw [this]
      simp only [List.getD, List.getElem?_take, if_pos hi]
    exact ⟨b, off, rfl, block_lt (hc 0 hp), hc⟩
theorem IsRow.bytes {w : World} {a : Option Addr} {len cap : Nat} {zs : List Int} (h : IsRow .u8 w a len cap zs) : Bytes w a len (zs.take len) := by
  obtain ⟨h1, h2, h3⟩ := h.cells
  refine ⟨h1, fun i => ?_, h3⟩
  by_cases hi : i < (zs.take len).length
  · have := bounds_u8 (h2 _ (List.getElem_mem hi))
    have e : (zs.take len).getD i 0 = (zs.take len)[i] := by simp only [List.getD, List.getElem?_eq_getElem hi, Option.getD_some]
    rw [e]
    omega
  · simp [List.getD, List.getElem?_eq_none (Nat.le_of_not_lt hi)]
theorem IsRow.pc {w : World} {a : Option Addr} {len cap : Nat} {zs : List Int} (h : IsRow .u8 w a len cap zs) : Bytes w a len (zs.take len) ∧ len ≤ cap ∧ cap ≤ 9223372036854775807 := by
  refine ⟨h.bytes, ?_⟩
  rcases h with ⟨_, rfl, rfl, _⟩ | ⟨_, _, h1, h2, _⟩
  · omega
  · unfold maxLen at h2; omega
/-- Slices of bytes that came in. -/
def AreRows (w : World) (a : Option Addr) (n cap : Nat) (va : Nat → Option Addr) (vl vc : Nat → Nat) (Z : Nat → List Int) : Prop :=
  (a = none ∧ n = 0 ∧ cap = 0) ∨ ∃ x, a = some x ∧ n ≤ cap ∧ cap ≤ maxLen ∧ ∀ r, r < cap → w.cell? (x.add r) = some (.slice (va r) (vl r) (vc r)) ∧ IsRow .u8 w (va r) (vl r) (vc r) (Z r)
theorem AreRows.pcs {w : World} {a : Option Addr} {n cap : Nat} {va : Nat → Option Addr} {vl vc : Nat → Nat} {Z : Nat → List Int} (h : AreRows w a n cap va vl vc Z) :
    Pcs w a n va vl vc (fun r => (Z r).take (vl r)) ∧ n ≤ 9223372036854775807 := by
  rcases h with ⟨rfl, rfl, rfl⟩ | ⟨⟨b, off, spot⟩, rfl, hl, hm, hr⟩
  · exact ⟨⟨fun h => absurd h (Nat.lt_irrefl 0), fun i hi => absurd hi (Nat.not_lt_zero i)⟩, Nat.zero_le _⟩
  · refine ⟨⟨fun hp => ?_, fun i hi => ?_⟩, by unfold maxLen at hm; omega⟩
    · have h0 := (hr 0 (by omega)).1
      have hspot : spot = none := by simpa [Addr.add] using World.cell?_spot h0
      subst hspot
      refine ⟨b, off, rfl, ?_, fun i hi => ?_⟩
      · rw [Addr.add_lit] at h0
        exact block_lt h0
      · have := (hr i (by omega)).1
        rwa [Addr.add_lit] at this
    · exact (hr i (by omega)).2.pc
end Go.Proofs.YteaejodihmnbcaaDoor
namespace Go.Proofs.YteaejodihmnbcaaDoor
set_option maxRecDepth 100000
set_option linter.unusedVariables false
open Go.RowKit Plain
theorem info5 : (Tryd.prog.info? 5).map (fun i => (i.zero, i.size, i.bytes)) = some (some (.int .u8 0), 1, 1) := by kernel_rfl
theorem own_cap {w : World} {base n cap : Nat} {a : Option Addr} {xs : List Value} (h : w.ownsRow base 5 1 (.slice a n cap) n xs) : n ≤ cap ∧ cap ≤ maxLen := by
  rcases h.2 with ⟨h1, h2⟩ | ⟨g, cap', cur, h1, _, _, h2, h3, _⟩
  · simp only [Value.slice.injEq] at h1
    obtain ⟨_, rfl, rfl⟩ := h1
    exact ⟨Nat.le_refl _, Nat.zero_le _⟩
  · simp only [Value.slice.injEq, true_and] at h1
    obtain ⟨_, rfl⟩ := h1
    exact ⟨h2, h3⟩
theorem bytes_news {w : World} {ad : Addr} {len : Nat} {L : List Int} (h : Bytes w (some ad) len L) : ∀ j u, (L.map (Value.int .u8))[j]? = some u → w.cell? (ad.add j) = some u := by
  intro j u hj
  have hlt : j < L.length := by simpa using (List.getElem?_eq_some_iff.1 hj).1
  obtain ⟨b, off, he, _, hc⟩ := h.2.2 (by rw [← h.1]; omega)
  simp only [Option.some.injEq] at he
  subst he
  rw [Addr.add_lit, hc j (by rw [← h.1]; exact hlt), ← hj]
  simp [hlt]
/-- Nothing appended to a row of the call's own, out of a slice that is nil. -/
theorem run_append_none {w : World} {base n c : Nat} {v : Value} {xs : List Value} {ty : TypeId} (h : w.ownsRow base 5 1 v n xs) : (Builtin.append_ #[34, 34] ty #[v, .slice none 0 c]).run Tryd.prog w = .ok v w := by
  obtain ⟨i0, hi, hz0, hz1, hz2⟩ := info_parts info5
  rcases h.2 with ⟨rfl, rfl⟩ | ⟨g, cap', cur, rfl, _, _, hle, _⟩
  · simp [Builtin.append_, run_underlying Tryd.underlying34, sizeOf, typeInfo, hi, Builtin.lenOf, Builtin.firstCells]
  · simp [Builtin.append_, run_underlying Tryd.underlying34, sizeOf, typeInfo, hi, Builtin.lenOf, Builtin.firstCells, hle, storeCells]
/-- Bytes appended to a row of the call's own. -/
theorem wpList_app {ops : Array Oper} {rest : List Oper} {o : Oper} {act : Act} {w : World} {Q : Exit → Act → World → Prop} (hgd : o.guard = none) (s x : Operand)
    (ho : o.op = .call { callee := .builtin .append, args := #[s, x], argTypes := #[34, 34] }) (base n m c : Nat) (v : Value) (A L : List Int) (a : Option Addr) (w0 : World)
    (hs : act.eval s = v) (hx : act.eval x = .slice a m c) (hown : w.ownsRow base 5 1 v n (A.map (Value.int .u8))) (hb : Bytes w a m L) (hl : n + m ≤ 140737488355328) (hbel : Below base w0 w) (hbase : base ≤ w.heap.size)
    (h : ∀ v' w', Box (w'.ownsRow base 5 1 v' (n + m) ((A ++ L).map (Value.int .u8)) ∧ Below base w0 w' ∧ base ≤ w'.heap.size) → wpList Tryd.prog ops Q rest (act.put o.dst v') w') : wpList Tryd.prog ops Q (o :: rest) act w := by
  obtain ⟨i0, hi, hz0, hz1, hz2⟩ := info_parts info5
  cases a with
  | none =>
    have hm : m = 0 := by
      by_cases hm : m = 0
      · exact hm
      · obtain ⟨_, _, he, _⟩ := hb.2.2 (by omega)
        cases he
    subst hm
    obtain rfl : L = [] := List.eq_nil_of_length_eq_zero hb.1
    refine wpList_plain hgd fun _ hK => ?_
    unfold Oper.wp execOp
    simp only [ho, resolve, invoke, builtin, Sem.run_bind, Sem.run_pure, Result.andThen_ok, List.map_toArray, List.map_cons, List.map_nil, hs, hx, run_append_none hown]
    exact hK _ _ (h v w ⟨by simpa using hown, hbel, hbase⟩)
  | some ad =>
    refine wpList_append_own w hgd s x 34 ho base 5 i0 (.int .u8 0) 1 1 Tryd.underlying34 hi hz0 hz1 hz2 rfl (by decide) v n _ hs hown ad m c (L.map (Value.int .u8)) hx (by simp [hb.1]) (bytes_news hb) (ints_oneCell _ _) (by unfold maxLen; omega) (by omega) hbase ?_
    intro v' w' h1 h2 _
    have := h2.size
    exact h v' w' ⟨by rw [List.map_append]; exact h1, hbel.grown h2 hbase (own_block_le hown), by omega⟩
theorem exec_slice {o : Oper} {a : Act} {w' : World} (t : TypeId) (x : Operand) (lo hi : Option Operand) (ho : o.op = .slice t x lo hi none) (r : Value) (h : (Instr.sliceAt t (a.eval x) (lo.map a.eval) (hi.map a.eval) none).run Tryd.prog w' = .ok r w') :
    (execOp a.eval o).run Tryd.prog w' = .ok (.value r) w' := by
  unfold execOp
  simp only [ho, Option.map_none, Sem.run_bind, Sem.run_pure, h, Result.andThen_ok]
theorem slice_lo (a : Option Addr) (len cap n : Nat) (hn : n ≤ len) (hc : len ≤ cap) : ∃ a', (∀ x, (Instr.sliceAt 34 (.slice a len cap) (some (.int .i64 (n : Int))) none none).run Tryd.prog x = .ok (.slice a' (len - n) (cap - n)) x) ∧ ∀ x B, Bytes x a len B → Bytes x a' (len - n) (B.drop n) := by
  refine ⟨if cap = n then a else a.map (·.add (n * 1)), fun x => ?_, fun x B hB => ?_⟩
  · have hu : Tryd.prog.underlying 34 = some (.slice (Tryd.prog.elem 34)) := by kernel_rfl
    rw [run_sliceAt_slice (P := Tryd.prog) x 34 _ _ _ _ hu, run_slice_l (P := Tryd.prog) x 34 a len cap hu .i64 (n : Int) (by omega) (by omega)]
    have hs : (sizeOf (Tryd.prog.elem 34)).run Tryd.prog x = .ok 1 x := by kernel_rfl
    rw [hs, Result.andThen_ok, sliced]
    simp
  · refine ⟨by rw [List.length_drop, hB.1], byt_drop B n hB.2.1, fun hp => ?_⟩
    obtain ⟨b, off, rfl, hlt, hcl⟩ := hB.2.2 (by omega)
    rw [if_neg (by omega)]
    refine ⟨b, off + n, by simp [Addr.add_mid], hlt, fun i hi => ?_⟩
    rw [Nat.add_assoc, hcl (n + i) (by omega)]
    simp [List.getD, List.getElem?_drop]
end Go.Proofs.YteaejodihmnbcaaDoor
namespace Go.Proofs.YteaejodihmnbcaaDoor.Seq
set_option maxRecDepth 100000
open Go.RowKit
section
variable {P : Program} {md : Region.Mode} {ops : Array Oper} {Q : Exit → Act → World → Prop} {S S' : World → Prop}
/-- A later world: what was there has not turned. -/
def Lat (w0 : World) : World → Prop := fun w' => Below w0.heap.size w0 w'
theorem into (hS : ∀ w, S' w → S w) : ∀ (fuel : Nat) (listed : Array Bool) (a : Act) (w : World), wpAnyH P md ops Q S' fuel listed a w → wpAnyH P md ops Q S fuel listed a w
  | 0, _, _, _, h => h
  | fuel + 1, _, _, _, h => ⟨h.1, fun i hi => wpOp_mono (fun a' w' h' => ⟨hS _ h'.1, into hS fuel _ a' w' h'.2⟩) (h.2 i hi)⟩
theorem begin_lat {id : Nat} {a : Act} {w : World} (hm : P.follows .mixedOrders = true)
    (h : wpAnyH P .any ops Q (Lat w.drew) ops.size (Array.replicate ops.size false) a w.drew) : (Code.region id ops true).wp P Q a w :=
  wp_region_held_drew (S := Lat w.drew) hm (Below.refl _ _) (fun _ => h)
theorem begin_any {id : Nat} {a : Act} {w : World} (hm : P.follows .mixedOrders = true)
    (h : ∀ wd, Below w.heap.size w wd → wpAnyH P .any ops Q (Lat wd) ops.size (Array.replicate ops.size false) a wd) : (Code.region id ops true).wp P Q a w :=
  begin_lat hm (h _ (Below.refl _ _).drew)
theorem take_lat {i : Nat} {oi : Oper} {v : Value} {fuel : Nat} {listed : Array Bool} {a : Act} {w : World} (hi : ops[i]? = some oi)
    (hs : Region.noSelect ops = true) (hf : Region.free md ops listed i = true) (hr : (Region.ready md ops listed).contains i = true)
    (hQ : ∀ c a w, Q (.panic c) (a.put oi.dst v) w → Q (.panic c) a w) (hw : Region.wanted oi (yielded ops a.tmps) = true)
    (hv : ∀ w', Lat w w' → (execOp a.eval oi).run P w' = .ok (.value v) w')
    (h : wpAnyH P md ops Q (Lat w) fuel (listed.setIfInBounds i true) (a.put oi.dst v) w) : wpAnyH P md ops Q (Lat w) (fuel + 1) listed a w :=
  wpAnyH_take hi hs hf hr hQ (Or.inl ⟨hw, hv⟩) (Below.refl _ _) h
theorem only_lat {i : Nat} {o : Oper} {fuel : Nat} {listed : Array Bool} {a : Act} {w : World} (ho : ops[i]? = some o) (hr : Region.ready md ops listed = [i])
    (h : ∀ K' : Act → World → Prop, Shut (∀ a w1, Below w.heap.size w w1 → wpAnyH P md ops Q (Lat w1) fuel (listed.setIfInBounds i true) a w1 → K' a w1) → if Region.wanted o (yielded ops a.tmps) = true then Oper.wp P o a w K' Q else K' (a.put o.dst undef) w) :
    wpAnyH P md ops Q (Lat w) (fuel + 1) listed a w := by
  refine wpAnyH_ready hr (by simp) (AllReadyH.cons ho (fun K' hK => h K' ?_) AllReadyH.nil)
  intro a1 w1 hb hn
  exact hK.out a1 w1 hb (fun _ => into (fun w' hl => hb.trans (hl.mono hb.size)) _ _ _ _ hn)
end
end Go.Proofs.YteaejodihmnbcaaDoor.Seq
