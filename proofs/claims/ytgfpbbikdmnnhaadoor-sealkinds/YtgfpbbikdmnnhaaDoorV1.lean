/-
  Bytes under the stream twice; a block of noughts, reckoned by the kernel; strings of bytes.
-/
import Derived.Test.YtgfpbbikdmnnhaaDoorE1
import Derived.Laws.BytesArg
namespace Go.Proofs.YtgfpbbikdmnnhaaDoor
set_option linter.unusedVariables false
open Go.RowKit Plain

theorem xr_xr (x y : Int) (hx : 0 ≤ x ∧ x ≤ 255) (hy : 0 ≤ y ∧ y ≤ 255) : xr (xr x y) y = x := by
  obtain ⟨X, rfl⟩ := Int.eq_ofNat_of_zero_le hx.1
  obtain ⟨Y, rfl⟩ := Int.eq_ofNat_of_zero_le hy.1
  have h1 : X ^^^ Y < 2 ^ 8 := Nat.xor_lt_two_pow (by omega) (by omega)
  unfold xr
  rw [u8_xor_nat X Y (by omega) (by omega), u8_xor_nat _ Y (by omega) (by omega), Nat.xor_assoc, Nat.xor_self, Nat.xor_zero]
theorem xr_nought (y : Int) (hy : 0 ≤ y ∧ y ≤ 255) : xr 0 y = y := by
  obtain ⟨Y, rfl⟩ := Int.eq_ofNat_of_zero_le hy.1
  unfold xr
  have := u8_xor_nat 0 Y (by omega) (by omega)
  rw [Nat.zero_xor] at this
  exact this
theorem stm_bd (K : List Int) (c : Int) (N : List Int) (i : Nat) : 0 ≤ stm K c N i ∧ stm K c N i ≤ 255 := byt_blk _ _ _ _
theorem cr_twice (K : List Int) (c : Int) (N B : List Int) (n : Nat) (hB : Byt B) (hl : B.length = n) : cr K c N (cr K c N B n) n = B := by
  apply eq_getD _ _ n (length_cr _ _ _ _ _) hl
  intro i hi
  rw [cr_at _ _ _ _ _ _ hi, cr_at _ _ _ _ _ _ hi, xr_xr _ _ (hB i) (stm_bd _ _ _ _)]
theorem blk_noughts : (blk (List.replicate 32 0) 0 (List.replicate 12 0)).getD 0 0 = 118 ∧ (blk (List.replicate 32 0) 0 (List.replicate 12 0)).getD 1 0 = 184 := by decide +kernel

theorem conv_zero (w : World) (a : Option Addr) (c : Nat) : (convert 26 9 (.slice a 0 c)).run Tryd.prog w = .ok (.string ByteArray.empty) w := by
  rw [run_convert_bytes_string w 26 9 5 a 0 c Tryd.underlying26 Tryd.underlying5 Tryd.underlying9]
  cases a with
  | none => simp [Conv.bytesToString]
  | some a =>
    rw [run_bytesToString w a 0 c [] (by simp [loadCells, loadCellsFrom])]
    rfl
theorem str_nil : strOfNums [] = ByteArray.empty := rfl
theorem conv_bytes {w : World} {a : Option Addr} {len : Nat} {L : List Int} (h : Bytes w a len L) (cap : Nat) : (convert 26 9 (.slice a len cap)).run Tryd.prog w = .ok (.string (strOfNums L)) w := by
  by_cases h0 : len = 0
  · subst h0
    obtain rfl : L = [] := List.eq_nil_of_length_eq_zero h.1
    rw [str_nil]
    exact conv_zero w a cap
  · obtain ⟨b, off, rfl, _, hc⟩ := h.2.2 (by omega)
    exact run_convert_bytes_arg w 26 5 Tryd.underlying26 Tryd.underlying5 b off len cap L h.1 hc 9 Tryd.underlying9

/-- Bytes stored into a block that has just been made. -/
theorem wpList_new8 {ops : Array Oper} {rest : List Oper} {o : Oper} {a : Act} {v : World} {Q : Exit → Act → World → Prop} (t : TypeId) (n : Nat) (ht : (Tryd.prog.info? t).map (·.size) = some n) (w : World) (X : List Int) (hX : X.length = n) (old : Array Value) (hold : old.size = n) (hgd : o.guard = none) (x y : Operand) (ho : o.op = .store t x y)
    (hx : a.eval x = .pointer (some ⟨w.heap.size, 0, none⟩)) (hy : a.eval y = .agg (u8s X)) (hv : v = w.alloc (.cells old t))
    (h : ∀ z, z.heap[w.heap.size]? = some (.cells (u8s X) t (0, 0)) → Below w.heap.size w z → wpList Tryd.prog ops Q rest (a.put o.dst undef) z) : wpList Tryd.prog ops Q (o :: rest) a v := by
  subst hv
  have hs : (u8s X).size = n := by rw [size_u8s, hX]
  exact wpList_store_row hgd t x y ho w.heap.size (u8s X) hx hy t old (al_at rfl) (by rw [hs]; exact ht) (by rw [hs]; exact hold) (all_u8s X)
    (h _ (setRow_heap _ _ _ _ _ _ (al_at rfl)) (below_setRow ((Below.refl _ _).alloc (Nat.le_refl _) _) (Nat.le_refl _) _))
theorem size64 : (Tryd.prog.info? 57).map (·.size) = some 64 := by kernel_rfl
theorem wpList_put64 {ops : Array Oper} {rest : List Oper} {o : Oper} {a : Act} {Q : Exit → Act → World → Prop} (w : World) (X : List Int) (hX : X.length = 64) (hgd : o.guard = none) (x y : Operand) (ho : o.op = .store 57 x y)
    (hx : a.eval x = .pointer (some ⟨w.heap.size, 0, none⟩)) (hy : a.eval y = .agg (u8s X)) (old : Array Value) (hold : old.size = 64)
    (h : ∀ z, z.heap[w.heap.size]? = some (.cells (u8s X) 57 (0, 0)) → Below w.heap.size w z → wpList Tryd.prog ops Q rest (a.put o.dst undef) z) : wpList Tryd.prog ops Q (o :: rest) a (w.alloc (.cells old 57)) :=
  wpList_new8 57 64 size64 w X hX old hold hgd x y ho hx hy rfl h
theorem size12 : (Tryd.prog.info? 50).map (·.size) = some 12 := by kernel_rfl
theorem size32 : (Tryd.prog.info? 23).map (·.size) = some 32 := by kernel_rfl
theorem row_on {w z : World} {g : Nat} {o : Obj} (h : w.heap[g]? = some o) (hb : Below w.heap.size w z) : z.heap[g]? = some o := (hb.block _ (Array.getElem?_eq_some_iff.1 h).1).trans h

end Go.Proofs.YtgfpbbikdmnnhaaDoor
