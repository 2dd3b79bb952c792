/-
  Two arrays of bytes are held against each other: what Go's == says of them; nonces are the same just if places and versions are.
-/
import Derived.Test.YtcdngpknoapmdaaDoorV1
import Derived.Laws.StructEq
import Derived.ChangeKeysEq
import Derived.BigFrame
namespace Go.Proofs.YtcdngpknoapmdaaDoor
set_option linter.unusedVariables false
open Go.RowKit Plain

theorem part5 (X : List Int) (i : Nat) (h : i < X.length) (w : World) : (part 5 (u8s X) (i * Tryd.prog.cellsOf 5)).run Tryd.prog w = .ok (.int .u8 (X.getD i 0)) w := by
  have hc : Tryd.prog.cellsOf 5 = 1 := by kernel_rfl
  have hagg : (isAgg 5).run Tryd.prog w = .ok false w := by kernel_rfl
  have hv : (u8s X)[i]? = some (.int .u8 (X.getD i 0)) := by simp [u8s, h]
  rw [hc, Nat.mul_one]
  simp [part, Sem.run_bind, hagg, hv]
theorem eq_items (n : Nat) (X Y : List Int) (w : World) (hX : X.length = n) (hY : Y.length = n) : ∀ is : List Nat, (∀ i ∈ is, i < n) → (Op.eqItems 9999 5 (Tryd.prog.cellsOf 5) (u8s X) (u8s Y) is).run Tryd.prog w = .ok (is.all fun i => X.getD i 0 == Y.getD i 0) w
  | [], _ => by simp [Op.eqItems]
  | i :: is, h => by
    have ih := eq_items n X Y w hX hY is (fun j hj => h j (List.mem_cons_of_mem _ hj))
    have hi := h i List.mem_cons_self
    have e := run_equalIn_int (P := Tryd.prog) w 9998 5 .u8 .u8 (X.getD i 0) (Y.getD i 0) Tryd.underlying5
    simp only [Op.eqItems, Sem.run_bind, part5 X i (by omega), part5 Y i (by omega), Result.andThen_ok, e, List.all_cons]
    cases hq : (X.getD i 0 == Y.getD i 0)
    · simp
    · simpa using ih
theorem all_eq (n : Nat) (X Y : List Int) (hX : X.length = n) (hY : Y.length = n) : ((List.range n).all fun i => X.getD i 0 == Y.getD i 0) = decide (X = Y) := by
  rw [Bool.eq_iff_iff, List.all_eq_true, decide_eq_true_iff]
  constructor
  · intro h
    apply List.ext_getElem (by omega)
    intro i h1 h2
    have := h i (by simp; omega)
    simpa [List.getD, h1, h2] using this
  · rintro rfl i _
    simp
theorem eq_arr (t : TypeId) (n : Nat) (hu : Tryd.prog.underlying t = some (.array n 5)) (X Y : List Int) (hX : X.length = n) (hY : Y.length = n) (w : World) : (binOp .eql t (.agg (u8s X)) (.agg (u8s Y))).run Tryd.prog w = .ok (.bool (decide (X = Y))) w := by
  obtain ⟨i0, hi, _⟩ := info_parts Tryd.info5
  rw [run_eql_struct, show (10000 : Nat) = 9999 + 1 from rfl, run_equalIn_array w 9999 (u8s X) (u8s Y) hu hi, eq_items n X Y w hX hY _ (by simp), all_eq n X Y hX hY]
  rfl
theorem eq12 (X Y : List Int) (hX : X.length = 12) (hY : Y.length = 12) (w : World) : (binOp .eql 25 (.agg (u8s X)) (.agg (u8s Y))).run Tryd.prog w = .ok (.bool (decide (X = Y))) w := eq_arr _ 12 Tryd.underlying25 X Y hX hY w
theorem eq64 (X Y : List Int) (hX : X.length = 64) (hY : Y.length = 64) (w : World) : (binOp .eql 27 (.agg (u8s X)) (.agg (u8s Y))).run Tryd.prog w = .ok (.bool (decide (X = Y))) w := eq_arr _ 64 Tryd.underlying27 X Y hX hY w

theorem bytesOf_inj (x y : Int) (K : Nat) (h : bytesOf x K = bytesOf y K) : x % 2 ^ (8 * K) = y % 2 ^ (8 * K) := by
  rw [← num_bytesOf x K K (Nat.le_refl _), ← num_bytesOf y K K (Nat.le_refl _), h]
theorem non_inj (a b c d : Int) (ha : W32 a) (hb : 0 ≤ b ∧ b ≤ 18446744073709551615) (hc : W32 c) (hd : 0 ≤ d ∧ d ≤ 18446744073709551615) (h : non a b = non c d) : a = c ∧ b = d := by
  obtain ⟨h1, h2⟩ := List.append_inj h (by rw [length_bytesOf, length_bytesOf])
  have e1 := bytesOf_inj a c 4 h1
  have e2 := bytesOf_inj b d 8 h2
  unfold W32 at ha hc
  omega
end Go.Proofs.YtcdngpknoapmdaaDoor
