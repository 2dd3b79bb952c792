/-
  Plain facts on bytes that are turned into strings; nothing of the program is said here but the types' numbers.
-/
import Derived.Test.YtkbbknbdkbcaeaaP3
import Derived.Test.YtkbbknbdkbcaeaaFrame
import Derived.Test.YtkbbknbdkbcaeaaRows
import Derived.Laws.BytesArg
namespace Go.Proofs.Ytkbbknbdkbcaeaa
set_option linter.unusedVariables false
open Go.RowKit Plain

theorem conv_zero (w : World) (a : Option Addr) (c : Nat) : (convert 22 9 (.slice a 0 c)).run Try.prog w = .ok (.string ByteArray.empty) w := by
  rw [run_convert_bytes_string w 22 9 5 a 0 c Try.underlying22 Try.underlying5 Try.underlying9]
  cases a with
  | none => simp [Conv.bytesToString]
  | some a =>
    rw [run_bytesToString w a 0 c [] (by simp [loadCells, loadCellsFrom])]
    rfl
theorem str_nil : strOfNums [] = ByteArray.empty := rfl
theorem conv_bytes {w : World} {a : Option Addr} {len : Nat} {L : List Int} (h : Bytes w a len L) (cap : Nat) : (convert 22 9 (.slice a len cap)).run Try.prog w = .ok (.string (strOfNums L)) w := by
  by_cases h0 : len = 0
  · subst h0
    obtain rfl : L = [] := List.eq_nil_of_length_eq_zero h.1
    rw [str_nil]
    exact conv_zero w a cap
  · obtain ⟨b, off, rfl, _, hc⟩ := h.2.2 (by omega)
    exact run_convert_bytes_arg w 22 5 Try.underlying22 Try.underlying5 b off len cap L h.1 hc 9 Try.underlying9
theorem str_take (L : List Int) (p : Nat) (h : p ≤ L.length) : (strOfNums L).extract 0 p = strOfNums (L.take p) := by
  apply ByteArray.ext
  rw [ByteArray.data_extract]
  simp [strOfNums]
theorem str_drop (L : List Int) (p n : Nat) (h : L.length = n) : (strOfNums L).extract p n = strOfNums (L.drop p) := by
  apply ByteArray.ext
  rw [ByteArray.data_extract]
  subst h
  simp [strOfNums]
  exact List.take_of_length_le (by simp)

theorem padTo_zero (L : List Int) : padTo L 0 = [] := by simp [padTo]
theorem padTo_low (L : List Int) (j : Nat) (h : j < L.length) : padTo L (j + 1) = padTo L j ++ [L.getD j 0] := by
  have e : L.getD j 0 = L[j] := by simp only [List.getD, List.getElem?_eq_getElem h, Option.getD_some]
  rw [padTo, padTo, show j + 1 - L.length = 0 by omega, show j - L.length = 0 by omega, e, List.take_succ_eq_append_getElem h]
  simp
theorem padTo_high (L : List Int) (j : Nat) (h : L.length ≤ j) : padTo L (j + 1) = padTo L j ++ [0] := by
  rw [padTo, padTo, List.take_of_length_le (by omega), List.take_of_length_le h, show j + 1 - L.length = (j - L.length) + 1 by omega, List.replicate_succ', List.append_assoc]
theorem padTo_bd (L : List Int) (n : Nat) (hL : ∀ i, 0 ≤ L.getD i 0 ∧ L.getD i 0 ≤ 255) : ∀ i, 0 ≤ (padTo L n).getD i 0 ∧ (padTo L n).getD i 0 ≤ 255 := by
  induction n with
  | zero => intro i; rw [padTo_zero]; simp
  | succ n ih =>
    have one : ∀ z : Int, 0 ≤ z ∧ z ≤ 255 → ∀ i, 0 ≤ [z].getD i 0 ∧ [z].getD i 0 ≤ 255 := by
      intro z hz i
      cases i with
      | zero => simpa using hz
      | succ i => simp
    by_cases h : n < L.length
    · rw [padTo_low L n h]; exact bd_append _ _ ih (one _ (hL n))
    · rw [padTo_high L n (by omega)]; exact bd_append _ _ ih (one 0 (by omega))
theorem own_snoc {w' : World} {base n : Nat} {v : Value} {L : List Int} {z : Int} (h : w'.ownsRow base 5 1 v (n + 1) (L.map (Value.int .u8) ++ [.int .u8 z])) : w'.ownsRow base 5 1 v (n + 1) ((L ++ [z]).map (Value.int .u8)) := by
  rw [List.map_append]; exact h
theorem oneCell_int (z : Int) : ∀ u ∈ [Value.int .u8 z], u.oneCell' = true := by
  intro u hu
  simp at hu
  subst hu
  rfl

end Go.Proofs.Ytkbbknbdkbcaeaa
