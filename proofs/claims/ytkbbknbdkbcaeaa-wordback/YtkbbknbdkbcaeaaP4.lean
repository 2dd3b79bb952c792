/-
  Plain facts on bytes that are turned into strings; nothing of the program is said here but the types' numbers.
-/
import Derived.Test.YtkbbknbdkbcaeaaP3
import Derived.Test.YtkbbknbdkbcaeaaFrame
import Derived.Test.YtkbbknbdkbcaeaaRows
import Derived.Laws.BytesArg
namespace Go.Proofs.Ytkbbknbdkbcaeaa
set_option linter.unusedVariables false
open Go.RowKit Plain

theorem conv_zero (w : World) (a : Option Addr) (c : Nat) : (convert 22 9 (.slice a 0 c)).run Try.prog w = .ok (.string ByteArray.empty) w := by
  rw [run_convert_bytes_string w 22 9 5 a 0 c Try.underlying22 Try.underlying5 Try.underlying9]
  cases a with
  | none => simp [Conv.bytesToString]
  | some a =>
    rw [run_bytesToString w a 0 c [] (by simp [loadCells, loadCellsFrom])]
    rfl
theorem str_nil : strOfNums [] = ByteArray.empty := rfl
theorem conv_bytes {w : World} {a : Option Addr} {len : Nat} {L : List Int} (h : Bytes w a len L) (cap : Nat) : (convert 22 9 (.slice a len cap)).run Try.prog w = .ok (.string (strOfNums L)) w := by
  by_cases h0 : len = 0
  · subst h0
    obtain rfl : L = [] := List.eq_nil_of_length_eq_zero h.1
    rw [str_nil]
    exact conv_zero w a cap
  · obtain ⟨b, off, rfl, _, hc⟩ := h.2.2 (by omega)
    exact run_convert_bytes_arg w 22 5 Try.underlying22 Try.underlying5 b off len cap L h.1 hc 9 Try.underlying9
theorem str_take (L : List Int) (p : Nat) (h : p ≤ L.length) : (strOfNums L).extract 0 p = strOfNums (L.take p) := by
  apply ByteArray.ext
  rw [ByteArray.data_extract]
  simp [strOfNums]
theorem str_drop (L : List Int) (p n : Nat) (h : L.length = n) : (strOfNums L).extract p n = strOfNums (L.drop p) := by
  apply ByteArray.ext
  rw [ByteArray.data_extract]
  subst h
  simp [strOfNums]
  exact List.take_of_length_le (by simp)

end Go.Proofs.Ytkbbknbdkbcaeaa
