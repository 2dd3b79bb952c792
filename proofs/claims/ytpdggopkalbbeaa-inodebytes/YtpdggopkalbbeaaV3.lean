/-
  Strings of bytes; rows of bytes that came in, and rows of a call's own.
-/
import Derived.Test.YtpdggopkalbbeaaJ1
import Derived.Test.YtpdggopkalbbeaaProg
import Derived.Laws.BytesArg
import Derived.Laws.Strings
import Derived.Laws.AppendOwn
import Derived.OwnWalk
import Derived.Maps.AppendAt
import Derived.OpenShut
namespace Go.Proofs.Ytpdggopkalbbeaa
set_option linter.unusedVariables false
open Go.RowKit Plain

theorem str_nil : strOfNums [] = ByteArray.empty := rfl
theorem conv_zero (w : World) (a : Option Addr) (c : Nat) : (convert 27 9 (.slice a 0 c)).run Try.prog w = .ok (.string ByteArray.empty) w := by
  rw [run_convert_bytes_string w 27 9 5 a 0 c Try.underlying27 Try.underlying5 Try.underlying9]
  cases a with
  | none => simp [Conv.bytesToString]
  | some a =>
    rw [run_bytesToString w a 0 c [] (by simp [loadCells, loadCellsFrom])]
    rfl
theorem conv_bytes {w : World} {a : Option Addr} {len : Nat} {L : List Int} (h : Bytes w a len L) (cap : Nat) : (convert 27 9 (.slice a len cap)).run Try.prog w = .ok (.string (strOfNums L)) w := by
  by_cases h0 : len = 0
  · subst h0
    obtain rfl : L = [] := List.eq_nil_of_length_eq_zero h.1
    rw [str_nil]
    exact conv_zero w a cap
  · obtain ⟨b, off, rfl, _, hc⟩ := h.2.2 (by omega)
    exact run_convert_bytes_arg w 27 5 Try.underlying27 Try.underlying5 b off len cap L h.1 hc 9 Try.underlying9
theorem exec_conv {o : Oper} {a : Act} {w' : World} {ad : Option Addr} {len cap : Nat} {L : List Int} (x : Operand) (ho : o.op = .convert 27 9 x) (hx : a.eval x = .slice ad len cap) (hB : Bytes w' ad len L) :
    (execOp a.eval o).run Try.prog w' = .ok (.value (.string (strOfNums L))) w' := by
  unfold execOp
  simp only [ho, hx, Sem.run_bind, Sem.run_pure, conv_bytes hB, Result.andThen_ok]
/-- Strings of bytes are the same just if the bytes are. -/
theorem str_eq (A B : List Int) (hA : Byt A) (hB : Byt B) : strOfNums A = strOfNums B ↔ A = B := by
  constructor
  · intro h
    have hl : A.length = B.length := by
      have := congrArg (fun s : ByteArray => s.data.size) h
      simpa [strOfNums] using this
    refine eq_getD A B A.length rfl hl.symm (fun i hi => ?_)
    have h1 := congrArg (fun s : ByteArray => s.data[i]?) h
    have hi' : i < B.length := by omega
    simp [strOfNums, hi, hi'] at h1
    have hb1 := hA i
    have hb2 := hB i
    simp [hi] at hb1
    simp [hi'] at hb2
    simp [hi, hi']
    have h2 := congrArg UInt8.toNat h1
    simp at h2
    omega
  · rintro rfl; rfl
theorem str_beq (A B : List Int) (hA : Byt A) (hB : Byt B) : ((strOfNums A).toList == (strOfNums B).toList) = decide (A = B) := by
  rw [ByteArray.toList_eq, ByteArray.toList_eq]
  by_cases h : A = B
  · subst h; simp
  · have : ¬ (strOfNums A).data = (strOfNums B).data := fun e => h ((str_eq A B hA hB).1 (ByteArray.ext e))
    simp [h, this]
end Go.Proofs.Ytpdggopkalbbeaa
