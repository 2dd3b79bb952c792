/-
  SHA-256 as plain reckoning on whole numbers, in the spelling of the walks; nothing of the program is said here.
-/
import Derived.Laws.CopyOwn
import Derived.WalkKit
import Derived.Laws.BitsAllLaws
namespace Go.Proofs.YtlbapcpcabieaaaDoor.Dig.Plain
set_option linter.unusedVariables false
open Go.RowKit

/-- A word is one of 32 bits. -/
def W32 (x : Int) : Prop := 0 ≤ x ∧ x < 4294967296
theorem W32.wrap (x : Int) : W32 (x % 4294967296) := by unfold W32; omega
theorem W32.bits (op : BinOp) (x y : Int) : W32 (bits op .u32 x y) := by
  unfold Go.bits
  rw [IntKind.wrap_u32]
  exact W32.wrap _

def rotr (x k : Int) : Int := bits .or .u32 (x / 2 ^ k.toNat) (x * 2 ^ (32 - k.toNat) % 4294967296)
theorem W32.rotr (x k : Int) : W32 (rotr x k) := W32.bits _ _ _
theorem bits_or_comm (k : IntKind) (x y : Int) : bits .or k x y = bits .or k y x := by
  unfold bits
  simp only [BitVec.or_comm]
theorem and31 (n : Nat) (h : 1 ≤ n) (h' : n ≤ 31) : bits .and .u64 (IntKind.u64.wrap (-(n : Int))) 31 = 32 - (n : Int) := by
  have key : ∀ n : Fin 32, 1 ≤ n.val → bits .and .u64 (IntKind.u64.wrap (-(n.val : Int))) 31 = 32 - (n.val : Int) := by decide +kernel
  exact key ⟨n, by omega⟩ h
end Go.Proofs.YtlbapcpcabieaaaDoor.Dig.Plain
