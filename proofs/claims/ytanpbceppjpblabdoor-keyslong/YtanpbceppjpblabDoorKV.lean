/-
  Four codes, reckoned by the kernel; nothing of the program is said here.
-/
import Derived.Test.YtanpbceppjpblabDoorK1
namespace Go.Proofs.YtanpbceppjpblabDoor
set_option linter.unusedVariables false
open Go.RowKit Plain

def nought32 : List Int := List.replicate 32 0
def keyA : List Int := mac nought32 ([97] ++ [1])
def keyH : List Int := mac nought32 ([104, 111, 109, 101] ++ [1])
def keyJ : List Int := mac nought32 ([106, 111, 117, 114, 110, 97, 108] ++ [1])
def macN : List Int := mac [] []
theorem keyA_ne : decide (keyA = nought32) = false := by decide +kernel
theorem keyHJ_ne : decide (keyH = keyJ) = false := by decide +kernel
theorem macN_ne : decide (macN = nought32) = false := by decide +kernel
end Go.Proofs.YtanpbceppjpblabDoor
