/-
  The digest of nothing, reckoned by the kernel; nothing of the program is said here.
-/
import Derived.Test.YtanpbceppjpblaaDoorP6
namespace Go.Proofs.YtanpbceppjpblaaDoor
set_option linter.unusedVariables false
open Go.RowKit Plain

def none32 : List Int := [227, 176, 196, 66, 152, 252, 28, 20, 154, 251, 244, 200, 153, 111, 185, 36, 39, 174, 65, 228, 100, 155, 147, 76, 164, 149, 153, 27, 120, 82, 184, 85]
theorem sha_nil : sha [] = none32 := by decide +kernel
end Go.Proofs.YtanpbceppjpblaaDoor
