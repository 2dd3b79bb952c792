/-
  There and back; what the law's awake answers.
-/
import Derived.Test.YtipdaaajnbjnjaaDoorO36
namespace Go.Proofs.YtipdaaajnbjnjaaDoor
set_option maxRecDepth 100000
set_option linter.unusedVariables false
open Go.RowKit Plain
def z160 : List Int := List.replicate 160 0
theorem len_z160 : z160.length = 160 := List.length_replicate
theorem byt_z160 : Byt z160 := byt_zeros 160
end Go.Proofs.YtipdaaajnbjnjaaDoor
