/-
  The types of this program lie as they are laid out.
-/
import Derived.Test.YteaejodihmnbcaaDoorK39
namespace Go.Proofs.YteaejodihmnbcaaDoor
theorem laidOut : laidOutB Tryd.prog = true := by kernel_rfl
end Go.Proofs.YteaejodihmnbcaaDoor
