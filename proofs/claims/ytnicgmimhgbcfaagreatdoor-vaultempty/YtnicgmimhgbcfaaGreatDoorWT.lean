/-
  What awake of the law leans on, plainly.
-/
import Derived.Test.YtnicgmimhgbcfaaGreatDoorWS
namespace Go.Proofs.YtnicgmimhgbcfaaGreatDoor
set_option linter.unusedVariables false
set_option maxRecDepth 100000
open Go.RowKit Plain Go.Proofs.YtnicgmimhgbcfaaGreatDoor.Shap.Plain

theorem aw_top : topL 5 = 2 := by decide
theorem aw_off : off 5 (topL 5 + 1) = 8 := by decide
/-- A block of noughts but for one byte. -/
def b79 : List Int := y160.set 7 9
theorem len_b79 : b79.length = 160 := by simp [b79, y160]
theorem byt_b79 : Byt b79 := fun i => by
  unfold b79
  rw [List.getD_eq_getElem?_getD]
  by_cases e : i = 7
  · subst e; decide
  · rw [List.getElem?_set_ne (by omega), ← List.getD_eq_getElem?_getD]
    exact byt_zeros 160 i
theorem aw_its (b : List Int) : (itsTo (lastB [((4 : Int), b)]) 5 (topL 5) (off 5 (topL 5 + 1))).length = 3 := by
  rw [aw_off, aw_top]
  rfl
end Go.Proofs.YtnicgmimhgbcfaaGreatDoor
