/-
  The walk of ReplayRolls, as its frame wants it.
-/
import Derived.Test.YtjdcccdkddnkgaaGreatDoorQ42
namespace Go.Proofs.YtjdcccdkddnkgaaGreatDoor
set_option maxRecDepth 100000
set_option linter.unusedVariables false
set_option maxRecDepth 100000
open Go.RowKit Plain
theorem replayRolls_walk (K : List Int) (m1 m2 : Im) (w : World) (hT : Dig.Tabs w) (hT2 : Seal.Tab w) (hl : K.length = 32) (hD : Byt K) (h1 : Byi w m1) (h2 : Byi w m2) :
    Calls Tryz.prog 4 #[.agg (u8s K), .agg (imc m1).toArray, .agg (imc m2).toArray] w fun e w' => e = .returned (.bool true) ∧ Below w.heap.size w w' :=
  replayRolls_core K ⟨hl, hD⟩ m1 m2 w hT hT2 h1 h2
end Go.Proofs.YtjdcccdkddnkgaaGreatDoor
