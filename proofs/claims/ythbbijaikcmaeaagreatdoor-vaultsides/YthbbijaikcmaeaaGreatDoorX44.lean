/-
  VaultSides' walk, in the words of its card.
-/
import Derived.Test.YthbbijaikcmaeaaGreatDoorX43
import Derived.Test.YthbbijaikcmaeaaGreatDoorX00
namespace Go.Proofs.YthbbijaikcmaeaaGreatDoor
set_option maxRecDepth 100000
open Go.RowKit Go.Shelf Plain Go.Proofs.YthbbijaikcmaeaaGreatDoor.Shap.Plain
theorem vaultSides_walk (D : List Int) (a : Option Addr) (cap : Nat) (X : List Rec.Sx) (W : World) (hT : Dig.Tabs W) (hT2 : Seal.Tab W) (hl : D.length = 32) (hD : Byt D) (w1 : Rec.Igss W a X) (_ : X.length ≤ maxLen) :
    Calls Tryz.prog 6 #[.agg (u8s D), .slice a X.length cap] W fun e w' => e = .returned (.bool true) ∧ Below W.heap.size W w' :=
  vaultSides_core D ⟨hl, hD⟩ a cap X W hT hT2 w1
end Go.Proofs.YthbbijaikcmaeaaGreatDoor
