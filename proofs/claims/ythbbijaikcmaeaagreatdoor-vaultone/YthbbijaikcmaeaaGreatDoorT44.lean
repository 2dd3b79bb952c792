/-
  VaultOne's walk, in the words of its card.
-/
import Derived.Test.YthbbijaikcmaeaaGreatDoorT43
import Derived.Test.YthbbijaikcmaeaaGreatDoorT00
namespace Go.Proofs.YthbbijaikcmaeaaGreatDoor
set_option maxRecDepth 100000
open Go.RowKit Go.Shelf Plain Go.Proofs.YthbbijaikcmaeaaGreatDoor.Shap.Plain
theorem vaultOne_walk (D : List Int) (a1 : Option Addr) (len1 cap1 : Nat) (z1 : List Int) (a2 : Option Addr) (len2 cap2 : Nat) (z2 : List Int) (x : Int) (W : World) (hT : Dig.Tabs W) (hT2 : Seal.Tab W) (hl : D.length = 32) (hD : Byt D) (w1 : IsRow .u8 W a1 len1 cap1 z1) (w2 : IsRow .u8 W a2 len2 cap2 z2) (hr : len2 ≤ 140737488351232) (w3 : (Lit.int .u8 x).wf = true) :
    Calls Tryz.prog 4 #[.agg (u8s D), .slice a1 len1 cap1, .slice a2 len2 cap2, .int .u8 x] W fun e w' => e = .returned (.bool true) ∧ Below W.heap.size W w' := by
  have b3 := bounds_u8 w3
  obtain ⟨y, rfl⟩ := Int.eq_ofNat_of_zero_le b3.1
  obtain ⟨p1, p2, p3⟩ := w1.pc
  obtain ⟨q1, _, _⟩ := w2.pc
  exact vaultOne_core D ⟨hl, hD⟩ a1 len1 cap1 _ a2 len2 cap2 _ y (by omega) W hT hT2 p1 ⟨p2, p3⟩ q1 hr
end Go.Proofs.YthbbijaikcmaeaaGreatDoor
