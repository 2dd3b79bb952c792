/-
 ReplayCuts, of what comes in.
-/
import Derived.Test.YtjdjbjedfbmgpaaGreatDoorQ43
set_option linter.unusedVariables false
set_option maxRecDepth 100000
set_option maxRecDepth 100000
namespace Go.Proofs.YtjdjbjedfbmgpaaGreatDoor
open Go.RowKit Plain
theorem replayCuts_walk (D : List Int) (a : Option Addr) (ca : Nat) (M : List Im) (a1 : Int) (lk : Bool) (w : World) (hT : Dig.Tabs w) (hT2 : Seal.Tab w) (hl : D.length = 32) (hD : Byt D) (hM : Imgs w a M) (yM : M.length <= maxLen) (w1 : (Lit.int .u8 a1).wf = true) :
  Calls Tryz.prog 4 #[.agg (u8s D), .slice a M.length ca, .int .u8 a1, .bool lk] w fun e w' => e = .returned (.bool true) /\ Below w.heap.size w w' := by
 have b1 := bounds_u8 w1
 obtain ⟨x, rfl⟩ := Int.eq_ofNat_of_zero_le b1.1
 unfold maxLen at yM
 exact replayCuts_core D ⟨hl, hD⟩ a ca M x lk (by omega) w hT hT2 hM (by omega)
end Go.Proofs.YtjdjbjedfbmgpaaGreatDoor
