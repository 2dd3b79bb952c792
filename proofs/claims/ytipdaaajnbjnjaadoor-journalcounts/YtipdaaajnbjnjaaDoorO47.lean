/-
  JournalCounts, of what comes in.
-/
import Derived.Test.YtipdaaajnbjnjaaDoorO46
namespace Go.Proofs.YtipdaaajnbjnjaaDoor
set_option maxRecDepth 100000
set_option linter.unusedVariables false
open Go.RowKit Plain
theorem journalCounts_walk (D : List Int) (a1 a2 : Int) (a : Option Addr) (ca : Nat) (M : List Im) (b : Option Addr) (cb : Nat) (N : List Im) (w : World) (hT : Dig.Tabs w) (hT2 : Seal.Tab w) (hl : D.length = 32) (hD : Byt D) (w1 : (Lit.int .u8 a1).wf = true) (w2 : (Lit.int .u8 a2).wf = true) (hM : Imgs w a M) (yM : M.length ≤ maxLen) (hN : Imgs w b N) (yN : N.length ≤ maxLen) :
    Calls Tryd.prog 5 #[.agg (u8s D), .int .u8 a1, .int .u8 a2, .slice a M.length ca, .slice b N.length cb] w fun e w' => e = .returned (.bool true) ∧ Below w.heap.size w w' := by
  have b1 := bounds_u8 w1
  have b2 := bounds_u8 w2
  obtain ⟨x, rfl⟩ := Int.eq_ofNat_of_zero_le b1.1
  obtain ⟨y, rfl⟩ := Int.eq_ofNat_of_zero_le b2.1
  unfold maxLen at yM yN
  exact journalCounts_core D ⟨hl, hD⟩ x y (by omega) (by omega) a ca M b cb N w hT hT2 hM hN (by omega) (by omega)
end Go.Proofs.YtipdaaajnbjnjaaDoor
