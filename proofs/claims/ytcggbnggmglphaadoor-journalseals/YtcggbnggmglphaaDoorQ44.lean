/-
  JournalSeals, of what comes in.
-/
import Derived.Test.YtcggbnggmglphaaDoorQ43
namespace Go.Proofs.YtcggbnggmglphaaDoor
set_option maxRecDepth 100000
set_option linter.unusedVariables false
open Go.RowKit Plain
theorem journalSeals_walk (D : List Int) (a : Option Addr) (ca : Nat) (M : List Im) (a1 a2 : Int) (w : World) (hT : Dig.Tabs w) (hT2 : Seal.Tab w) (hl : D.length = 32) (hD : Byt D) (hM : Imgs w a M) (yM : M.length ≤ maxLen) (w1 : (Lit.int .u8 a1).wf = true) (w2 : (Lit.int .u16 a2).wf = true) :
    Calls Tryd.prog 3 #[.agg (u8s D), .slice a M.length ca, .int .u8 a1, .int .u16 a2] w fun e w' => e = .returned (.bool true) ∧ Below w.heap.size w w' := by
  have b1 := bounds_u8 w1
  have b2 := bounds_u16 w2
  obtain ⟨x, rfl⟩ := Int.eq_ofNat_of_zero_le b1.1
  obtain ⟨y, rfl⟩ := Int.eq_ofNat_of_zero_le b2.1
  unfold maxLen at yM
  exact journalSeals_core D ⟨hl, hD⟩ a ca M x y (by omega) (by omega) w hT hT2 hM (by omega)
end Go.Proofs.YtcggbnggmglphaaDoor
