/-
  JournalRing, of what comes in.
-/
import Derived.Test.YtipdaaajnbjnjaaDoorP41
namespace Go.Proofs.YtipdaaajnbjnjaaDoor
set_option maxRecDepth 100000
set_option linter.unusedVariables false
open Go.RowKit Plain
theorem journalRing_walk (D : List Int) (a1 a2 : Int) (a : Option Addr) (len cap : Nat) (z : List Int) (w : World) (hT : Dig.Tabs w) (hT2 : Seal.Tab w) (hl : D.length = 32) (hD : Byt D) (w1 : (Lit.int .u8 a1).wf = true) (w2 : (Lit.int .u8 a2).wf = true) (hr : IsRow .u8 w a len cap z) :
    Calls Tryd.prog 6 #[.agg (u8s D), .int .u8 a1, .int .u8 a2, .slice a len cap] w fun e w' => e = .returned (.bool true) ∧ Below w.heap.size w w' := by
  have b1 := bounds_u8 w1
  have b2 := bounds_u8 w2
  obtain ⟨x, rfl⟩ := Int.eq_ofNat_of_zero_le b1.1
  obtain ⟨y, rfl⟩ := Int.eq_ofNat_of_zero_le b2.1
  obtain ⟨h1, h2, h3⟩ := hr.pc
  exact journalRing_core D ⟨hl, hD⟩ x y (by omega) (by omega) a len cap (z.take len) w hT hT2 h1 (by omega)
end Go.Proofs.YtipdaaajnbjnjaaDoor
