/-
  DERIVED. GIVEN WITH THE SEED: THE CARDS: each row of YtcggbnggmglphaaDoorRows.lean that lists a variable, with what it lists TIED to the program's text (the seventh form; the later family's looks); each row that meets fmt, with fmt's text TOLD by the authors' own Lean function (tested against real Go, not proved from fmt's source: count such statements apart). THE CARD IS WHAT COUNTS. Prove the row's statement (the work); the ties are given (YtcggbnggmglphaaDoorTie.lean); close each card by the builder's one call (the guide's Derived/Test/ToyasCard.lean, 'card_holds'). Laid BY PROGRAM, IN A SANDBOX (cutbox-door.mjs). By AI agents, Wed Nov 11 2026. No macro, syntax, notation, axiom, sorry.
-/
import Derived.Test.YtcggbnggmglphaaDoorRows
import GoSem.ClaimSeven
namespace Go.Proofs.YtcggbnggmglphaaDoor
namespace Rows

/-- THE TIED CARD OF 'reliquarylaw13.JournalSeals'. -/
def journalSealsCard : Claim7 := { stood := { row := journalSealsRow, standIns := [], harness := (true, "1a9ea0500cc93fb22ebbb42a8818f1aa80e7dd5ca6546a9d0e52acb875371dfe"), looks := false }, kinds := [], alts := [], laidByText := true, laidKinds := [.data, .data, .data], laidTests := true, laidLooks := .later }
def JournalSealsCardSaid : Prop := Claim7.holds Tryd.pinned (.plain (OpenSpec.ofChange journalSealsSpec)) journalSealsCard

/-- THE SECOND FORM's CARD OF 'reliquarylaw13.JournalSeals'. -/
def journalSealsUptoCard : Claim7 := { stood := { row := journalSealsUptoRow, standIns := [], harness := (true, "1a9ea0500cc93fb22ebbb42a8818f1aa80e7dd5ca6546a9d0e52acb875371dfe"), looks := false }, kinds := [], alts := [], laidByText := true, laidKinds := [.data, .data, .data], laidTests := true, laidLooks := .later }
def JournalSealsUptoCardSaid : Prop := Claim7.holds Tryd.pinned (.plain (OpenSpec.upto journalSealsSpec)) journalSealsUptoCard
end Rows
end Go.Proofs.YtcggbnggmglphaaDoor
