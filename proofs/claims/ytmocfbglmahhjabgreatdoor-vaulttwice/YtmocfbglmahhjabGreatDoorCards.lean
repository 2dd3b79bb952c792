/-
  DERIVED. GIVEN WITH THE SEED: THE CARDS: each row of YtmocfbglmahhjabGreatDoorRows.lean that lists a variable, with what it lists TIED to the program's text (the seventh form; the later family's looks); each row that meets fmt, with fmt's text TOLD by the authors' own Lean function (tested against real Go, not proved from fmt's source: count such statements apart). THE CARD IS WHAT COUNTS. Prove the row's statement (the work); the ties are given (YtmocfbglmahhjabGreatDoorTie.lean); close each card by the builder's one call (the guide's Derived/Test/ToyasCard.lean, 'card_holds'). Laid BY PROGRAM, IN A SANDBOX (cutbox-door.mjs). By AI agents, Wed Nov 11 2026. No macro, syntax, notation, axiom, sorry.
-/
import Derived.Test.YtmocfbglmahhjabGreatDoorRows
import GoSem.ClaimSeven
namespace Go.Proofs.YtmocfbglmahhjabGreatDoor
namespace Rows

/-- THE TIED CARD OF 'reliquarylaw11.VaultTwice'. -/
def vaultTwiceCard : Claim7 := { stood := { row := vaultTwiceRow, standIns := [], harness := (true, "b3a346e0796bb9fe897559c51675e50104e1017338f670f47b9392a8b808efa0"), looks := false }, kinds := [], alts := [], laidByText := true, laidKinds := [.data, .data, .data], laidTests := true, laidLooks := .later }
def VaultTwiceCardSaid : Prop := Claim7.holds Tryz.pinned (.plain (OpenSpec.ofChange vaultTwiceSpec)) vaultTwiceCard

/-- THE SECOND FORM's CARD OF 'reliquarylaw11.VaultTwice'. -/
def vaultTwiceUptoCard : Claim7 := { stood := { row := vaultTwiceUptoRow, standIns := [], harness := (true, "b3a346e0796bb9fe897559c51675e50104e1017338f670f47b9392a8b808efa0"), looks := false }, kinds := [], alts := [], laidByText := true, laidKinds := [.data, .data, .data], laidTests := true, laidLooks := .later }
def VaultTwiceUptoCardSaid : Prop := Claim7.holds Tryz.pinned (.plain (OpenSpec.upto vaultTwiceSpec)) vaultTwiceUptoCard
end Rows
end Go.Proofs.YtmocfbglmahhjabGreatDoor
