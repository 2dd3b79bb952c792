/-
  DERIVED. GIVEN WITH THE SEED: THE CARDS: each row of YthbbijaikcmaeaaGreatDoorRows.lean that lists a variable, with what it lists TIED to the program's text (the seventh form; the later family's looks); each row that meets fmt, with fmt's text TOLD by the authors' own Lean function (tested against real Go, not proved from fmt's source: count such statements apart). THE CARD IS WHAT COUNTS. Prove the row's statement (the work); the ties are given (YthbbijaikcmaeaaGreatDoorTie.lean); close each card by the builder's one call (the guide's Derived/Test/ToyasCard.lean, 'card_holds'). Laid BY PROGRAM, IN A SANDBOX (cutbox-door.mjs). By AI agents, Wed Nov 11 2026. No macro, syntax, notation, axiom, sorry.
-/
import Derived.Test.YthbbijaikcmaeaaGreatDoorRows
import GoSem.ClaimSeven
namespace Go.Proofs.YthbbijaikcmaeaaGreatDoor
namespace Rows

/-- THE TIED CARD OF 'reliquarylaw11.VaultKeeps'. -/
def vaultKeepsCard : Claim7 := { stood := { row := vaultKeepsRow, standIns := [], harness := (true, "a9cdefbf2e0985ac401340055ea7412ef705c16d42713e730d82ee9cba5459fe"), looks := false }, kinds := [], alts := [], laidByText := true, laidKinds := [.data, .data, .data], laidTests := true, laidLooks := .later }
def VaultKeepsCardSaid : Prop := Claim7.holds Tryz.pinned (.plain (OpenSpec.ofChange vaultKeepsSpec)) vaultKeepsCard

/-- THE TIED CARD OF 'reliquarylaw11.VaultOne'. -/
def vaultOneCard : Claim7 := { stood := { row := vaultOneRow, standIns := [], harness := (true, "a9cdefbf2e0985ac401340055ea7412ef705c16d42713e730d82ee9cba5459fe"), looks := false }, kinds := [], alts := [], laidByText := true, laidKinds := [.data, .data, .data], laidTests := true, laidLooks := .later }
def VaultOneCardSaid : Prop := Claim7.holds Tryz.pinned (.plain (OpenSpec.ofChange vaultOneSpec)) vaultOneCard

/-- THE TIED CARD OF 'reliquarylaw11.VaultWorn'. -/
def vaultWornCard : Claim7 := { stood := { row := vaultWornRow, standIns := [], harness := (true, "a9cdefbf2e0985ac401340055ea7412ef705c16d42713e730d82ee9cba5459fe"), looks := false }, kinds := [], alts := [], laidByText := true, laidKinds := [.data, .data, .data], laidTests := true, laidLooks := .later }
def VaultWornCardSaid : Prop := Claim7.holds Tryz.pinned (.plain (OpenSpec.ofChange vaultWornSpec)) vaultWornCard

/-- THE TIED CARD OF 'reliquarylaw11.VaultSides'. -/
def vaultSidesCard : Claim7 := { stood := { row := vaultSidesRow, standIns := [], harness := (true, "a9cdefbf2e0985ac401340055ea7412ef705c16d42713e730d82ee9cba5459fe"), looks := false }, kinds := [], alts := [], laidByText := true, laidKinds := [.data, .data, .data], laidTests := true, laidLooks := .later }
def VaultSidesCardSaid : Prop := Claim7.holds Tryz.pinned (.plain (OpenSpec.ofChange vaultSidesSpec)) vaultSidesCard

/-- THE SECOND FORM's CARD OF 'reliquarylaw11.VaultKeeps'. -/
def vaultKeepsUptoCard : Claim7 := { stood := { row := vaultKeepsUptoRow, standIns := [], harness := (true, "a9cdefbf2e0985ac401340055ea7412ef705c16d42713e730d82ee9cba5459fe"), looks := false }, kinds := [], alts := [], laidByText := true, laidKinds := [.data, .data, .data], laidTests := true, laidLooks := .later }
def VaultKeepsUptoCardSaid : Prop := Claim7.holds Tryz.pinned (.plain (OpenSpec.upto vaultKeepsSpec)) vaultKeepsUptoCard

/-- THE SECOND FORM's CARD OF 'reliquarylaw11.VaultOne'. -/
def vaultOneUptoCard : Claim7 := { stood := { row := vaultOneUptoRow, standIns := [], harness := (true, "a9cdefbf2e0985ac401340055ea7412ef705c16d42713e730d82ee9cba5459fe"), looks := false }, kinds := [], alts := [], laidByText := true, laidKinds := [.data, .data, .data], laidTests := true, laidLooks := .later }
def VaultOneUptoCardSaid : Prop := Claim7.holds Tryz.pinned (.plain (OpenSpec.upto vaultOneSpec)) vaultOneUptoCard

/-- THE SECOND FORM's CARD OF 'reliquarylaw11.VaultWorn'. -/
def vaultWornUptoCard : Claim7 := { stood := { row := vaultWornUptoRow, standIns := [], harness := (true, "a9cdefbf2e0985ac401340055ea7412ef705c16d42713e730d82ee9cba5459fe"), looks := false }, kinds := [], alts := [], laidByText := true, laidKinds := [.data, .data, .data], laidTests := true, laidLooks := .later }
def VaultWornUptoCardSaid : Prop := Claim7.holds Tryz.pinned (.plain (OpenSpec.upto vaultWornSpec)) vaultWornUptoCard

/-- THE SECOND FORM's CARD OF 'reliquarylaw11.VaultSides'. -/
def vaultSidesUptoCard : Claim7 := { stood := { row := vaultSidesUptoRow, standIns := [], harness := (true, "a9cdefbf2e0985ac401340055ea7412ef705c16d42713e730d82ee9cba5459fe"), looks := false }, kinds := [], alts := [], laidByText := true, laidKinds := [.data, .data, .data], laidTests := true, laidLooks := .later }
def VaultSidesUptoCardSaid : Prop := Claim7.holds Tryz.pinned (.plain (OpenSpec.upto vaultSidesSpec)) vaultSidesUptoCard
end Rows
end Go.Proofs.YthbbijaikcmaeaaGreatDoor
