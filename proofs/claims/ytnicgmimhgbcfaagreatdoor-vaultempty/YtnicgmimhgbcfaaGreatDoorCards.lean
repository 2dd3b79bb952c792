/-
  DERIVED. GIVEN WITH THE SEED: THE CARDS: each row of YtnicgmimhgbcfaaGreatDoorRows.lean that lists a variable, with what it lists TIED to the program's text (the seventh form; the later family's looks); each row that meets fmt, with fmt's text TOLD by the authors' own Lean function (tested against real Go, not proved from fmt's source: count such statements apart). THE CARD IS WHAT COUNTS. Prove the row's statement (the work); the ties are given (YtnicgmimhgbcfaaGreatDoorTie.lean); close each card by the builder's one call (the guide's Derived/Test/ToyasCard.lean, 'card_holds'). Laid BY PROGRAM, IN A SANDBOX (cutbox-door.mjs). By AI agents, Wed Nov 11 2026. No macro, syntax, notation, axiom, sorry.
-/
import Derived.Test.YtnicgmimhgbcfaaGreatDoorRows
import GoSem.ClaimSeven
namespace Go.Proofs.YtnicgmimhgbcfaaGreatDoor
namespace Rows

/-- THE TIED CARD OF 'reliquarylaw11.VaultPlays'. -/
def vaultPlaysCard : Claim7 := { stood := { row := vaultPlaysRow, standIns := [], harness := (true, "62b8afe0447e635f4c91239734ab0ef49e372aa1aa6bd078e5443fe0bb2cc949"), looks := false }, kinds := [], alts := [], laidByText := true, laidKinds := [.data, .data, .data], laidTests := true, laidLooks := .later }
def VaultPlaysCardSaid : Prop := Claim7.holds Tryz.pinned (.plain (OpenSpec.ofChange vaultPlaysSpec)) vaultPlaysCard

/-- THE TIED CARD OF 'reliquarylaw11.VaultKeeps'. -/
def vaultKeepsCard : Claim7 := { stood := { row := vaultKeepsRow, standIns := [], harness := (true, "62b8afe0447e635f4c91239734ab0ef49e372aa1aa6bd078e5443fe0bb2cc949"), looks := false }, kinds := [], alts := [], laidByText := true, laidKinds := [.data, .data, .data], laidTests := true, laidLooks := .later }
def VaultKeepsCardSaid : Prop := Claim7.holds Tryz.pinned (.plain (OpenSpec.ofChange vaultKeepsSpec)) vaultKeepsCard

/-- THE TIED CARD OF 'reliquarylaw11.VaultOne'. -/
def vaultOneCard : Claim7 := { stood := { row := vaultOneRow, standIns := [], harness := (true, "62b8afe0447e635f4c91239734ab0ef49e372aa1aa6bd078e5443fe0bb2cc949"), looks := false }, kinds := [], alts := [], laidByText := true, laidKinds := [.data, .data, .data], laidTests := true, laidLooks := .later }
def VaultOneCardSaid : Prop := Claim7.holds Tryz.pinned (.plain (OpenSpec.ofChange vaultOneSpec)) vaultOneCard

/-- THE TIED CARD OF 'reliquarylaw11.VaultWorn'. -/
def vaultWornCard : Claim7 := { stood := { row := vaultWornRow, standIns := [], harness := (true, "62b8afe0447e635f4c91239734ab0ef49e372aa1aa6bd078e5443fe0bb2cc949"), looks := false }, kinds := [], alts := [], laidByText := true, laidKinds := [.data, .data, .data], laidTests := true, laidLooks := .later }
def VaultWornCardSaid : Prop := Claim7.holds Tryz.pinned (.plain (OpenSpec.ofChange vaultWornSpec)) vaultWornCard

/-- THE TIED CARD OF 'reliquarylaw11.VaultEmpty'. -/
def vaultEmptyCard : Claim7 := { stood := { row := vaultEmptyRow, standIns := [], harness := (true, "62b8afe0447e635f4c91239734ab0ef49e372aa1aa6bd078e5443fe0bb2cc949"), looks := false }, kinds := [], alts := [], laidByText := true, laidKinds := [.data, .data, .data], laidTests := true, laidLooks := .later }
def VaultEmptyCardSaid : Prop := Claim7.holds Tryz.pinned (.plain (OpenSpec.ofChange vaultEmptySpec)) vaultEmptyCard

/-- THE TIED CARD OF 'reliquarylaw11.VaultSides'. -/
def vaultSidesCard : Claim7 := { stood := { row := vaultSidesRow, standIns := [], harness := (true, "62b8afe0447e635f4c91239734ab0ef49e372aa1aa6bd078e5443fe0bb2cc949"), looks := false }, kinds := [], alts := [], laidByText := true, laidKinds := [.data, .data, .data], laidTests := true, laidLooks := .later }
def VaultSidesCardSaid : Prop := Claim7.holds Tryz.pinned (.plain (OpenSpec.ofChange vaultSidesSpec)) vaultSidesCard

/-- THE SECOND FORM's CARD OF 'reliquarylaw11.VaultPlays'. -/
def vaultPlaysUptoCard : Claim7 := { stood := { row := vaultPlaysUptoRow, standIns := [], harness := (true, "62b8afe0447e635f4c91239734ab0ef49e372aa1aa6bd078e5443fe0bb2cc949"), looks := false }, kinds := [], alts := [], laidByText := true, laidKinds := [.data, .data, .data], laidTests := true, laidLooks := .later }
def VaultPlaysUptoCardSaid : Prop := Claim7.holds Tryz.pinned (.plain (OpenSpec.upto vaultPlaysSpec)) vaultPlaysUptoCard

/-- THE SECOND FORM's CARD OF 'reliquarylaw11.VaultKeeps'. -/
def vaultKeepsUptoCard : Claim7 := { stood := { row := vaultKeepsUptoRow, standIns := [], harness := (true, "62b8afe0447e635f4c91239734ab0ef49e372aa1aa6bd078e5443fe0bb2cc949"), looks := false }, kinds := [], alts := [], laidByText := true, laidKinds := [.data, .data, .data], laidTests := true, laidLooks := .later }
def VaultKeepsUptoCardSaid : Prop := Claim7.holds Tryz.pinned (.plain (OpenSpec.upto vaultKeepsSpec)) vaultKeepsUptoCard

/-- THE SECOND FORM's CARD OF 'reliquarylaw11.VaultOne'. -/
def vaultOneUptoCard : Claim7 := { stood := { row := vaultOneUptoRow, standIns := [], harness := (true, "62b8afe0447e635f4c91239734ab0ef49e372aa1aa6bd078e5443fe0bb2cc949"), looks := false }, kinds := [], alts := [], laidByText := true, laidKinds := [.data, .data, .data], laidTests := true, laidLooks := .later }
def VaultOneUptoCardSaid : Prop := Claim7.holds Tryz.pinned (.plain (OpenSpec.upto vaultOneSpec)) vaultOneUptoCard

/-- THE SECOND FORM's CARD OF 'reliquarylaw11.VaultWorn'. -/
def vaultWornUptoCard : Claim7 := { stood := { row := vaultWornUptoRow, standIns := [], harness := (true, "62b8afe0447e635f4c91239734ab0ef49e372aa1aa6bd078e5443fe0bb2cc949"), looks := false }, kinds := [], alts := [], laidByText := true, laidKinds := [.data, .data, .data], laidTests := true, laidLooks := .later }
def VaultWornUptoCardSaid : Prop := Claim7.holds Tryz.pinned (.plain (OpenSpec.upto vaultWornSpec)) vaultWornUptoCard

/-- THE SECOND FORM's CARD OF 'reliquarylaw11.VaultEmpty'. -/
def vaultEmptyUptoCard : Claim7 := { stood := { row := vaultEmptyUptoRow, standIns := [], harness := (true, "62b8afe0447e635f4c91239734ab0ef49e372aa1aa6bd078e5443fe0bb2cc949"), looks := false }, kinds := [], alts := [], laidByText := true, laidKinds := [.data, .data, .data], laidTests := true, laidLooks := .later }
def VaultEmptyUptoCardSaid : Prop := Claim7.holds Tryz.pinned (.plain (OpenSpec.upto vaultEmptySpec)) vaultEmptyUptoCard

/-- THE SECOND FORM's CARD OF 'reliquarylaw11.VaultSides'. -/
def vaultSidesUptoCard : Claim7 := { stood := { row := vaultSidesUptoRow, standIns := [], harness := (true, "62b8afe0447e635f4c91239734ab0ef49e372aa1aa6bd078e5443fe0bb2cc949"), looks := false }, kinds := [], alts := [], laidByText := true, laidKinds := [.data, .data, .data], laidTests := true, laidLooks := .later }
def VaultSidesUptoCardSaid : Prop := Claim7.holds Tryz.pinned (.plain (OpenSpec.upto vaultSidesSpec)) vaultSidesUptoCard
end Rows
end Go.Proofs.YtnicgmimhgbcfaaGreatDoor
