/-
  DERIVED. GIVEN WITH THE SEED: THE CARDS: each row of YteaejodihmnbcaaDoorRows.lean that lists a variable, with what it lists TIED to the program's text (the seventh form; the later family's looks); each row that meets fmt, with fmt's text TOLD by the authors' own Lean function (tested against real Go, not proved from fmt's source: count such statements apart). THE CARD IS WHAT COUNTS. Prove the row's statement (the work); the ties are given (YteaejodihmnbcaaDoorTie.lean); close each card by the builder's one call (the guide's Derived/Test/ToyasCard.lean, 'card_holds'). Laid BY PROGRAM, IN A SANDBOX (cutbox-door.mjs). By AI agents, Wed Nov 11 2026. No macro, syntax, notation, axiom, sorry.
-/
import Derived.Test.YteaejodihmnbcaaDoorRows
import GoSem.ClaimSeven
namespace Go.Proofs.YteaejodihmnbcaaDoor
namespace Rows

/-- THE TIED CARD OF 'reliquarylaw14.ReplayLatest'. -/
def replayLatestCard : Claim7 := { stood := { row := replayLatestRow, standIns := [], harness := (true, "961e55827f80123232badc7a91ac18e208053d20fbfc79e338bd2cb65902cbe1"), looks := false }, kinds := [], alts := [], laidByText := true, laidKinds := [.data, .data, .data], laidTests := true, laidLooks := .later }
def ReplayLatestCardSaid : Prop := Claim7.holds Tryd.pinned (.plain (OpenSpec.ofChange replayLatestSpec)) replayLatestCard

/-- THE TIED CARD OF 'reliquarylaw14.ReplayBack'. -/
def replayBackCard : Claim7 := { stood := { row := replayBackRow, standIns := [], harness := (true, "961e55827f80123232badc7a91ac18e208053d20fbfc79e338bd2cb65902cbe1"), looks := false }, kinds := [], alts := [], laidByText := true, laidKinds := [.data, .data, .data], laidTests := true, laidLooks := .later }
def ReplayBackCardSaid : Prop := Claim7.holds Tryd.pinned (.plain (OpenSpec.ofChange replayBackSpec)) replayBackCard

/-- THE TIED CARD OF 'reliquarylaw14.ReplayOld'. -/
def replayOldCard : Claim7 := { stood := { row := replayOldRow, standIns := [], harness := (true, "961e55827f80123232badc7a91ac18e208053d20fbfc79e338bd2cb65902cbe1"), looks := false }, kinds := [], alts := [], laidByText := true, laidKinds := [.data, .data, .data], laidTests := true, laidLooks := .later }
def ReplayOldCardSaid : Prop := Claim7.holds Tryd.pinned (.plain (OpenSpec.ofChange replayOldSpec)) replayOldCard

/-- THE SECOND FORM's CARD OF 'reliquarylaw14.ReplayLatest'. -/
def replayLatestUptoCard : Claim7 := { stood := { row := replayLatestUptoRow, standIns := [], harness := (true, "961e55827f80123232badc7a91ac18e208053d20fbfc79e338bd2cb65902cbe1"), looks := false }, kinds := [], alts := [], laidByText := true, laidKinds := [.data, .data, .data], laidTests := true, laidLooks := .later }
def ReplayLatestUptoCardSaid : Prop := Claim7.holds Tryd.pinned (.plain (OpenSpec.upto replayLatestSpec)) replayLatestUptoCard

/-- THE SECOND FORM's CARD OF 'reliquarylaw14.ReplayBack'. -/
def replayBackUptoCard : Claim7 := { stood := { row := replayBackUptoRow, standIns := [], harness := (true, "961e55827f80123232badc7a91ac18e208053d20fbfc79e338bd2cb65902cbe1"), looks := false }, kinds := [], alts := [], laidByText := true, laidKinds := [.data, .data, .data], laidTests := true, laidLooks := .later }
def ReplayBackUptoCardSaid : Prop := Claim7.holds Tryd.pinned (.plain (OpenSpec.upto replayBackSpec)) replayBackUptoCard

/-- THE SECOND FORM's CARD OF 'reliquarylaw14.ReplayOld'. -/
def replayOldUptoCard : Claim7 := { stood := { row := replayOldUptoRow, standIns := [], harness := (true, "961e55827f80123232badc7a91ac18e208053d20fbfc79e338bd2cb65902cbe1"), looks := false }, kinds := [], alts := [], laidByText := true, laidKinds := [.data, .data, .data], laidTests := true, laidLooks := .later }
def ReplayOldUptoCardSaid : Prop := Claim7.holds Tryd.pinned (.plain (OpenSpec.upto replayOldSpec)) replayOldUptoCard
end Rows
end Go.Proofs.YteaejodihmnbcaaDoor
