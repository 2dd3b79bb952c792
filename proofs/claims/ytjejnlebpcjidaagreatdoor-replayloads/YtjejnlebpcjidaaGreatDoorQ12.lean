/-
 What the Go method Image of package disk answers: the bytes of all places, each in a row of its own.
-/
import Derived.Test.YtjejnlebpcjidaaGreatDoorQ10
set_option linter.unusedVariables false
set_option maxRecDepth 100000
set_option maxRecDepth 100000
namespace Go.Proofs.YtjejnlebpcjidaaGreatDoor.Disk.Plain
end Go.Proofs.YtjejnlebpcjidaaGreatDoor.Disk.Plain
namespace Go.Proofs.YtjejnlebpcjidaaGreatDoor.Disk
open Go.RowKit Go.Proofs.YtjejnlebpcjidaaGreatDoor.Plain Go.Proofs.YtjejnlebpcjidaaGreatDoor.Disk.Plain
end Go.Proofs.YtjejnlebpcjidaaGreatDoor.Disk
