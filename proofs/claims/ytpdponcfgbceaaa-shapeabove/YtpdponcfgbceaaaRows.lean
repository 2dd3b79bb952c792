/-
  No cell of these rows narrows 'for every input' (looked for: loops, veiled, ifaces, maps, wideKeys, modest, calm, conditions, laid).
  DERIVED. THE GIVEN ROWS OF THIS SEAT. 5 by the template 'for every input the law returns true; each argument reads behind the call as it read before'; 0 by the template 'total and deterministic' (their statements: YtpdponcfgbceaaaTotals.lean).
  GIVEN WITH THE SEED: the statements are not yours to turn. If you find one false, say at which input.
  Laid BY PROGRAM, IN A SANDBOX (cutbox-rows.mjs): the forced cells as the released guide's own fill.sh prints them over the translation 4eece578ce6153cd… (all of the seat's roots in one cut). By AI agents, Wed Nov 11 2026. No macro, syntax, notation, axiom, sorry.
-/
import Derived.Test.YtpdponcfgbceaaaChecked
import GoSem.Claim
import GoSem.ClaimJoined
import GoSem.ClaimMapViews
import Derived.JoinedTies
import Derived.KernelRfl
namespace Go.Proofs.Ytpdponcfgbceaaa
/- THE CELL 'sum', in the pinned program and in every row, IS THE sha256 OF THE DUMP (.gsa) THAT YtpdponcfgbceaaaProg.lean LOADS. Nothing in Lean hashes anything: it is a label: what it is worth is what the hold of that sum in a sandbox is worth. -/
noncomputable def Try.pinned : Pinned := { name := "ytpdponcfgbceaaa", sum := "4eece578ce6153cd43b82e497f8728c922efdd9247de316fdb8acae6b7c180b6", checked := Try.checked }
namespace Rows
def none {H : Type} : Left H := { results := [], args := [] }

/-- 'reliquarylaw09.ShapeTells': WHATEVER THE INPUT: true; the input reads as it did. -/
def shapeTellsSpec : ChangeSpec := { name := "shapeTells", fn := fun _ => fun
  | [d1, d2, d3, d4, d5] => { results := [.lit (.bool true)], args := [d1, d2, d3, d4, d5] }
  | _ => none }
def shapeTellsRow : OpenClaim := { program := "ytpdponcfgbceaaa", sum := "4eece578ce6153cd43b82e497f8728c922efdd9247de316fdb8acae6b7c180b6", func := "reliquary/reliquarylaw09.ShapeTells", spec := "shapeTells", apart := false }
def ShapeTellsSaid : Prop := shapeTellsRow.holds Try.pinned (OpenSpec.ofChange shapeTellsSpec)

/-- ITS FALSE NEIGHBOUR: 'it returns false'. Refute it at one input. -/
def shapeTellsWrong : ChangeSpec := { name := "shapeTells", fn := fun _ => fun
  | [d1, d2, d3, d4, d5] => { results := [.lit (.bool false)], args := [d1, d2, d3, d4, d5] }
  | _ => none }
def ShapeTellsWrongFalsely : Prop := shapeTellsRow.holds Try.pinned (OpenSpec.ofChange shapeTellsWrong)

/-- 'reliquarylaw09.ShapeBack': WHATEVER THE INPUT: true; the input reads as it did. -/
def shapeBackSpec : ChangeSpec := { name := "shapeBack", fn := fun _ => fun
  | [d1, d2] => { results := [.lit (.bool true)], args := [d1, d2] }
  | _ => none }
def shapeBackRow : OpenClaim := { program := "ytpdponcfgbceaaa", sum := "4eece578ce6153cd43b82e497f8728c922efdd9247de316fdb8acae6b7c180b6", func := "reliquary/reliquarylaw09.ShapeBack", spec := "shapeBack", apart := false }
def ShapeBackSaid : Prop := shapeBackRow.holds Try.pinned (OpenSpec.ofChange shapeBackSpec)

/-- ITS FALSE NEIGHBOUR: 'it returns false'. Refute it at one input. -/
def shapeBackWrong : ChangeSpec := { name := "shapeBack", fn := fun _ => fun
  | [d1, d2] => { results := [.lit (.bool false)], args := [d1, d2] }
  | _ => none }
def ShapeBackWrongFalsely : Prop := shapeBackRow.holds Try.pinned (OpenSpec.ofChange shapeBackWrong)

/-- 'reliquarylaw09.ShapePlaces': WHATEVER THE INPUT: true; the input reads as it did. -/
def shapePlacesSpec : ChangeSpec := { name := "shapePlaces", fn := fun _ => fun
  | [d1, d2, d3] => { results := [.lit (.bool true)], args := [d1, d2, d3] }
  | _ => none }
def shapePlacesRow : OpenClaim := { program := "ytpdponcfgbceaaa", sum := "4eece578ce6153cd43b82e497f8728c922efdd9247de316fdb8acae6b7c180b6", func := "reliquary/reliquarylaw09.ShapePlaces", spec := "shapePlaces", apart := false }
def ShapePlacesSaid : Prop := shapePlacesRow.holds Try.pinned (OpenSpec.ofChange shapePlacesSpec)

/-- ITS FALSE NEIGHBOUR: 'it returns false'. Refute it at one input. -/
def shapePlacesWrong : ChangeSpec := { name := "shapePlaces", fn := fun _ => fun
  | [d1, d2, d3] => { results := [.lit (.bool false)], args := [d1, d2, d3] }
  | _ => none }
def ShapePlacesWrongFalsely : Prop := shapePlacesRow.holds Try.pinned (OpenSpec.ofChange shapePlacesWrong)

/-- 'reliquarylaw09.ShapeWidths': WHATEVER THE INPUT: true; the input reads as it did. -/
def shapeWidthsSpec : ChangeSpec := { name := "shapeWidths", fn := fun _ => fun
  | [d] => { results := [.lit (.bool true)], args := [d] }
  | _ => none }
def shapeWidthsRow : OpenClaim := { program := "ytpdponcfgbceaaa", sum := "4eece578ce6153cd43b82e497f8728c922efdd9247de316fdb8acae6b7c180b6", func := "reliquary/reliquarylaw09.ShapeWidths", spec := "shapeWidths", apart := false }
def ShapeWidthsSaid : Prop := shapeWidthsRow.holds Try.pinned (OpenSpec.ofChange shapeWidthsSpec)

/-- ITS FALSE NEIGHBOUR: 'it returns false'. Refute it at one input. -/
def shapeWidthsWrong : ChangeSpec := { name := "shapeWidths", fn := fun _ => fun
  | [d] => { results := [.lit (.bool false)], args := [d] }
  | _ => none }
def ShapeWidthsWrongFalsely : Prop := shapeWidthsRow.holds Try.pinned (OpenSpec.ofChange shapeWidthsWrong)

/-- 'reliquarylaw09.ShapeAbove': WHATEVER THE INPUT: true; the input reads as it did. -/
def shapeAboveSpec : ChangeSpec := { name := "shapeAbove", fn := fun _ => fun
  | [d] => { results := [.lit (.bool true)], args := [d] }
  | _ => none }
def shapeAboveRow : OpenClaim := { program := "ytpdponcfgbceaaa", sum := "4eece578ce6153cd43b82e497f8728c922efdd9247de316fdb8acae6b7c180b6", func := "reliquary/reliquarylaw09.ShapeAbove", spec := "shapeAbove", apart := false }
def ShapeAboveSaid : Prop := shapeAboveRow.holds Try.pinned (OpenSpec.ofChange shapeAboveSpec)

/-- ITS FALSE NEIGHBOUR: 'it returns false'. Refute it at one input. -/
def shapeAboveWrong : ChangeSpec := { name := "shapeAbove", fn := fun _ => fun
  | [d] => { results := [.lit (.bool false)], args := [d] }
  | _ => none }
def ShapeAboveWrongFalsely : Prop := shapeAboveRow.holds Try.pinned (OpenSpec.ofChange shapeAboveWrong)

/- THE SECOND FORM. 'bulk': how many values and letters a reading holds, each counted each time it is reached (what is shared counts as often as it is met; a slice's spare places count too). A statement '..UptoSaid' is the law's where the arguments, and the package variables that the reading takes, are together of bulk at most 1048576: NARROWER than '..Said'. Prove '..Said' where nothing that the law and all that it calls make is longer than what came in: it says more and counts as full. Else prove '..UptoSaid'. A law counts once. -/
mutual
def uptoBulk {H : Type} : DataW H → Nat
  | .lit (.string bytes) => bytes.length + 1
  | .lit _ => 1
  | .nil => 1
  | .ptr d => uptoBulk d + 1
  | .slice elems spare => uptoBulkAll elems + uptoBulkAll spare + 1
  | .agg parts => uptoBulkAll parts + 1
  | .iface _ d => uptoBulk d + 1
  | .map entries => uptoBulkEntries entries + 1
  | .held _ => 1
def uptoBulkAll {H : Type} : List (DataW H) → Nat
  | [] => 0
  | d :: r => uptoBulk d + uptoBulkAll r
def uptoBulkEntries {H : Type} : List (Lit × DataW H) → Nat
  | [] => 0
  | x :: r => uptoBulkEntry x + uptoBulkEntries r
def uptoBulkEntry {H : Type} : Lit × DataW H → Nat
  | (.string bytes, d) => bytes.length + uptoBulk d + 1
  | (_, d) => uptoBulk d + 1
 end
def uptoSmall : (H : Type) → List (DataW H) → Bool := fun _ ds => decide (uptoBulkAll ds ≤ 1048576)
def OpenSpec.upto (s : _root_.Go.ChangeSpec) : _root_.Go.OpenSpec := { _root_.Go.OpenSpec.ofChange s with cond := some uptoSmall }

/-- 'reliquarylaw09.ShapeTells', WHERE WHAT IT READS IS OF BULK AT MOST 1048576: true; the input reads as it did. -/
def shapeTellsUptoRow : OpenClaim := { program := "ytpdponcfgbceaaa", sum := "4eece578ce6153cd43b82e497f8728c922efdd9247de316fdb8acae6b7c180b6", func := "reliquary/reliquarylaw09.ShapeTells", spec := "shapeTells", apart := false, narrowed := true }
def ShapeTellsUptoSaid : Prop := shapeTellsUptoRow.holds Try.pinned (OpenSpec.upto shapeTellsSpec)

/-- 'reliquarylaw09.ShapeBack', WHERE WHAT IT READS IS OF BULK AT MOST 1048576: true; the input reads as it did. -/
def shapeBackUptoRow : OpenClaim := { program := "ytpdponcfgbceaaa", sum := "4eece578ce6153cd43b82e497f8728c922efdd9247de316fdb8acae6b7c180b6", func := "reliquary/reliquarylaw09.ShapeBack", spec := "shapeBack", apart := false, narrowed := true }
def ShapeBackUptoSaid : Prop := shapeBackUptoRow.holds Try.pinned (OpenSpec.upto shapeBackSpec)

/-- 'reliquarylaw09.ShapePlaces', WHERE WHAT IT READS IS OF BULK AT MOST 1048576: true; the input reads as it did. -/
def shapePlacesUptoRow : OpenClaim := { program := "ytpdponcfgbceaaa", sum := "4eece578ce6153cd43b82e497f8728c922efdd9247de316fdb8acae6b7c180b6", func := "reliquary/reliquarylaw09.ShapePlaces", spec := "shapePlaces", apart := false, narrowed := true }
def ShapePlacesUptoSaid : Prop := shapePlacesUptoRow.holds Try.pinned (OpenSpec.upto shapePlacesSpec)

/-- 'reliquarylaw09.ShapeWidths', WHERE WHAT IT READS IS OF BULK AT MOST 1048576: true; the input reads as it did. -/
def shapeWidthsUptoRow : OpenClaim := { program := "ytpdponcfgbceaaa", sum := "4eece578ce6153cd43b82e497f8728c922efdd9247de316fdb8acae6b7c180b6", func := "reliquary/reliquarylaw09.ShapeWidths", spec := "shapeWidths", apart := false, narrowed := true }
def ShapeWidthsUptoSaid : Prop := shapeWidthsUptoRow.holds Try.pinned (OpenSpec.upto shapeWidthsSpec)

/-- 'reliquarylaw09.ShapeAbove', WHERE WHAT IT READS IS OF BULK AT MOST 1048576: true; the input reads as it did. -/
def shapeAboveUptoRow : OpenClaim := { program := "ytpdponcfgbceaaa", sum := "4eece578ce6153cd43b82e497f8728c922efdd9247de316fdb8acae6b7c180b6", func := "reliquary/reliquarylaw09.ShapeAbove", spec := "shapeAbove", apart := false, narrowed := true }
def ShapeAboveUptoSaid : Prop := shapeAboveUptoRow.holds Try.pinned (OpenSpec.upto shapeAboveSpec)

end Rows
end Go.Proofs.Ytpdponcfgbceaaa
