/-
  No cell of these rows narrows 'for every input' (looked for: loops, veiled, ifaces, maps, wideKeys, modest, calm, conditions, laid).
  DERIVED. THE GIVEN ROWS OF THIS SEAT. 5 by the template 'for every input the law returns true; each argument reads behind the call as it read before'; 0 by the template 'total and deterministic' (their statements: YtggkapgfljdgdaaTotals.lean).
  GIVEN WITH THE SEED: the statements are not yours to turn. If you find one false, say at which input.
  Laid BY PROGRAM, IN A SANDBOX (cutbox-rows.mjs): the forced cells as the released guide's own fill.sh prints them over the translation 02d8660f193f4561… (all of the seat's roots in one cut). By AI agents, Wed Nov 11 2026. No macro, syntax, notation, axiom, sorry.
-/
import Derived.Test.YtggkapgfljdgdaaChecked
import GoSem.Claim
import GoSem.ClaimJoined
import GoSem.ClaimMapViews
import Derived.JoinedTies
import Derived.KernelRfl
namespace Go.Proofs.Ytggkapgfljdgdaa
/- THE CELL 'sum', in the pinned program and in every row, IS THE sha256 OF THE DUMP (.gsa) THAT YtggkapgfljdgdaaProg.lean LOADS. Nothing in Lean hashes anything: it is a label: what it is worth is what the hold of that sum in a sandbox is worth. -/
noncomputable def Try.pinned : Pinned := { name := "ytggkapgfljdgdaa", sum := "02d8660f193f4561170ea4993af9c71488984dc004b4e2bc7bd372ae622ea82c", checked := Try.checked }
namespace Rows
def none {H : Type} : Left H := { results := [], args := [] }

/-- 'reliquarylaw05.EqualBytes': WHATEVER THE INPUT: true; the input reads as it did. -/
def equalBytesSpec : ChangeSpec := { name := "equalBytes", fn := fun _ => fun
  | [d1, d2, d3] => { results := [.lit (.bool true)], args := [d1, d2, d3] }
  | _ => none }
def equalBytesRow : OpenClaim := { program := "ytggkapgfljdgdaa", sum := "02d8660f193f4561170ea4993af9c71488984dc004b4e2bc7bd372ae622ea82c", func := "reliquary/reliquarylaw05.EqualBytes", spec := "equalBytes", apart := false }
def EqualBytesSaid : Prop := equalBytesRow.holds Try.pinned (OpenSpec.ofChange equalBytesSpec)

/-- ITS FALSE NEIGHBOUR: 'it returns false'. Refute it at one input. -/
def equalBytesWrong : ChangeSpec := { name := "equalBytes", fn := fun _ => fun
  | [d1, d2, d3] => { results := [.lit (.bool false)], args := [d1, d2, d3] }
  | _ => none }
def EqualBytesWrongFalsely : Prop := equalBytesRow.holds Try.pinned (OpenSpec.ofChange equalBytesWrong)

/-- 'reliquarylaw05.EqualChoose': WHATEVER THE INPUT: true; the input reads as it did. -/
def equalChooseSpec : ChangeSpec := { name := "equalChoose", fn := fun _ => fun
  | [d1, d2, d3] => { results := [.lit (.bool true)], args := [d1, d2, d3] }
  | _ => none }
def equalChooseRow : OpenClaim := { program := "ytggkapgfljdgdaa", sum := "02d8660f193f4561170ea4993af9c71488984dc004b4e2bc7bd372ae622ea82c", func := "reliquary/reliquarylaw05.EqualChoose", spec := "equalChoose", apart := false }
def EqualChooseSaid : Prop := equalChooseRow.holds Try.pinned (OpenSpec.ofChange equalChooseSpec)

/-- ITS FALSE NEIGHBOUR: 'it returns false'. Refute it at one input. -/
def equalChooseWrong : ChangeSpec := { name := "equalChoose", fn := fun _ => fun
  | [d1, d2, d3] => { results := [.lit (.bool false)], args := [d1, d2, d3] }
  | _ => none }
def EqualChooseWrongFalsely : Prop := equalChooseRow.holds Try.pinned (OpenSpec.ofChange equalChooseWrong)

/-- 'reliquarylaw05.EqualTurned': WHATEVER THE INPUT: true; the input reads as it did. -/
def equalTurnedSpec : ChangeSpec := { name := "equalTurned", fn := fun _ => fun
  | [d1, d2, d3] => { results := [.lit (.bool true)], args := [d1, d2, d3] }
  | _ => none }
def equalTurnedRow : OpenClaim := { program := "ytggkapgfljdgdaa", sum := "02d8660f193f4561170ea4993af9c71488984dc004b4e2bc7bd372ae622ea82c", func := "reliquary/reliquarylaw05.EqualTurned", spec := "equalTurned", apart := false }
def EqualTurnedSaid : Prop := equalTurnedRow.holds Try.pinned (OpenSpec.ofChange equalTurnedSpec)

/-- ITS FALSE NEIGHBOUR: 'it returns false'. Refute it at one input. -/
def equalTurnedWrong : ChangeSpec := { name := "equalTurned", fn := fun _ => fun
  | [d1, d2, d3] => { results := [.lit (.bool false)], args := [d1, d2, d3] }
  | _ => none }
def EqualTurnedWrongFalsely : Prop := equalTurnedRow.holds Try.pinned (OpenSpec.ofChange equalTurnedWrong)

/-- 'reliquarylaw05.EqualFirst': WHATEVER THE INPUT: true; the input reads as it did. -/
def equalFirstSpec : ChangeSpec := { name := "equalFirst", fn := fun _ => fun
  | [d1, d2] => { results := [.lit (.bool true)], args := [d1, d2] }
  | _ => none }
def equalFirstRow : OpenClaim := { program := "ytggkapgfljdgdaa", sum := "02d8660f193f4561170ea4993af9c71488984dc004b4e2bc7bd372ae622ea82c", func := "reliquary/reliquarylaw05.EqualFirst", spec := "equalFirst", apart := false }
def EqualFirstSaid : Prop := equalFirstRow.holds Try.pinned (OpenSpec.ofChange equalFirstSpec)

/-- ITS FALSE NEIGHBOUR: 'it returns false'. Refute it at one input. -/
def equalFirstWrong : ChangeSpec := { name := "equalFirst", fn := fun _ => fun
  | [d1, d2] => { results := [.lit (.bool false)], args := [d1, d2] }
  | _ => none }
def EqualFirstWrongFalsely : Prop := equalFirstRow.holds Try.pinned (OpenSpec.ofChange equalFirstWrong)

/-- 'reliquarylaw05.EqualLong': WHATEVER THE INPUT: true; the input reads as it did. -/
def equalLongSpec : ChangeSpec := { name := "equalLong", fn := fun _ => fun
  | [d1, d2] => { results := [.lit (.bool true)], args := [d1, d2] }
  | _ => none }
def equalLongRow : OpenClaim := { program := "ytggkapgfljdgdaa", sum := "02d8660f193f4561170ea4993af9c71488984dc004b4e2bc7bd372ae622ea82c", func := "reliquary/reliquarylaw05.EqualLong", spec := "equalLong", apart := false }
def EqualLongSaid : Prop := equalLongRow.holds Try.pinned (OpenSpec.ofChange equalLongSpec)

/-- ITS FALSE NEIGHBOUR: 'it returns false'. Refute it at one input. -/
def equalLongWrong : ChangeSpec := { name := "equalLong", fn := fun _ => fun
  | [d1, d2] => { results := [.lit (.bool false)], args := [d1, d2] }
  | _ => none }
def EqualLongWrongFalsely : Prop := equalLongRow.holds Try.pinned (OpenSpec.ofChange equalLongWrong)

/- THE SECOND FORM. 'bulk': how many values and letters a reading holds, each counted each time it is reached (what is shared counts as often as it is met; a slice's spare places count too). A statement '..UptoSaid' is the law's where the arguments, and the package variables that the reading takes, are together of bulk at most 1048576: NARROWER than '..Said'. Prove '..Said' where nothing that the law and all that it calls make is longer than what came in: it says more and counts as full. Else prove '..UptoSaid'. A law counts once. -/
mutual
def uptoBulk {H : Type} : DataW H → Nat
  | .lit (.string bytes) => bytes.length + 1
  | .lit _ => 1
  | .nil => 1
  | .ptr d => uptoBulk d + 1
  | .slice elems spare => uptoBulkAll elems + uptoBulkAll spare + 1
  | .agg parts => uptoBulkAll parts + 1
  | .iface _ d => uptoBulk d + 1
  | .map entries => uptoBulkEntries entries + 1
  | .held _ => 1
def uptoBulkAll {H : Type} : List (DataW H) → Nat
  | [] => 0
  | d :: r => uptoBulk d + uptoBulkAll r
def uptoBulkEntries {H : Type} : List (Lit × DataW H) → Nat
  | [] => 0
  | x :: r => uptoBulkEntry x + uptoBulkEntries r
def uptoBulkEntry {H : Type} : Lit × DataW H → Nat
  | (.string bytes, d) => bytes.length + uptoBulk d + 1
  | (_, d) => uptoBulk d + 1
 end
def uptoSmall : (H : Type) → List (DataW H) → Bool := fun _ ds => decide (uptoBulkAll ds ≤ 1048576)
def OpenSpec.upto (s : _root_.Go.ChangeSpec) : _root_.Go.OpenSpec := { _root_.Go.OpenSpec.ofChange s with cond := some uptoSmall }

/-- 'reliquarylaw05.EqualBytes', WHERE WHAT IT READS IS OF BULK AT MOST 1048576: true; the input reads as it did. -/
def equalBytesUptoRow : OpenClaim := { program := "ytggkapgfljdgdaa", sum := "02d8660f193f4561170ea4993af9c71488984dc004b4e2bc7bd372ae622ea82c", func := "reliquary/reliquarylaw05.EqualBytes", spec := "equalBytes", apart := false, narrowed := true }
def EqualBytesUptoSaid : Prop := equalBytesUptoRow.holds Try.pinned (OpenSpec.upto equalBytesSpec)

/-- 'reliquarylaw05.EqualChoose', WHERE WHAT IT READS IS OF BULK AT MOST 1048576: true; the input reads as it did. -/
def equalChooseUptoRow : OpenClaim := { program := "ytggkapgfljdgdaa", sum := "02d8660f193f4561170ea4993af9c71488984dc004b4e2bc7bd372ae622ea82c", func := "reliquary/reliquarylaw05.EqualChoose", spec := "equalChoose", apart := false, narrowed := true }
def EqualChooseUptoSaid : Prop := equalChooseUptoRow.holds Try.pinned (OpenSpec.upto equalChooseSpec)

/-- 'reliquarylaw05.EqualTurned', WHERE WHAT IT READS IS OF BULK AT MOST 1048576: true; the input reads as it did. -/
def equalTurnedUptoRow : OpenClaim := { program := "ytggkapgfljdgdaa", sum := "02d8660f193f4561170ea4993af9c71488984dc004b4e2bc7bd372ae622ea82c", func := "reliquary/reliquarylaw05.EqualTurned", spec := "equalTurned", apart := false, narrowed := true }
def EqualTurnedUptoSaid : Prop := equalTurnedUptoRow.holds Try.pinned (OpenSpec.upto equalTurnedSpec)

/-- 'reliquarylaw05.EqualFirst', WHERE WHAT IT READS IS OF BULK AT MOST 1048576: true; the input reads as it did. -/
def equalFirstUptoRow : OpenClaim := { program := "ytggkapgfljdgdaa", sum := "02d8660f193f4561170ea4993af9c71488984dc004b4e2bc7bd372ae622ea82c", func := "reliquary/reliquarylaw05.EqualFirst", spec := "equalFirst", apart := false, narrowed := true }
def EqualFirstUptoSaid : Prop := equalFirstUptoRow.holds Try.pinned (OpenSpec.upto equalFirstSpec)

/-- 'reliquarylaw05.EqualLong', WHERE WHAT IT READS IS OF BULK AT MOST 1048576: true; the input reads as it did. -/
def equalLongUptoRow : OpenClaim := { program := "ytggkapgfljdgdaa", sum := "02d8660f193f4561170ea4993af9c71488984dc004b4e2bc7bd372ae622ea82c", func := "reliquary/reliquarylaw05.EqualLong", spec := "equalLong", apart := false, narrowed := true }
def EqualLongUptoSaid : Prop := equalLongUptoRow.holds Try.pinned (OpenSpec.upto equalLongSpec)

end Rows
end Go.Proofs.Ytggkapgfljdgdaa
