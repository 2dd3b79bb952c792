/-
  What the rows of this seat give the walks: the two tables out of the rows' list, and a slice of bytes that came in.
-/
import Derived.Test.YtanpbceppjpblaaDoorQ0
import Derived.Test.YtanpbceppjpblaaDoorCards
import Derived.Test.YtanpbceppjpblaaDoorTie
import Derived.ProofKit
import Derived.OpenShut
import Derived.ShutString
import Derived.ChangeOld
import Derived.Below
import Derived.Deep.DeepHandedRow
import Derived.Lib.LaidTab
namespace Go.Proofs.YtanpbceppjpblaaDoor
set_option linter.unusedVariables false
open Go.RowKit Plain

theorem own : ownKnob Tryd.prog.godebug = none := by kernel_rfl
theorem laidOut : laidOutB Tryd.prog = true := by kernel_rfl
theorem gFirst : Tryd.prog.globalNamed "reliquary/digest.first" = some 0 := by kernel_rfl
theorem gRounds : Tryd.prog.globalNamed "reliquary/digest.rounds" = some 1 := by kernel_rfl
theorem tFirst : (Tryd.prog.globals[0]?).map (·.type) = some 43 := by kernel_rfl
theorem tRounds : (Tryd.prog.globals[1]?).map (·.type) = some 53 := by kernel_rfl
/-- What all six rows list. -/
def laid2 : List (String × DataW Unit) := [("reliquary/digest.first", Lib.tabData .u32 hh), ("reliquary/digest.rounds", Lib.tabData .u32 kk)]
theorem laid2_is : laid2 = [("reliquary/digest.first", Rows.laid_reliquary_digest_first), ("reliquary/digest.rounds", Rows.laid_reliquary_digest_rounds)] := rfl

theorem cell_block {w : World} {b o : Nat} {v : Value} (h : w.cell? ⟨b, o, none⟩ = some v) : b < w.heap.size := by
  apply Nat.lt_of_not_le
  intro hle
  simp [World.cell?, Array.getElem?_eq_none hle] at h
/-- The two tables, out of the rows' list. -/
theorem tabs_of_laid {W : World} (h : laidMetH Tryd.prog laid2 W) : Tabs W := by
  have h' : laidMet Tryd.prog laid2 W := h
  obtain ⟨ps, ⟨g0, t0, cs0, f0, p0, q0, hg0, ht0, hv0, hd0, ⟨g1, t1, cs1, f1, p1, q1, hg1, ht1, hv1, hd1, _, _⟩, _⟩, _, _⟩ := h'
  obtain rfl := Option.some.inj (gFirst.symm.trans hg0)
  obtain rfl := Option.some.inj (gRounds.symm.trans hg1)
  obtain rfl := Option.some.inj (tFirst.symm.trans ht0)
  obtain rfl := Option.some.inj (tRounds.symm.trans ht1)
  have e0 : Lib.TabIs Tryd.prog W "reliquary/digest.first" .u32 hh := by
    unfold Lib.TabIs
    rw [hv0, ← Lib.cells_of_tab Tryd.underlying43 Tryd.underlying42 (by kernel_rfl) (by kernel_rfl) hd0]
  have e1 : Lib.TabIs Tryd.prog W "reliquary/digest.rounds" .u32 kk := by
    unfold Lib.TabIs
    rw [hv1, ← Lib.cells_of_tab Tryd.underlying53 Tryd.underlying42 (by kernel_rfl) (by kernel_rfl) hd1]
  refine ⟨?_, fun i hi => e0.cell gFirst i hi, fun i hi => e1.cell gRounds i hi⟩
  have := cell_block (e1.cell gRounds 0 (by decide))
  omega

def putTab (cs : Array Value) : Obj → Obj
  | .cells _ t frozen => .cells cs t frozen
  | o => o
/-- A world for the witness: the settled one, the two tables holding what their initialisers lay. -/
noncomputable def laidWorld (os : Os) : World :=
  { World.holding Tryd.prog os ⟨#[], #[], []⟩ with heap := ((World.holding Tryd.prog os ⟨#[], #[], []⟩).heap.modify 0 (putTab (u32s hh))).modify 1 (putTab (u32s kk)) }

/-- A slice of integers that came in: nil, or a row of 'cap' cells, the numbers 'zs', of which the first 'len' are its elements. -/
def IsRow (k : IntKind) (w : World) (a : Option Addr) (len cap : Nat) (zs : List Int) : Prop :=
  (a = none ∧ len = 0 ∧ cap = 0 ∧ zs = []) ∨
  ∃ x, a = some x ∧ len ≤ cap ∧ cap ≤ maxLen ∧ zs.length = cap ∧ (∀ i, i < zs.length → w.cell? (x.add i) = some (.int k (zs.getD i 0))) ∧ ∀ n ∈ zs, (Lit.int k n).wf = true
theorem IsRow.cells {k : IntKind} {w : World} {a : Option Addr} {len cap : Nat} {zs : List Int} (h : IsRow k w a len cap zs) :
    (zs.take len).length = len ∧ (∀ n ∈ zs.take len, (Lit.int k n).wf = true) ∧ (0 < len → ∃ b off, a = some ⟨b, off, none⟩ ∧ b < w.heap.size ∧ ∀ i, i < len → w.cell? ⟨b, off + i, none⟩ = some (.int k ((zs.take len).getD i 0))) := by
  rcases h with ⟨rfl, rfl, rfl, rfl⟩ | ⟨⟨b, off, spot⟩, rfl, hl, hm, hz, hcell, hwz⟩
  · exact ⟨rfl, by simp, by omega⟩
  · refine ⟨by rw [List.length_take]; omega, fun n hn => hwz n (List.mem_of_mem_take hn), fun hp => ?_⟩
    have h0 := hcell 0 (by omega)
    have hspot : spot = none := by simpa [Addr.add] using World.cell?_spot h0
    subst hspot
    have hc : ∀ i, i < len → w.cell? ⟨b, off + i, none⟩ = some (.int k ((zs.take len).getD i 0)) := by
      intro i hi
      have := hcell i (by omega)
      rw [Addr.add_lit] at this
      rw [this]
      simp only [List.getD, List.getElem?_take, if_pos hi]
    exact ⟨b, off, rfl, cell_block (hc 0 hp), hc⟩
theorem IsRow.pc {w : World} {a : Option Addr} {len cap : Nat} {zs : List Int} (h : IsRow .u8 w a len cap zs) : (⟨a, len, cap, zs.take len⟩ : Pc).ok w := by
  obtain ⟨h1, h2, h3⟩ := h.cells
  refine ⟨⟨h1, fun i => ?_, h3⟩, ?_⟩
  · by_cases hi : i < (zs.take len).length
    · have := bounds_u8 (h2 _ (List.getElem_mem hi))
      have e : (zs.take len).getD i 0 = (zs.take len)[i] := by simp only [List.getD, List.getElem?_eq_getElem hi, Option.getD_some]
      rw [e]
      omega
    · simp [List.getD, List.getElem?_eq_none (Nat.le_of_not_lt hi)]
  · rcases h with ⟨_, rfl, rfl, _⟩ | ⟨_, _, q1, q2, _⟩
    · exact ⟨Nat.le_refl _, Nat.zero_le _⟩
    · unfold maxLen at q2
      exact ⟨q1, by show cap ≤ 9223372036854775807; omega⟩
theorem IsRow.len {k : IntKind} {w : World} {a : Option Addr} {len cap : Nat} {zs : List Int} (h : IsRow k w a len cap zs) : len ≤ maxLen := by
  rcases h with ⟨_, rfl, _⟩ | ⟨_, _, h1, h2, _⟩
  · exact Nat.zero_le _
  · omega
end Go.Proofs.YtanpbceppjpblaaDoor
