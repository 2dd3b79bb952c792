/-
  What slices of bytes, and of rows of bytes, that came in are told to be, and what that says of their cells.
-/
import Derived.Test.YtpdggopkalbbeaaV3
import Derived.ProofKit
import Derived.OpenShut
import Derived.ShutString
import Derived.ChangeOld
import Derived.Below
import Derived.Deep.Matrix
namespace Go.Proofs.Ytpdggopkalbbeaa
set_option linter.unusedVariables false
open Go.RowKit Plain

theorem own : ownKnob Try.prog.godebug = none := by kernel_rfl
theorem laidOut : laidOutB Try.prog = true := by kernel_rfl

/-- A slice of integers that came in: nil, or a row of 'cap' cells, the numbers 'zs', of which the first 'len' are its elements. -/
def IsRow (k : IntKind) (w : World) (a : Option Addr) (len cap : Nat) (zs : List Int) : Prop :=
  (a = none ∧ len = 0 ∧ cap = 0 ∧ zs = []) ∨
  ∃ x, a = some x ∧ len ≤ cap ∧ cap ≤ maxLen ∧ zs.length = cap ∧ (∀ i, i < zs.length → w.cell? (x.add i) = some (.int k (zs.getD i 0))) ∧ ∀ n ∈ zs, (Lit.int k n).wf = true

theorem block_lt {w : World} {b o : Nat} {v : Value} (h : w.cell? ⟨b, o, none⟩ = some v) : b < w.heap.size := by
  apply Nat.lt_of_not_le
  intro hle
  simp [World.cell?, Array.getElem?_eq_none hle] at h
theorem IsRow.len {k : IntKind} {w : World} {a : Option Addr} {len cap : Nat} {zs : List Int} (h : IsRow k w a len cap zs) : len ≤ maxLen := by
  rcases h with ⟨_, rfl, _⟩ | ⟨_, _, h1, h2, _⟩
  · exact Nat.zero_le _
  · omega
theorem IsRow.cells {k : IntKind} {w : World} {a : Option Addr} {len cap : Nat} {zs : List Int} (h : IsRow k w a len cap zs) :
    (zs.take len).length = len ∧ (∀ n ∈ zs.take len, (Lit.int k n).wf = true) ∧ (0 < len → ∃ b off, a = some ⟨b, off, none⟩ ∧ b < w.heap.size ∧ ∀ i, i < len → w.cell? ⟨b, off + i, none⟩ = some (.int k ((zs.take len).getD i 0))) := by
  rcases h with ⟨rfl, rfl, rfl, rfl⟩ | ⟨⟨b, off, spot⟩, rfl, hl, hm, hz, hcell, hwz⟩
  · exact ⟨rfl, by simp, by omega⟩
  · refine ⟨by rw [List.length_take]; omega, fun n hn => hwz n (List.mem_of_mem_take hn), fun hp => ?_⟩
    have h0 := hcell 0 (by omega)
    have hspot : spot = none := by simpa [Addr.add] using World.cell?_spot h0
    subst hspot
    have hc : ∀ i, i < len → w.cell? ⟨b, off + i, none⟩ = some (.int k ((zs.take len).getD i 0)) := by
      intro i hi
      have := hcell i (by omega)
      rw [Addr.add_lit] at this
      rw [this]
      simp only [List.getD, List.getElem?_take, if_pos hi]
    exact ⟨b, off, rfl, block_lt (hc 0 hp), hc⟩
theorem IsRow.bytes {w : World} {a : Option Addr} {len cap : Nat} {zs : List Int} (h : IsRow .u8 w a len cap zs) : Bytes w a len (zs.take len) := by
  obtain ⟨h1, h2, h3⟩ := h.cells
  refine ⟨h1, fun i => ?_, h3⟩
  by_cases hi : i < (zs.take len).length
  · have := bounds_u8 (h2 _ (List.getElem_mem hi))
    have e : (zs.take len).getD i 0 = (zs.take len)[i] := by simp only [List.getD, List.getElem?_eq_getElem hi, Option.getD_some]
    rw [e]
    omega
  · simp [List.getD, List.getElem?_eq_none (Nat.le_of_not_lt hi)]
theorem IsRow.pc {w : World} {a : Option Addr} {len cap : Nat} {zs : List Int} (h : IsRow .u8 w a len cap zs) : Bytes w a len (zs.take len) ∧ len ≤ cap ∧ cap ≤ 9223372036854775807 := by
  refine ⟨h.bytes, ?_⟩
  rcases h with ⟨_, rfl, rfl, _⟩ | ⟨_, _, h1, h2, _⟩
  · omega
  · unfold maxLen at h2; omega
/-- Slices of bytes that came in. -/
def AreRows (w : World) (a : Option Addr) (n cap : Nat) (va : Nat → Option Addr) (vl vc : Nat → Nat) (Z : Nat → List Int) : Prop :=
  (a = none ∧ n = 0 ∧ cap = 0) ∨ ∃ x, a = some x ∧ n ≤ cap ∧ cap ≤ maxLen ∧ ∀ r, r < cap → w.cell? (x.add r) = some (.slice (va r) (vl r) (vc r)) ∧ IsRow .u8 w (va r) (vl r) (vc r) (Z r)
theorem AreRows.pcs {w : World} {a : Option Addr} {n cap : Nat} {va : Nat → Option Addr} {vl vc : Nat → Nat} {Z : Nat → List Int} (h : AreRows w a n cap va vl vc Z) :
    Pcs w a n va vl vc (fun r => (Z r).take (vl r)) ∧ n ≤ 9223372036854775807 := by
  rcases h with ⟨rfl, rfl, rfl⟩ | ⟨⟨b, off, spot⟩, rfl, hl, hm, hr⟩
  · exact ⟨⟨fun h => absurd h (Nat.lt_irrefl 0), fun i hi => absurd hi (Nat.not_lt_zero i)⟩, Nat.zero_le _⟩
  · refine ⟨⟨fun hp => ?_, fun i hi => ?_⟩, by unfold maxLen at hm; omega⟩
    · have h0 := (hr 0 (by omega)).1
      have hspot : spot = none := by simpa [Addr.add] using World.cell?_spot h0
      subst hspot
      refine ⟨b, off, rfl, ?_, fun i hi => ?_⟩
      · rw [Addr.add_lit] at h0
        exact block_lt h0
      · have := (hr i (by omega)).1
        rwa [Addr.add_lit] at this
    · exact (hr i (by omega)).2.pc
end Go.Proofs.Ytpdggopkalbbeaa
