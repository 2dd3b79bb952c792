/-
  What slices.DeleteFunc leaves: the writes to other places, in their order, in the row that they lay in. And what follows it.
-/
import Derived.Test.YthbbijaikcmaeaaGreatDoorX10
namespace Go.Proofs.YthbbijaikcmaeaaGreatDoor.Disk.Plain
set_option maxRecDepth 100000
end Go.Proofs.YthbbijaikcmaeaaGreatDoor.Disk.Plain
namespace Go.Proofs.YthbbijaikcmaeaaGreatDoor.Disk
set_option maxRecDepth 100000
set_option linter.unusedVariables false
set_option maxRecDepth 100000
open Go.RowKit Go.Proofs.YthbbijaikcmaeaaGreatDoor.Plain Go.Proofs.YthbbijaikcmaeaaGreatDoor.Disk.Plain
def clr (m : Nat) : List Value := (Builtin.zeroCells (wc (0, z192)).toArray m).toList
theorem length_clr (m : Nat) : (clr m).length = m * 193 := by
  rw [clr, Array.length_toList, size_zeroCells, List.size_toArray, length_wc _ length_z192]
theorem Dl.done {w wr : World} {g cap : Nat} {cur : Array Value} {i : Nat} {L : List (Nat × List Int)} (h : Dl w wr g cur i L.length L) (hL : Lens L) (hc : L.length ≤ cap) (hm : cap ≤ maxLen) (hs : cur.size = cap * 193) (hlt : (oth i L).length < L.length) :
    (wr.setCells g ((oth i L).length * 193) (clr (L.length - (oth i L).length))).ownsRow 0 95 193 (.slice (some ⟨g, 0, none⟩) (oth i L).length cap) (oth i L).length (wcs (oth i L)) ∧ Turned (fun k => k = g) w (wr.setCells g ((oth i L).length * 193) (clr (L.length - (oth i L).length))) ∧ wr.there g ((oth i L).length * 193) ((L.length - (oth i L).length) * 193) := by
  obtain ⟨cs, h1, h2, h3, h4⟩ := h.row
  rw [List.take_of_length_le (Nat.le_refl _)] at h3
  have hm1 : L.length * 193 ≤ cap * 193 := Nat.mul_le_mul_right _ hc
  have hsum : (oth i L).length * 193 + (L.length - (oth i L).length) * 193 = L.length * 193 := by rw [← Nat.add_mul, Nat.add_sub_cancel' (by omega)]
  have hcl : cs.toList.length = cap * 193 := by rw [Array.length_toList, h2, hs]
  have hf : (oth i L).length * 193 + (clr (L.length - (oth i L).length)).length ≤ cs.toList.length := by rw [length_clr, hcl]; omega
  have hrow := heap_setCells g _ (clr (L.length - (oth i L).length)) ((oth i L).length * 193) wr cs h1 (by rw [← Array.length_toList]; exact hf)
  refine ⟨⟨by rw [wcs_len _ (lens_oth hL)], .inr ⟨g, cap, _, rfl, Nat.zero_le _, hrow, by omega, hm, ?_, ?_⟩⟩, ?_, there_row h1 (by rw [h2, hs]; omega)⟩
  · rw [List.size_toArray, splice_len _ _ _ hf, hcl]
  · rw [List.toList_toArray]
    unfold splice
    rw [List.take_left' (by rw [List.length_take, hcl]; omega), h3]
  · have hb := but_setCells g (clr (L.length - (oth i L).length)) ((oth i L).length * 193) w wr h.but
    exact ⟨hb.os, hb.tape, hb.output, hb.size, fun k hk hn => hb.block k hk hn⟩
theorem range_below {w w' : World} {g o : Nat} {cs : List Value} (h : w.rangeAt g o cs) (hb : Below w.heap.size w w') : w'.rangeAt g o cs := fun j v hv => by
  have := h j v hv
  exact (hb.cell (p := ⟨g, o + j, none⟩) (World.block_lt_of_cell? w _ this)).trans this
theorem least {p : Nat → Prop} (n : Nat) (h : p n) : ∃ k, p k ∧ ∀ j, j < k → ¬ p j := by
  induction n using Nat.strongRecOn with
  | ind n ih =>
    by_cases hx : ∃ j, j < n ∧ p j
    · obtain ⟨j, hj, hp⟩ := hx
      exact ih j hj hp
    · exact ⟨n, h, fun j hj hp => hx ⟨j, hj, hp⟩⟩
end Go.Proofs.YthbbijaikcmaeaaGreatDoor.Disk
namespace Go.Proofs.YthbbijaikcmaeaaGreatDoor.Disk.Plain
set_option maxRecDepth 100000
end Go.Proofs.YthbbijaikcmaeaaGreatDoor.Disk.Plain
namespace Go.Proofs.YthbbijaikcmaeaaGreatDoor.Disk
set_option maxRecDepth 100000
set_option linter.unusedVariables false
open Go.RowKit Go.Proofs.YthbbijaikcmaeaaGreatDoor.Plain Go.Proofs.YthbbijaikcmaeaaGreatDoor.Disk.Plain
structure Tp (wd : World) (D P S n i : Nat) (B : List Int) (bb off : Nat) : Prop where
  c0 : wd.cell? ⟨D, 0, none⟩ = some (.slice (some ⟨P, 0, none⟩) n n)
  n0 : D ≠ P
  ci : wd.cell? ⟨S, 0, none⟩ = some (.int .i64 (i : Int))
  ni : S ≠ P
  rb : wd.rangeAt bb off (B.map (Value.int .u8))
  nb : bb ≠ P
  iz : (Tryz.prog.info? 93).map (·.size) = some (B.map (Value.int .u8)).length
  iy : (Tryz.prog.info? 93).map (·.size) = some (u8s B).size
  th : wd.there P (i * 192) (u8s B).size
theorem Tp.drew {w wd : World} {D P S n i : Nat} {B : List Int} {bb off : Nat} (h : Tp w D P S n i B bb off) (hwd : wd = w.drew) : Tp wd D P S n i B bb off := by
  subst hwd
  exact ⟨h.c0, h.n0, h.ci, h.ni, h.rb, h.nb, h.iz, h.iy, h.th⟩
end Go.Proofs.YthbbijaikcmaeaaGreatDoor.Disk
