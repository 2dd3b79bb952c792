/-
  Parts laid into an array of cells; the three keys of a file system as one row; nothing of the program is said here but the types' numbers.
-/
import Derived.Test.YtanpbceppjpblabDoorK6
import Derived.Deep.MidRow
namespace Go.Proofs.YtanpbceppjpblabDoor
set_option linter.unusedVariables false
open Go.RowKit Plain

theorem splice_set (cs : List Value) (o : Nat) (v : Value) (r : List Value) (h : o + (r.length + 1) ≤ cs.length) : splice (cs.set o v) (o + 1) r = splice cs o (v :: r) := by
  simp only [splice, List.length_cons] at *
  have ho : o < cs.length := by omega
  have hm : min o cs.length = o := by omega
  rw [List.take_set, List.drop_set_of_lt (by omega), List.take_add_one, List.set_append]
  simp [ho, hm, Nat.add_assoc, Nat.add_comm 1]
theorem fold_splice : ∀ (l : List Value) (k off : Nat) (cs : Array Value), off + k + l.length ≤ cs.size → (l.zipIdx k).foldl (fun cs x => cs.setIfInBounds (off + x.2) x.1) cs = (splice cs.toList (off + k) l).toArray
  | [], k, off, cs, h => by simp [splice]
  | v :: r, k, off, cs, h => by
    simp only [List.length_cons] at h
    rw [List.zipIdx_cons, List.foldl_cons]
    have ih := fold_splice r (k + 1) off (cs.setIfInBounds (off + k) v) (by simp; omega)
    simp only at ih ⊢
    rw [ih]
    congr 1
    have e : (cs.setIfInBounds (off + k) v).toList = cs.toList.set (off + k) v := by simp
    rw [e, show off + (k + 1) = off + k + 1 by omega]
    exact splice_set _ _ _ _ (by simp; omega)
theorem fill_step (place : Nat → Option (Nat × Nat)) (cells : Array Value) (i off size : Nat) (A : Array Value) (rest : List (Nat × Value)) (hp : place i = some (off, size)) (hA : A.size = size) (hf : off + size ≤ cells.size) :
    Instr.fill place cells ((i, .agg A) :: rest) = Instr.fill place (splice cells.toList off A.toList).toArray rest := by
  have hc : (Value.agg A).cells = A := rfl
  have h1 : ¬ (A.size ≠ size || off + A.size > cells.size) = true := by simp; omega
  rw [Instr.fill, hp]
  simp only [hc]
  rw [if_neg h1]
  congr 1
  rw [← Array.foldl_toList, Array.toList_zipIdx]
  have := fold_splice A.toList 0 off cells (by simp; omega)
  rw [Nat.add_zero] at this
  rw [← this]

theorem built96 (parts : List (Nat × Value)) : Tryd.prog.built 32 parts = Instr.fill (fun i => #[(0, 32), (32, 32), (64, 32)][i]?) (fil8 [] 96) parts := by kernel_rfl
theorem splice3 (D0 D1 D2 : List Int) (h0 : D0.length = 32) (h1 : D1.length = 32) (h2 : D2.length = 32) :
    splice (splice (splice (fil8 [] 96).toList 0 (u8s D0).toList) 32 (u8s D1).toList) 64 (u8s D2).toList = (u8s (D0 ++ D1 ++ D2)).toList := by
  have e0 := fil8_splice [] D0 96 (by simp [h0])
  have e1 := fil8_splice ([] ++ D0) D1 96 (by simp [h0, h1])
  have e2 := fil8_splice ([] ++ D0 ++ D1) D2 96 (by simp [h0, h1, h2])
  simp only [List.length_append, List.length_nil, h0, h1, Nat.zero_add] at e0 e1 e2
  have f : ∀ D : List Int, (u8s D).toList = D.map (Value.int .u8) := fun D => rfl
  rw [f D0, f D1, f D2, e0, e1, e2, fil8_full _ 96 (by simp [h0, h1, h2])]
  rfl
theorem built_keys (D0 D1 D2 : List Int) (h0 : D0.length = 32) (h1 : D1.length = 32) (h2 : D2.length = 32) :
    Tryd.prog.built 32 [(0, .agg (u8s D0)), (1, .agg (u8s D1)), (2, .agg (u8s D2))] = some (u8s (D0 ++ D1 ++ D2)) := by
  rw [built96, fill_step _ _ 0 0 32 _ _ rfl (by rw [size_u8s, h0]) (by simp [size_fil8]), fill_step _ _ 1 32 32 _ _ rfl (by rw [size_u8s, h1]) (by simp [splice, size_u8s, h0, size_fil8]), fill_step _ _ 2 64 32 _ _ rfl (by rw [size_u8s, h2]) (by simp [splice, size_u8s, h0, h1, size_fil8]), Instr.fill]
  rw [List.toList_toArray, List.toList_toArray, splice3 D0 D1 D2 h0 h1 h2]
theorem built_none : Tryd.prog.built 32 [] = some (fil8 [] 96) := by kernel_rfl
theorem there_row {w : World} {g o n : Nat} {cs : Array Value} {t : TypeId} (hg : w.heap[g]? = some (.cells cs t (0, 0))) (h : o + n ≤ cs.size) : w.there g o n := by
  intro j hj
  refine ⟨?_, frozen_of_row w g _ cs t hg⟩
  rw [cell_of_row _ _ _ _ _ _ hg]
  have : o + j < cs.size := by omega
  simp [this]
theorem range_row {w : World} {g : Nat} {X : List Int} {t : TypeId} (o : Nat) (D : List Int) (hg : w.heap[g]? = some (.cells (u8s X) t (0, 0))) (h : ∀ i, i < D.length → X[o + i]? = D[i]?) : w.rangeAt g o (D.map (Value.int .u8)) := by
  intro j v hv
  have hj : j < D.length := by simpa using (List.getElem?_eq_some_iff.1 hv).1
  rw [cell_of_row _ _ _ _ _ _ hg, ← hv]
  simp only [u8s, List.getElem?_toArray, List.getElem?_map]
  rw [h j hj]
end Go.Proofs.YtanpbceppjpblabDoor
