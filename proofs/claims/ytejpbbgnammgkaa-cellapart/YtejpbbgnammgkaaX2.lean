/-
  Where a cell's numbers stand (numbers of package cell).
-/
import Derived.Test.YtejpbbgnammgkaaX1
import Derived.BigRegion
namespace Go.Proofs.Ytejpbbgnammgkaa
set_option linter.unusedVariables false
open Go.RowKit Plain

/-- Where a cell's four numbers stand. -/
def four (g : Nat) : Array Value := #[.pointer (some ⟨g, 32, none⟩), .pointer (some ⟨g, 33, none⟩), .pointer (some ⟨g, 34, none⟩), .pointer (some ⟨g, 35, none⟩)]
set_option maxRecDepth 20000 in
set_option maxHeartbeats 1000000 in
theorem numbers_any (g : Nat) (w : World) : Calls Try.prog 16 #[.pointer (some ⟨g, 0, none⟩)] w fun e w' => e = .returned (.agg (four g)) ∧ Below w.heap.size w w' := by
  go_enter Try.func16, Try.ntmps16
  go_wp2
  go_region
  go_wp2
  (try simp only [Exit.inBlock, Exit.then])
  refine bodyPost_ret (results_cell_row (p := 2) (ty := 43) rfl _ _ w.heap.size 43 (four g) (0, 0) _ rfl (al_at (w := w) rfl) Try.underlying43 rfl (by kernel_rfl)) rfl ?_
  exact ⟨rfl, ((Below.refl _ w).alloc (Nat.le_refl _) _).drew⟩

/-- A keeper in block K: its cell, and how often it was put. -/
def Keeps (w : World) (K : Nat) (C : Cl) (t : Int) : Prop := w.heap[K]? = some (.cells (av C ++ #[.int .i64 t]) 50 (0, 0))
theorem Keeps.lt {w : World} {K : Nat} {C : Cl} {t : Int} (h : Keeps w K C t) : K < w.heap.size := (Array.getElem?_eq_some_iff.1 h).1
theorem Keeps.below {w w' : World} {K : Nat} {C : Cl} {t : Int} (h : Keeps w K C t) (hb : Below w.heap.size w w') : Keeps w' K C t := (hb.block K h.lt).trans h
theorem Keeps.cell {w : World} {K : Nat} {C : Cl} {t : Int} (h : Keeps w K C t) (hC : Ok C) (k : Nat) (hk : k < 68) : w.cell? ⟨K, k, none⟩ = (av C)[k]? := by
  rw [cell_of_row _ _ _ _ _ _ h, Array.getElem?_append_left (by rw [size_av hC]; exact hk)]
theorem Keeps.count {w : World} {K : Nat} {C : Cl} {t : Int} (h : Keeps w K C t) (hC : Ok C) : w.cell? ⟨K, 34 + 34, none⟩ = some (.int .i64 t) := by
  rw [cell_of_row _ _ _ _ _ _ h, Array.getElem?_append_right (by rw [size_av hC]; omega), size_av hC]
  rfl
theorem Keeps.ctr {w : World} {K : Nat} {C : Cl} {t : Int} (h : Keeps w K C t) (hC : Ok C) : w.cell? ⟨K, 33, none⟩ = some (.int .u64 C.c) := by
  rw [h.cell hC 33 (by omega)]; exact av_n hC 1 (by omega)
theorem zeroK : (Try.prog.info? 50).map (·.zero) = some (some (.agg (av zc ++ #[.int .i64 0]))) := by kernel_rfl
theorem infoK : (Try.prog.info? 50).map (·.size) = some 69 := by kernel_rfl
/-- An operation whose value and world are known. -/
theorem wpList_run {ops : Array Oper} {rest : List Oper} {o : Oper} {a : Act} {w : World} {Q : Exit → Act → World → Prop} (hg : o.guard = none) (v : Value) (w' : World) (hr : (execOp a.eval o).run Try.prog w = .ok (.value v) w') (h : wpList Try.prog ops Q rest (a.put o.dst v) w') : wpList Try.prog ops Q (o :: rest) a w :=
  wpList_plain hg fun _ hK => by unfold Oper.wp; rw [hr]; exact hK _ _ h
theorem exec_alloc {o : Oper} {ρ : Operand → Value} {w : World} (t : TypeId) (ho : o.op = .alloc t) (Z : Array Value) (hz : (Try.prog.info? t).map (·.zero) = some (some (.agg Z))) :
    (execOp ρ o).run Try.prog w = .ok (.value (.pointer (some ⟨w.heap.size, 0, none⟩))) (w.alloc (.cells Z t)) := by
  cases hq : Try.prog.info? t with
  | none => simp [hq] at hz
  | some i =>
    have hs : i.zero = some (.agg Z) := by simpa [hq] using hz
    unfold execOp
    simp [ho, Instr.alloc, zeroValue, typeInfo, hq, hs, newVar, newRow, Value.cells, Sem.run_bind]
/-- A struct built out of parts. -/
theorem exec_built {o : Oper} {ρ : Operand → Value} {w : World} (t : TypeId) (parts : List (Nat × Operand)) (ho : o.op = .build t parts.toArray) (ps : List (Nat × Value)) (hp : parts.map (fun x => (x.1, ρ x.2)) = ps) (cells : Array Value) (h : Try.prog.built t ps = some cells) :
    (execOp ρ o).run Try.prog w = .ok (.value (.agg cells)) w := by
  have h' : Try.prog.built t (parts.toArray.map fun (i, x) => (i, ρ x)).toList = some cells := by
    rw [← h, ← hp]; simp
  unfold execOp
  simp only [ho, Sem.run_bind, run_build w t _ cells h', Result.andThen_ok]
  rfl
theorem built_K : Try.prog.built 50 [] = some (av zc ++ #[.int .i64 0]) := by kernel_rfl
theorem built_C : Try.prog.built 26 [] = some (av zc) := by kernel_rfl
/-- The cells of two of the document's example. -/
def c15 : Cl := ⟨List.replicate 32 0, 0, 1, 5, 0, List.replicate 32 0⟩
def c9 : Cl := ⟨List.replicate 32 0, 0, 0, 0, 9, List.replicate 32 0⟩
theorem ok_c15 : Ok c15 := ⟨List.length_replicate, byt_zeros 32, ⟨by decide, by decide⟩, ⟨by decide, by decide⟩, ⟨by decide, by decide⟩, ⟨by decide, by decide⟩, List.length_replicate, byt_zeros 32⟩
theorem ok_c9 : Ok c9 := ⟨List.length_replicate, byt_zeros 32, ⟨by decide, by decide⟩, ⟨by decide, by decide⟩, ⟨by decide, by decide⟩, ⟨by decide, by decide⟩, List.length_replicate, byt_zeros 32⟩
theorem built_C15 : Try.prog.built 26 [(2, .int .u64 1), (3, .int .u64 5)] = some (av c15) := by kernel_rfl
theorem built_C9 : Try.prog.built 26 [(4, .int .u64 9)] = some (av c9) := by kernel_rfl
theorem But.setCells {G : Nat} : ∀ (cs : List Value) (o : Nat) {w w' : World}, But G w w' → But G w (w'.setCells G o cs)
  | [], _, _, _, h => h
  | v :: r, o, _, _, h => But.setCells r (o + 1) (h.setCell o v)
theorem setCells_row (g : Nat) (t : TypeId) : ∀ (cs : List Value) (o : Nat) (cur : List Value) (w : World), w.heap[g]? = some (.cells cur.toArray t (0, 0)) → o + cs.length ≤ cur.length → (w.setCells g o cs).heap[g]? = some (.cells (splice cur o cs).toArray t (0, 0))
  | [], o, cur, w, h, _ => by rw [splice_nil]; exact h
  | v :: r, o, cur, w, h, hl => by
    rw [World.setCells]
    have h1 := heap_setCell_same w g o _ t v h
    rw [List.setIfInBounds_toArray] at h1
    simp only [List.length_cons] at hl
    rw [setCells_row g t r (o + 1) _ _ h1 (by simp; omega)]
    congr 2
    have ho : o < cur.length := by omega
    simp only [splice, List.length_cons]
    rw [List.take_set, List.drop_set_of_lt (by omega), List.take_add_one, List.set_append]
    have hm : min o cur.length = o := by omega
    simp [ho, hm, Nat.add_assoc, Nat.add_comm 1]
theorem there_row {w : World} {g o n : Nat} {cs : Array Value} {t : TypeId} (hg : w.heap[g]? = some (.cells cs t (0, 0))) (h : o + n ≤ cs.size) : w.there g o n := by
  intro j hj
  refine ⟨?_, frozen_of_row w g _ cs t hg⟩
  rw [cell_of_row _ _ _ _ _ _ hg]
  have : o + j < cs.size := by omega
  simp [this]
theorem range_arr {w : World} {g o : Nat} {cs : Array Value} {t : TypeId} {fr : Nat × Nat} (hg : w.heap[g]? = some (.cells cs t fr)) (L : List Value) (h : ∀ j v, L[j]? = some v → cs[o + j]? = some v) : w.rangeAt g o L := by
  intro j v hv
  rw [cell_of_row _ _ _ _ _ _ hg]
  exact h j v hv
/-- The cell of a keeper is another one. -/
theorem Keeps.put {w : World} {K : Nat} {C D : Cl} {t : Int} (h : Keeps w K C t) (hC : Ok C) (hD : Ok D) : Keeps (w.setCells K 0 (av D).toList) K D t := by
  have h' : w.heap[K]? = some (.cells ((vs C ++ [Value.int .i64 t]).toArray) 50 (0, 0)) := by
    rw [h]; simp [av]
  have hl := len_vs hC
  have hl2 := len_vs hD
  have := setCells_row K 50 (vs D) 0 _ w h' (by simp [hl, hl2])
  unfold Keeps
  rw [show (av D).toList = vs D by simp [av], this]
  congr 2
  simp [av, splice, hl2, hl]
theorem Keeps.times {w : World} {K : Nat} {C : Cl} {t u : Int} (h : Keeps w K C t) (hC : Ok C) : Keeps (w.setCell ⟨K, 34 + 34, none⟩ (.int .i64 u)) K C u := by
  unfold Keeps
  rw [heap_setCell_same w K (34 + 34) _ _ _ h]
  congr 2
  have hs := size_av hC
  rw [show 34 + 34 = (av C).size by omega]
  apply Array.toList_inj.1
  simp
end Go.Proofs.Ytejpbbgnammgkaa
