/-
 Regions that read, and then store once: all orders of the reads by one walk; a store of many cells into the middle of a block. Nothing of the program is said here. And what follows it.
-/
import Derived.OrdersHeld
import Derived.Test.YthfobaeafapbnaaDoorQ08
set_option linter.unusedVariables false
set_option maxRecDepth 100000
namespace Go.Proofs.YthfobaeafapbnaaDoor.Disk.Plain
end Go.Proofs.YthfobaeafapbnaaDoor.Disk.Plain
namespace Go.Proofs.YthfobaeafapbnaaDoor.Disk
open Go.RowKit Go.Proofs.YthfobaeafapbnaaDoor.Plain Go.Proofs.YthfobaeafapbnaaDoor.Disk.Plain
theorem splice_cons {α : Type} (L r : List α) (v : α) (o : Nat) (h : o < L.length) : splice (L.set o v) (o + 1) r = splice L o (v :: r) := by
 unfold splice
 have e1 : (L.set o v).take (o + 1) = L.take o ++ [v] := by
  rw [List.take_add_one, List.take_set_of_le (Nat.le_refl _)]
  simp [h]
 have e2 : (L.set o v).drop (o + 1 + r.length) = L.drop (o + (v :: r).length) := by
  rw [List.drop_set_of_lt (by omega)]
  simp only [List.length_cons]
  congr 1
  omega
 rw [e1, e2]
 simp
theorem heap_setCells (b : Nat) (t : TypeId) : ∀ (vs : List Value) (o : Nat) (w : World) (cs : Array Value), w.heap[b]? = some (.cells cs t (0, 0)) -> o + vs.length <= cs.size -> (w.setCells b o vs).heap[b]? = some (.cells (splice cs.toList o vs).toArray t (0, 0))
 | [], o, w, cs, hg, hf => by
  rw [splice_nil]
  simpa [World.setCells] using hg
 | v :: r, o, w, cs, hg, hf => by
  rw [World.setCells]
  have h1 := heap_setCell_same w b o cs t v hg
  have hl : o < cs.size := by simp only [List.length_cons] at hf; omega
  rw [heap_setCells b t r (o + 1) _ _ h1 (by simp only [List.length_cons] at hf; simp; omega)]
  rw [Array.toList_setIfInBounds, splice_cons _ _ _ _ (by simpa using hl)]
theorem heap_setCells_other (b k : Nat) (hk : k ≠ b) : ∀ (vs : List Value) (o : Nat) (w : World), (w.setCells b o vs).heap[k]? = w.heap[k]?
 | [], o, w => rfl
 | v :: r, o, w => by
  rw [World.setCells, heap_setCells_other b k hk r (o + 1), heap_setCell_other w ⟨b, o, none⟩ k _ hk]
theorem but_setCells (b : Nat) : ∀ (vs : List Value) (o : Nat) (w0 w : World), But b w0 w -> But b w0 (w.setCells b o vs)
 | [], o, w0, w, h => h
 | v :: r, o, w0, w, h => by
  rw [World.setCells]
  exact but_setCells b r (o + 1) w0 _ (h.setCell o v)
theorem there_row {w : World} {g o n : Nat} {cs : Array Value} {t : TypeId} (hg : w.heap[g]? = some (.cells cs t (0, 0))) (h : o + n <= cs.size) : w.there g o n := by
 intro j hj
 refine ⟨?_, frozen_of_row w g _ cs t hg⟩
 rw [cell_of_row _ _ _ _ _ _ hg]
 have : o + j < cs.size := by omega
 simp [this]
theorem splice_all {α : Type} (L vs : List α) (h : L.length = vs.length) : splice L 0 vs = vs := by simp [splice, h]
theorem but_cell {G : Nat} {w w' : World} (h : But G w w') {a : Addr} {v : Value} (hc : w.cell? a = some v) (hn : a.block ≠ G) : w'.cell? a = some v :=
 (World.cell?_of_block (h.block a.block (World.block_lt_of_cell? w a hc) hn)).trans hc
theorem but_range {G : Nat} {w w' : World} (h : But G w w') {b o : Nat} {cs : List Value} (hc : w.rangeAt b o cs) (hn : b ≠ G) : w'.rangeAt b o cs := fun j v hv => but_cell h (hc j v hv) hn
theorem exec_load1 {P : Program} {o : Oper} {ρ : Operand -> Value} {w' : World} (t : TypeId) (d : TypeDesc) (x : Operand) (ho : o.op = .load t x) (hu : P.underlying t = some d) (hd : d.isRow = false) (ad : Addr) (hx : ρ x = .pointer (some ad)) (v : Value) (hc : w'.cell? ad = some v) :
  (execOp ρ o).run P w' = .ok (.value v) w' := by
 have hagg : (isAgg t).run P w' = .ok false w' := by
  unfold isAgg
  rw [Sem.run_bind, run_underlying hu w']
  cases d <;> simp_all
 unfold execOp
 simp [ho, hx, Instr.loadAt, Instr.sureAddr, loadVar, Sem.run_bind, hagg, load, Sem.run, hc]
theorem exec_load_mid {P : Program} {o : Oper} {ρ : Operand -> Value} {w' : World} (t : TypeId) (d : TypeDesc) (x : Operand) (ho : o.op = .load t x) (hu : P.underlying t = some d) (hd : d.isRow = true) (b off : Nat) (hx : ρ x = .pointer (some ⟨b, off, none⟩)) (cs : List Value) (hi : (P.info? t).map (·.size) = some cs.length) (hc : w'.rangeAt b off cs) :
  (execOp ρ o).run P w' = .ok (.value (.agg cs.toArray)) w' := by
 unfold execOp
 simp only [ho, hx, Instr.loadAt, Instr.sureAddr, Sem.run_bind, Sem.run_pure, Result.andThen_ok, run_loadVar_mid w' b off t cs d hc hu hd hi]
section
variable {P : Program} {md : Region.Mode} {ops : Array Oper} {Q : Exit -> Act -> World -> Prop}
theorem begin_but (R : Nat) {id : Nat} {a : Act} {w : World} (hm : P.follows .mixedOrders = true) (h : ∀ wd, wd = w.drew -> wpAnyH P .any ops Q (But R wd) ops.size (Array.replicate ops.size false) a wd) : (Code.region id ops true).wp P Q a w :=
 wp_region_held (S := But R w.drew) hm (h _ rfl)
theorem take_but {R : Nat} {i : Nat} {oi : Oper} {v : Value} {fuel : Nat} {listed : Array Bool} {a : Act} {w : World} (hi : ops[i]? = some oi)
  (hs : Region.noSelect ops = true) (hf : Region.free md ops listed i = true) (hr : (Region.ready md ops listed).contains i = true)
  (hQ : ∀ c a w, Q (.panic c) (a.put oi.dst v) w -> Q (.panic c) a w) (hw : Region.wanted oi (yielded ops a.tmps) = true)
  (hv : ∀ w', But R w w' -> (execOp a.eval oi).run P w' = .ok (.value v) w')
  (h : wpAnyH P md ops Q (But R w) fuel (listed.setIfInBounds i true) (a.put oi.dst v) w) : wpAnyH P md ops Q (But R w) (fuel + 1) listed a w :=
 wpAnyH_take hi hs hf hr hQ (Or.inl ⟨hw, hv⟩) (But.refl _ _) h
theorem last_but {R : Nat} {i : Nat} {o : Oper} {fuel : Nat} {listed : Array Bool} {a : Act} {w : World} (ho : ops[i]? = some o) (hr : Region.ready md ops listed = [i]) (hw : Region.wanted o (yielded ops a.tmps) = true) (hd : Region.ready md ops (listed.setIfInBounds i true) = [])
  (t : TypeId) (x y : Operand) (hop : o.op = .store t x y) (off : Nat) (cells : Array Value) (hx : a.eval x = .pointer (some ⟨R, off, none⟩)) (hy : a.eval y = .agg cells) (ht : w.there R off cells.size) (hi : (P.info? t).map (·.size) = some cells.size) (h1 : cells.all (·.oneCell') = true)
  (h : Q .normal (a.put o.dst undef) (w.setCells R off cells.toList)) : wpAnyH P md ops Q (But R w) (fuel + 1) listed a w := by
 refine wpAnyH_all hr (by simp) (fun j hj => ?_)
 simp only [List.mem_cons, List.not_mem_nil, or_false] at hj
 subst hj
 unfold wpOp
 simp only [ho, hw, if_true]
 exact .inl (wp_store_mid t x y hop R off cells hx hy ht hi h1 ⟨but_setCells _ _ _ _ _ (But.refl _ _), wpAnyH_done hd h _⟩)
end
end Go.Proofs.YthfobaeafapbnaaDoor.Disk
namespace Go.Proofs.YthfobaeafapbnaaDoor.Disk.Plain
end Go.Proofs.YthfobaeafapbnaaDoor.Disk.Plain
namespace Go.Proofs.YthfobaeafapbnaaDoor.Disk
open Go.RowKit Go.Shelf Go.Proofs.YthfobaeafapbnaaDoor.Plain Go.Proofs.YthfobaeafapbnaaDoor.Disk.Plain
attribute [local go_sem] Oper.semAt_some
def lastOf (L : List (Nat × List Int)) (i : Nat) : Option (List Int) := (L.reverse.find? (fun x => x.1 == i)).map (·.2)
theorem At.ways {w : World} {D P : Nat} {a : Option Addr} {cap : Nat} {ov : Value} {d : Dk} (h : At w D P (.slice a d.uw.length cap) ov d) : Ways w.heap.size w a d.uw := by
 intro h0
 rcases h.hu.2 with ⟨h1, h2⟩ | ⟨g, cap', cur, h1, hb, hg, _⟩
 ·omega
 ·simp only [Value.slice.injEq, true_and] at h1
  obtain ⟨rfl, rfl⟩ := h1
  refine ⟨g, rfl, (Array.getElem?_eq_some_iff.1 hg).1, fun k hk j v hv => ?_⟩
  have hj : j < 193 := by
   have := (List.getElem?_eq_some_iff.1 hv).1
   rw [length_wc _ (h.huw _ (List.getElem_mem hk)).2.1] at this
   exact this
  have := h.hu.cells (g := g) rfl (193 * k + j) v (by
   rw [wcs, flat_at _ 193 h.huw.all k (by simpa using hk) j hj]
   simpa using hv)
  rw [Addr.add_lit, Nat.zero_add, Nat.mul_comm] at this
  exact this
theorem cell_al {w : World} {a : Addr} {v : Value} (o : Obj) (h : w.cell? a = some v) : (w.alloc o).cell? a = some v := by
 rw [World.cell?_alloc_lt _ _ _ (World.block_lt_of_cell? w _ h)]
 exact h
theorem laid_new (W : World) (Z : Array Value) (t : TypeId) (vs : List Value) (hz : Z.size = vs.length) :
  Below W.heap.size W ((W.alloc (.cells Z t)).setCells W.heap.size 0 vs) /\ KeepsOthers W ((W.alloc (.cells Z t)).setCells W.heap.size 0 vs) /\ ((W.alloc (.cells Z t)).setCells W.heap.size 0 vs).heap[W.heap.size]? = some (.cells vs.toArray t (0, 0)) := by
 have hb := but_setCells W.heap.size vs 0 _ _ (But.of_below (G := W.heap.size) ((Below.refl W.heap.size W).alloc (Nat.le_refl _) (.cells Z t)))
 have h := heap_setCells W.heap.size t vs 0 (W.alloc (.cells Z t)) Z (al_at rfl) (by omega)
 rw [splice_all _ _ (by simpa using hz)] at h
 refine ⟨⟨hb.os, hb.tape, hb.output, hb.size, fun k hk => hb.block k hk (by omega)⟩, ⟨hb.size, fun k o hk ho => ?_⟩, h⟩
 have hlt := (Array.getElem?_eq_some_iff.1 hk).1
 exact (hb.block k hlt (by omega)).trans hk
theorem range_wc {W : World} {B : Nat} {p : Nat} {b : List Int} {t : TypeId} (h : W.heap[B]? = some (.cells (wc (p, b)).toArray t (0, 0))) : W.cell? ⟨B, 0, none⟩ = some (.int .i64 (p : Int)) /\ W.rangeAt B 1 (b.map (Value.int .u8)) := by
 refine ⟨by rw [cell_of_row _ _ _ _ _ _ h]; rfl, fun j v hv => ?_⟩
 rw [cell_of_row _ _ _ _ _ _ h]
 simpa [wc, Nat.add_comm 1 j] using hv
theorem pls_range {W : World} {P n i : Nat} {cs : Array Value} {pl : Nat -> List Int} {t : TypeId} (hP : W.heap[P]? = some (.cells cs t (0, 0))) (h : Pls cs n pl) (hi : i < n) (hl : (pl i).length = 192) : W.rangeAt P (i * 192) ((pl i).map (Value.int .u8)) := fun j v hv => by
 have hj : j < 192 := by
  have := (List.getElem?_eq_some_iff.1 hv).1
  rw [List.length_map, hl] at this
  exact this
 rw [cell_of_row _ _ _ _ _ _ hP, Nat.mul_comm, h.2 i hi j hj, <- hv]
 simp [List.getD, show j < (pl i).length by omega]
end Go.Proofs.YthfobaeafapbnaaDoor.Disk
namespace Go.Proofs.YthfobaeafapbnaaDoor.Disk.Plain
end Go.Proofs.YthfobaeafapbnaaDoor.Disk.Plain
namespace Go.Proofs.YthfobaeafapbnaaDoor.Disk
open Go.RowKit Go.Proofs.YthfobaeafapbnaaDoor.Plain Go.Proofs.YthfobaeafapbnaaDoor.Disk.Plain
theorem At.nx {w w' : World} {D P : Nat} {uv ov uv' ov' : Value} {d' : Dk} {fp : Nat -> Prop} (h2 : ∀ k, foot D P uv ov k -> fp k) (i1 : At w' D P uv' ov' d') (t1 : Turned (foot D P uv ov) w w') (s1 : ∀ k, foot D P uv' ov' k -> foot D P uv ov k ∨ w.heap.size <= k) : Nx D fp w w' d' :=
 ⟨foot D P uv' ov', ⟨P, uv', ov', i1, fun _ hk => hk⟩, ⟨t1.os, t1.tape, t1.output, t1.size, fun k hk hn => t1.block k hk (fun hf => hn (h2 k hf))⟩, fun k hk => (s1 k hk).imp (h2 k) id⟩
def rdOk (d : Dk) (i : Int) : Dk := { d with ops := d.ops ++ [(1, i)] }
end Go.Proofs.YthfobaeafapbnaaDoor.Disk
