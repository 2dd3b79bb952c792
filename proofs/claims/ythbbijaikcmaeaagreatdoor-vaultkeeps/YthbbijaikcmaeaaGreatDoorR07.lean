/-
  What slices.Backward's function hands on, one write under way after another, from the last one on. And what follows it.
-/
import Derived.RangeFuncNested
import Derived.RangeFuncBound
import Derived.RangeFuncCalls
import Derived.RangeFuncLeaves
import Derived.Shelf.Abstract
import Derived.Shelf.RegionOpen
import Derived.OwnWalkIn
import Derived.TacticsInMore
import Derived.LoopNIn
import Derived.LoopIn
import Derived.Test.YthbbijaikcmaeaaGreatDoorR06
import Derived.OrdersHeld
namespace Go.Proofs.YthbbijaikcmaeaaGreatDoor.Disk.Plain
set_option maxRecDepth 100000
end Go.Proofs.YthbbijaikcmaeaaGreatDoor.Disk.Plain
namespace Go.Proofs.YthbbijaikcmaeaaGreatDoor.Disk
set_option maxRecDepth 100000
set_option linter.unusedVariables false
set_option maxRecDepth 100000
open Go.RowKit Go.Shelf Go.Proofs.YthbbijaikcmaeaaGreatDoor.Plain Go.Proofs.YthbbijaikcmaeaaGreatDoor.Disk.Plain
attribute [local go_sem] Oper.semAt_some
/-- A write under way, with its number. -/
structure Wr where
  k : Nat
  p : Nat
  b : List Int
  hb : b.length = 192
def Wr.enc (x : Wr) : Array Value := #[.int .i64 (x.k : Int), .agg (wc (x.p, x.b)).toArray]
def Lens (L : List (Nat × List Int)) : Prop := ∀ x ∈ L, x.2.length = 192
def itm (L : List (Nat × List Int)) (hL : Lens L) (k : Nat) : Wr := if h : k < L.length then ⟨k, L[k].1, L[k].2, hL _ (List.getElem_mem h)⟩ else ⟨0, 0, z192, length_z192⟩
/-- What has come behind so many rounds. -/
def came (L : List (Nat × List Int)) (hL : Lens L) (j : Nat) : List Wr := (List.range j).map (fun t => itm L hL (L.length - 1 - t))
theorem came_succ (L : List (Nat × List Int)) (hL : Lens L) (j : Nat) : came L hL (j + 1) = came L hL j ++ [itm L hL (L.length - 1 - j)] := by simp [came, List.range_succ]
theorem came_length (L : List (Nat × List Int)) (hL : Lens L) (j : Nat) : (came L hL j).length = j := by simp [came]
/-- Writes in memory, where a slice says. -/
def Ways (n₀ : Nat) (W : World) (a : Option Addr) (L : List (Nat × List Int)) : Prop := 0 < L.length → ∃ b, a = some ⟨b, 0, none⟩ ∧ b < n₀ ∧ ∀ k (h : k < L.length), W.rangeAt b (k * 193) (wc L[k])
theorem Ways.below {n₀ : Nat} {A B : World} {a : Option Addr} {L : List (Nat × List Int)} (h : Ways n₀ A a L) (hb : Below n₀ A B) : Ways n₀ B a L := fun h0 => by
  obtain ⟨b, e, h1, h2⟩ := h h0
  exact ⟨b, e, h1, fun k hk j v hv => (hb.cell (p := ⟨b, k * 193 + j, none⟩) h1).trans (h2 k hk j v hv)⟩
theorem wpListIn_load2 {F : Fence} {n : Nat} {P : Program} {ops : Array Oper} {rest : List Oper} {op : Oper} {a : Act} {w : World} {Q : Exit → Act → World → Prop} (hgd : op.guard = none) (ty : TypeId) (x : Operand) (ho : op.op = .load ty x)
    (b o : Nat) (hx : a.eval x = .pointer (some ⟨b, o, none⟩)) (cs : List Value) (d : TypeDesc) (hc : w.rangeAt b o cs)
    (hu : P.underlying ty = some d) (hd : d.isRow = true) (hi : (P.info? ty).map (·.size) = some cs.length)
    (h : wpListIn F n P ops Q rest (a.put op.dst (.agg cs.toArray)) w) : wpListIn F n P ops Q (op :: rest) a w := by
  refine wpListIn_plain hgd fun K hK' => ?_
  unfold Oper.wpIn
  refine ⟨?_, ?_⟩
  · simp [Oper.about, ho]
  · rw [Oper.semAt_plain F _ _ (by rw [ho]; intro c hc'; cases hc')]
    unfold execOp
    simp only [ho, hx, Instr.loadAt, Instr.sureAddr, Sem.run_bind, Sem.run_pure, Result.andThen_ok, run_loadVar_mid w b o ty cs d hc hu hd hi]
    exact hK' _ _ h
set_option maxRecDepth 100000 in
set_option maxHeartbeats 2000000 in
theorem back1_in (F : Fence) (n : Nat) (h7 : F.fn 122) (hro : F.round = none) (hn : 1 ≤ n) (l Bs n₀ cap : Nat) (a : Option Addr) (L : List (Nat × List Int)) (hL : Lens L) (hreach : L.length < 1000000000) (J Jx : List Wr → World → Prop)
    (hY : ∀ pre x W, J pre W → pre.length < L.length → YieldAt F (n - 1) Tryz.prog l (Wr.enc x) W fun e W' =>
      (e = .returned (.bool true) ∧ J (pre ++ [x]) W' ∧ Below n₀ W W') ∨ (e = .returned (.bool false) ∧ Jx (pre ++ [x]) W'))
    (W : World) (hlt : Bs < n₀) (hBs : W.cell? ⟨Bs, 0, none⟩ = some (.slice a L.length cap)) (hc : Ways n₀ W a L) (h0 : J [] W) :
    CallsIn F n Tryz.prog 122 #[.func (.yield l) #[] #[], .pointer (some ⟨Bs, 0, none⟩)] W fun e W' => (∃ v, e = .returned v) ∧
      ((∃ ys, ys = came L hL L.length ∧ J ys W') ∨ (∃ pre, (∃ k, k ≤ L.length ∧ pre = came L hL k) ∧ Jx pre W')) := by
  refine callsIn_of_wp Tryz.func122 rfl h7 ?_ hro
  simp only [Tryz.ntmps122, List.size_toArray, List.length_cons, List.length_nil, Nat.reduceAdd, Nat.reduceSub, Array.replicate_succ, Array.replicate_zero, List.push_toArray, List.append_toArray, List.nil_append, List.cons_append]
  have hw1 : IntKind.i64.wrap ((L.length : Int) - 1) = (L.length : Int) - 1 := by rw [IntKind.wrap_i64]; omega
  gi_wp2
  gi_loopw [3] (fun i wr => ∃ k : Nat, k ≤ L.length ∧ i = .int .i64 ((L.length : Int) - 1 - k) ∧ J (came L hL k) wr ∧ Below n₀ W wr)
    (fun i _ => (intOf i + 1).toNat)
  case atStart => exact ⟨0, Nat.zero_le _, by simp, h0, Below.refl _ _⟩
  case round =>
    obtain ⟨k, hk, rfl, hJs, hnx⟩ := hrel
    have hBs' : wr.cell? ⟨Bs, 0, none⟩ = some (.slice a L.length cap) := (hnx.cell (p := ⟨Bs, 0, none⟩) hlt).trans hBs
    by_cases hlt2 : k < L.length
    · obtain ⟨b, rfl, hb, hr⟩ := hc.below hnx (by omega)
      obtain ⟨fn, tmps, assign, body, hy, hR⟩ := hY _ (itm L hL (L.length - 1 - k)) wr hJs (by rw [came_length]; exact hlt2)
      have hq : L.length - 1 - k < L.length := by omega
      have hr' := hr _ hq
      have he : itm L hL (L.length - 1 - k) = ⟨L.length - 1 - k, L[L.length - 1 - k].1, L[L.length - 1 - k].2, hL _ (List.getElem_mem hq)⟩ := by simp [itm, hq]
      rw [he] at hy
      simp only [Wr.enc] at hy
      have hlen : (wc L[L.length - 1 - k]).length = 193 := length_wc _ (hL _ (List.getElem_mem hq))
      rw [show ((L.length : Int) - 1 - k) = ((L.length - 1 - k : Nat) : Int) by omega]
      have hK : L.length - 1 - k = L.length - (k + 1) := by omega
      have HR : Box (∀ e W', (e = Ending.returned (.bool true) ∧ J (came L hL k ++ [itm L hL (L.length - 1 - k)]) W' ∧ Below n₀ wr W' ∨ e = Ending.returned (.bool false) ∧ Jx (came L hL k ++ [itm L hL (L.length - 1 - k)]) W') → (e = Ending.returned (.bool true) ∧ J (came L hL (k + 1)) W' ∧ Below n₀ W W') ∨ (e = Ending.returned (.bool false) ∧ Jx (came L hL (k + 1)) W')) := ⟨fun e W' h => by
        rw [came_succ]
        exact h.imp (fun h => ⟨h.1, h.2.1, hnx.trans h.2.2⟩) id⟩
      have hqe : Box (L.length - 1 - k + k + 1 = L.length) := ⟨by omega⟩
      have hr2 : Box (wr.rangeAt b ((L.length - 1 - k) * 193) (wc L[L.length - 1 - k])) := ⟨hr'⟩
      have hy2 : (Instr.yield l #[Value.int .i64 ((L.length - 1 - k : Nat) : Int), .agg (wc L[L.length - 1 - k]).toArray]).run Tryz.prog wr = .ok (.round l fn tmps assign body) wr := hy
      have hi : (Tryz.prog.info? 95).map (·.size) = some (wc L[L.length - 1 - k]).length := by rw [hlen]; exact info84
      have hR2 := hR.mono HR.out
      have hw2 : IntKind.i64.wrap (((L.length - 1 - k : Nat) : Int) - 1) = ((L.length - 1 - k : Nat) : Int) - 1 := by rw [IntKind.wrap_i64]; omega
      clear hr hr' hc hY hy hR HR he hlen hnx hJs hBs h0 hlt2 hK
      generalize L[L.length - 1 - k] = x at hy2 hr2 hi
      generalize L.length - 1 - k = q at *
      gi_wp2_with (refine wpListIn_load2 rfl 95 _ rfl b (q * 193) rfl (wc x) _ hr2.out Tryz.underlying95 rfl hi ?_)
      refine hR2.mono ?_
      rintro e W3 (⟨rfl, hJ3, hk3⟩ | ⟨rfl, hJx3⟩)
      · gi_wp2
        go_roundw
        case rel => exact ⟨k + 1, by have := hqe.out; omega, by have := hqe.out; congr 1; omega, hJ3, hk3⟩
        case measure => simp [intOf]
      · gi_wp2
        refine bodyPost_ret (results_none rfl _ _ _) rfl ?_
        exact ⟨⟨_, rfl⟩, .inr ⟨_, ⟨k + 1, by have := hqe.out; omega, rfl⟩, hJx3⟩⟩
    · obtain rfl : k = L.length := by omega
      have hneg : decide (0 ≤ (L.length : Int) - 1 - L.length) = false := by simp; omega
      gi_wp2
      go_end0
      exact ⟨⟨_, rfl⟩, .inl ⟨_, rfl, hJs⟩⟩
end Go.Proofs.YthbbijaikcmaeaaGreatDoor.Disk
namespace Go.Proofs.YthbbijaikcmaeaaGreatDoor.Disk.Plain
set_option maxRecDepth 100000
end Go.Proofs.YthbbijaikcmaeaaGreatDoor.Disk.Plain
namespace Go.Proofs.YthbbijaikcmaeaaGreatDoor.Disk
set_option maxRecDepth 100000
set_option linter.unusedVariables false
open Go.RowKit Go.Proofs.YthbbijaikcmaeaaGreatDoor.Plain Go.Proofs.YthbbijaikcmaeaaGreatDoor.Disk.Plain
theorem splice_cons {α : Type} (L r : List α) (v : α) (o : Nat) (h : o < L.length) : splice (L.set o v) (o + 1) r = splice L o (v :: r) := by
  unfold splice
  have e1 : (L.set o v).take (o + 1) = L.take o ++ [v] := by
    rw [List.take_add_one, List.take_set_of_le (Nat.le_refl _)]
    simp [h]
  have e2 : (L.set o v).drop (o + 1 + r.length) = L.drop (o + (v :: r).length) := by
    rw [List.drop_set_of_lt (by omega)]
    simp only [List.length_cons]
    congr 1
    omega
  rw [e1, e2]
  simp
theorem heap_setCells (b : Nat) (t : TypeId) : ∀ (vs : List Value) (o : Nat) (w : World) (cs : Array Value), w.heap[b]? = some (.cells cs t (0, 0)) → o + vs.length ≤ cs.size → (w.setCells b o vs).heap[b]? = some (.cells (splice cs.toList o vs).toArray t (0, 0))
  | [], o, w, cs, hg, hf => by
    rw [splice_nil]
    simpa [World.setCells] using hg
  | v :: r, o, w, cs, hg, hf => by
    rw [World.setCells]
    have h1 := heap_setCell_same w b o cs t v hg
    have hl : o < cs.size := by simp only [List.length_cons] at hf; omega
    rw [heap_setCells b t r (o + 1) _ _ h1 (by simp only [List.length_cons] at hf; simp; omega)]
    rw [Array.toList_setIfInBounds, splice_cons _ _ _ _ (by simpa using hl)]
theorem heap_setCells_other (b k : Nat) (hk : k ≠ b) : ∀ (vs : List Value) (o : Nat) (w : World), (w.setCells b o vs).heap[k]? = w.heap[k]?
  | [], o, w => rfl
  | v :: r, o, w => by
    rw [World.setCells, heap_setCells_other b k hk r (o + 1), heap_setCell_other w ⟨b, o, none⟩ k _ hk]
theorem but_setCells (b : Nat) : ∀ (vs : List Value) (o : Nat) (w0 w : World), But b w0 w → But b w0 (w.setCells b o vs)
  | [], o, w0, w, h => h
  | v :: r, o, w0, w, h => by
    rw [World.setCells]
    exact but_setCells b r (o + 1) w0 _ (h.setCell o v)
theorem there_row {w : World} {g o n : Nat} {cs : Array Value} {t : TypeId} (hg : w.heap[g]? = some (.cells cs t (0, 0))) (h : o + n ≤ cs.size) : w.there g o n := by
  intro j hj
  refine ⟨?_, frozen_of_row w g _ cs t hg⟩
  rw [cell_of_row _ _ _ _ _ _ hg]
  have : o + j < cs.size := by omega
  simp [this]
theorem splice_all {α : Type} (L vs : List α) (h : L.length = vs.length) : splice L 0 vs = vs := by simp [splice, h]
theorem but_cell {G : Nat} {w w' : World} (h : But G w w') {a : Addr} {v : Value} (hc : w.cell? a = some v) (hn : a.block ≠ G) : w'.cell? a = some v :=
  (World.cell?_of_block (h.block a.block (World.block_lt_of_cell? w a hc) hn)).trans hc
theorem but_range {G : Nat} {w w' : World} (h : But G w w') {b o : Nat} {cs : List Value} (hc : w.rangeAt b o cs) (hn : b ≠ G) : w'.rangeAt b o cs := fun j v hv => but_cell h (hc j v hv) hn
theorem exec_load1 {P : Program} {o : Oper} {ρ : Operand → Value} {w' : World} (t : TypeId) (d : TypeDesc) (x : Operand) (ho : o.op = .load t x) (hu : P.underlying t = some d) (hd : d.isRow = false) (ad : Addr) (hx : ρ x = .pointer (some ad)) (v : Value) (hc : w'.cell? ad = some v) :
    (execOp ρ o).run P w' = .ok (.value v) w' := by
  have hagg : (isAgg t).run P w' = .ok false w' := by
    unfold isAgg
    rw [Sem.run_bind, run_underlying hu w']
    cases d <;> simp_all
  unfold execOp
  simp [ho, hx, Instr.loadAt, Instr.sureAddr, loadVar, Sem.run_bind, hagg, load, Sem.run, hc]
theorem exec_load_mid {P : Program} {o : Oper} {ρ : Operand → Value} {w' : World} (t : TypeId) (d : TypeDesc) (x : Operand) (ho : o.op = .load t x) (hu : P.underlying t = some d) (hd : d.isRow = true) (b off : Nat) (hx : ρ x = .pointer (some ⟨b, off, none⟩)) (cs : List Value) (hi : (P.info? t).map (·.size) = some cs.length) (hc : w'.rangeAt b off cs) :
    (execOp ρ o).run P w' = .ok (.value (.agg cs.toArray)) w' := by
  unfold execOp
  simp only [ho, hx, Instr.loadAt, Instr.sureAddr, Sem.run_bind, Sem.run_pure, Result.andThen_ok, run_loadVar_mid w' b off t cs d hc hu hd hi]
section
variable {P : Program} {md : Region.Mode} {ops : Array Oper} {Q : Exit → Act → World → Prop}
theorem begin_but (R : Nat) {id : Nat} {a : Act} {w : World} (hm : P.follows .mixedOrders = true) (h : ∀ wd, wd = w.drew → wpAnyH P .any ops Q (But R wd) ops.size (Array.replicate ops.size false) a wd) : (Code.region id ops true).wp P Q a w :=
  wp_region_held (S := But R w.drew) hm (h _ rfl)
theorem take_but {R : Nat} {i : Nat} {oi : Oper} {v : Value} {fuel : Nat} {listed : Array Bool} {a : Act} {w : World} (hi : ops[i]? = some oi)
    (hs : Region.noSelect ops = true) (hf : Region.free md ops listed i = true) (hr : (Region.ready md ops listed).contains i = true)
    (hQ : ∀ c a w, Q (.panic c) (a.put oi.dst v) w → Q (.panic c) a w) (hw : Region.wanted oi (yielded ops a.tmps) = true)
    (hv : ∀ w', But R w w' → (execOp a.eval oi).run P w' = .ok (.value v) w')
    (h : wpAnyH P md ops Q (But R w) fuel (listed.setIfInBounds i true) (a.put oi.dst v) w) : wpAnyH P md ops Q (But R w) (fuel + 1) listed a w :=
  wpAnyH_take hi hs hf hr hQ (Or.inl ⟨hw, hv⟩) (But.refl _ _) h
theorem last_but {R : Nat} {i : Nat} {o : Oper} {fuel : Nat} {listed : Array Bool} {a : Act} {w : World} (ho : ops[i]? = some o) (hr : Region.ready md ops listed = [i]) (hw : Region.wanted o (yielded ops a.tmps) = true) (hd : Region.ready md ops (listed.setIfInBounds i true) = [])
    (t : TypeId) (x y : Operand) (hop : o.op = .store t x y) (off : Nat) (cells : Array Value) (hx : a.eval x = .pointer (some ⟨R, off, none⟩)) (hy : a.eval y = .agg cells) (ht : w.there R off cells.size) (hi : (P.info? t).map (·.size) = some cells.size) (h1 : cells.all (·.oneCell') = true)
    (h : Q .normal (a.put o.dst undef) (w.setCells R off cells.toList)) : wpAnyH P md ops Q (But R w) (fuel + 1) listed a w := by
  refine wpAnyH_all hr (by simp) (fun j hj => ?_)
  simp only [List.mem_cons, List.not_mem_nil, or_false] at hj
  subst hj
  unfold wpOp
  simp only [ho, hw, if_true]
  exact .inl (wp_store_mid t x y hop R off cells hx hy ht hi h1 ⟨but_setCells _ _ _ _ _ (But.refl _ _), wpAnyH_done hd h _⟩)
end
end Go.Proofs.YthbbijaikcmaeaaGreatDoor.Disk
