/-
  What slices.Backward's function hands on, one block of a row after another, from the last one on; and what the Go method lastFree of package buffers answers.
-/
import Derived.Test.YthjfobcfdpogeaaBD
import Derived.RangeFuncNested
import Derived.RangeFuncBound
import Derived.RangeFuncCalls
import Derived.RangeFuncLeaves
import Derived.Shelf.Abstract
import Derived.Shelf.RegionOpen
import Derived.OwnWalkIn
import Derived.TacticsInMore
import Derived.LoopNIn
import Derived.LoopIn
namespace Go.Proofs.Ythjfobcfdpogeaa
set_option linter.unusedVariables false
open Go.RowKit Go.Shelf Plain
attribute [local go_sem] Oper.semAt_some

/-- A block that is kept, with its place. -/
structure Kx where
  k : Nat
  x : Kp
def Kx.enc (y : Kx) : Array Value := #[.int .i64 (y.k : Int), .agg (kc y.x).toArray]
def itm (L : List Kp) (k : Nat) : Kx := if h : k < L.length then ⟨k, L[k]⟩ else ⟨0, ⟨0, none, 0, 0, [], 0⟩⟩
/-- What has come behind so many rounds. -/
def came (L : List Kp) (j : Nat) : List Kx := (List.range j).map (fun t => itm L (L.length - 1 - t))
theorem came_succ (L : List Kp) (j : Nat) : came L (j + 1) = came L j ++ [itm L (L.length - 1 - j)] := by simp [came, List.range_succ]
theorem came_length (L : List Kp) (j : Nat) : (came L j).length = j := by simp [came]
/-- Blocks in memory, below a mark. -/
def WaysB (n₀ : Nat) (W : World) (a : Option Addr) (L : List Kp) : Prop := 0 < L.length → ∃ g, a = some ⟨g, 0, none⟩ ∧ g < n₀ ∧ ∀ k (h : k < L.length), W.rangeAt g (k * 3) (kc L[k])
theorem WaysB.below {n₀ : Nat} {A B : World} {a : Option Addr} {L : List Kp} (h : WaysB n₀ A a L) (hb : Below n₀ A B) : WaysB n₀ B a L := fun h0 => by
  obtain ⟨g, e, h1, h2⟩ := h h0
  exact ⟨g, e, h1, fun k hk j v hv => (hb.cell (p := ⟨g, k * 3 + j, none⟩) h1).trans (h2 k hk j v hv)⟩
theorem wpListIn_load2 {F : Fence} {n : Nat} {P : Program} {ops : Array Oper} {rest : List Oper} {op : Oper} {a : Act} {w : World} {Q : Exit → Act → World → Prop} (hgd : op.guard = none) (ty : TypeId) (x : Operand) (ho : op.op = .load ty x)
    (b o : Nat) (hx : a.eval x = .pointer (some ⟨b, o, none⟩)) (cs : List Value) (d : TypeDesc) (hc : w.rangeAt b o cs)
    (hu : P.underlying ty = some d) (hd : d.isRow = true) (hi : (P.info? ty).map (·.size) = some cs.length)
    (h : wpListIn F n P ops Q rest (a.put op.dst (.agg cs.toArray)) w) : wpListIn F n P ops Q (op :: rest) a w := by
  refine wpListIn_plain hgd fun K hK' => ?_
  unfold Oper.wpIn
  refine ⟨?_, ?_⟩
  · simp [Oper.about, ho]
  · rw [Oper.semAt_plain F _ _ (by rw [ho]; intro c hc'; cases hc')]
    unfold execOp
    simp only [ho, hx, Instr.loadAt, Instr.sureAddr, Sem.run_bind, Sem.run_pure, Result.andThen_ok, run_loadVar_mid w b o ty cs d hc hu hd hi]
    exact hK' _ _ h
theorem wpListIn_zero {F : Fence} {n : Nat} {ops : Array Oper} {rest : List Oper} {op : Oper} {a : Act} {w : World} {Q : Exit → Act → World → Prop} (hgd : op.guard = none) (t : TypeId) (ho : op.op = .alloc t) (Z : Array Value) (hz : (Try.prog.info? t).map (·.zero) = some (some (.agg Z)))
    (h : wpListIn F n Try.prog ops Q rest (a.put op.dst (.pointer (some ⟨w.heap.size, 0, none⟩))) (w.alloc (.cells Z t))) : wpListIn F n Try.prog ops Q (op :: rest) a w := by
  refine wpListIn_plain hgd fun K hK' => ?_
  unfold Oper.wpIn
  refine ⟨?_, ?_⟩
  · simp [Oper.about, ho]
  · rw [Oper.semAt_plain F _ _ (by rw [ho]; intro c hc'; cases hc'), exec_alloc t ho Z hz]
    exact hK' _ _ h
theorem wpListIn_put {F : Fence} {n : Nat} {P : Program} {ops : Array Oper} {rest : List Oper} {op : Oper} {a : Act} {w : World} {Q : Exit → Act → World → Prop} (hgd : op.guard = none) (ty : TypeId) (x y : Operand) (ho : op.op = .store ty x y)
    (b o : Nat) (cells : Array Value) (hx : a.eval x = .pointer (some ⟨b, o, none⟩)) (hy : a.eval y = .agg cells) (ht : w.there b o cells.size) (hi : (P.info? ty).map (·.size) = some cells.size) (h1 : cells.all (·.oneCell') = true)
    (h : wpListIn F n P ops Q rest (a.put op.dst undef) (w.setCells b o cells.toList)) : wpListIn F n P ops Q (op :: rest) a w := by
  refine wpListIn_plain hgd fun K hK' => ?_
  unfold Oper.wpIn
  refine ⟨?_, ?_⟩
  · simp [Oper.about, ho]
  · rw [Oper.semAt_plain F _ _ (by rw [ho]; intro c hc'; cases hc')]
    unfold execOp
    simp only [ho, hx, hy, Instr.storeAt, Instr.sureAddr, Sem.run_bind, Sem.run_pure, Result.andThen_ok, run_storeVar_mid w b o ty cells ht hi h1]
    exact hK' _ _ h
theorem splice_all {α : Type} (L vs : List α) (h : L.length = vs.length) : splice L 0 vs = vs := by simp [splice, h]
/-- A row laid into a new block. -/
theorem laid_new (W : World) (Z : Array Value) (t : TypeId) (vs : List Value) (hz : Z.size = vs.length) :
    Below W.heap.size W ((W.alloc (.cells Z t)).setCells W.heap.size 0 vs) ∧ KeepsOthers W ((W.alloc (.cells Z t)).setCells W.heap.size 0 vs) ∧ ((W.alloc (.cells Z t)).setCells W.heap.size 0 vs).heap[W.heap.size]? = some (.cells vs.toArray t (0, 0)) := by
  have hb := But.setCells (G := W.heap.size) vs 0 (But.of_below (G := W.heap.size) ((Below.refl W.heap.size W).alloc (Nat.le_refl _) (.cells Z t)))
  have h := heap_setCells W.heap.size t vs 0 (W.alloc (.cells Z t)) Z (al_at rfl) (by omega)
  rw [splice_all _ _ (by simpa using hz)] at h
  refine ⟨⟨hb.os, hb.tape, hb.output, hb.size, fun k hk => hb.block k hk (by omega)⟩, ⟨hb.size, fun k o hk ho => ?_⟩, h⟩
  have hlt := (Array.getElem?_eq_some_iff.1 hk).1
  exact (hb.block k hlt (by omega)).trans hk
theorem results_int {fn : Func} {t : Tmp} (h : fn.results = #[.cell t 3]) (tmps : Array Value) (w : World) (b : Nat) (v : Value) (ht : tmps.getD t undef = .pointer (some ⟨b, 0, none⟩)) (hc : w.cell? ⟨b, 0, none⟩ = some v) :
    (results fn tmps).run Try.prog w = .ok v w := by
  have hagg : (isAgg 3).run Try.prog w = .ok false w := by
    unfold isAgg
    rw [Sem.run_bind, run_underlying Try.underlying3 w]
    rfl
  have hl : (loadVar 3 ⟨b, 0, none⟩).run Try.prog w = .ok v w := by
    simp [loadVar, Sem.run_bind, hagg, load, Sem.run, hc]
  simp only [Array.getD_eq_getD_getElem?] at ht
  simp [results, h, ht, hl, asAddr]
/-- A row of cells is the same where no block of cells has turned. -/
theorem row_own {β : Type} (R : Nat) (t : TypeId) (f : β → Array Value) : Own (fun s W => W.heap[R]? = some (.cells (f s) t (0, 0))) := fun s X Y row hs hg hr =>
  (hg.block R (Array.getElem?_eq_some_iff.1 hs).1 (fun e => by
    obtain ⟨o, ho, hc⟩ := hr R e.symm
    rw [hs] at ho
    cases ho
    cases hc)).trans hs
set_option maxRecDepth 100000 in
set_option maxHeartbeats 2000000 in
theorem back1_in (F : Fence) (n : Nat) (h7 : F.fn 35) (hro : F.round = none) (hn : 1 ≤ n) (l Bs n₀ cap : Nat) (a : Option Addr) (L : List Kp) (hreach : L.length < 1000000000) (J Jx : List Kx → World → Prop)
    (hY : ∀ pre x W, J pre W → pre.length < L.length → YieldAt F (n - 1) Try.prog l (Kx.enc x) W fun e W' =>
      (e = .returned (.bool true) ∧ J (pre ++ [x]) W' ∧ Below n₀ W W') ∨ (e = .returned (.bool false) ∧ Jx (pre ++ [x]) W'))
    (W : World) (hlt : Bs < n₀) (hBs : W.cell? ⟨Bs, 0, none⟩ = some (.slice a L.length cap)) (hc : WaysB n₀ W a L) (h0 : J [] W) :
    CallsIn F n Try.prog 35 #[.func (.yield l) #[] #[], .pointer (some ⟨Bs, 0, none⟩)] W fun e W' => (∃ v, e = .returned v) ∧
      ((∃ ys, ys = came L L.length ∧ J ys W') ∨ (∃ pre, (∃ k, k ≤ L.length ∧ pre = came L k) ∧ Jx pre W')) := by
  refine callsIn_of_wp Try.func35 rfl h7 ?_ hro
  simp only [Try.ntmps35, List.size_toArray, List.length_cons, List.length_nil, Nat.reduceAdd, Nat.reduceSub, Array.replicate_succ, Array.replicate_zero, List.push_toArray, List.append_toArray, List.nil_append, List.cons_append]
  have hw1 : IntKind.i64.wrap ((L.length : Int) - 1) = (L.length : Int) - 1 := by rw [IntKind.wrap_i64]; omega
  gi_wp2
  gi_loopw [3] (fun i wr => ∃ k : Nat, k ≤ L.length ∧ i = .int .i64 ((L.length : Int) - 1 - k) ∧ J (came L k) wr ∧ Below n₀ W wr)
    (fun i _ => (intOf i + 1).toNat)
  case atStart => exact ⟨0, Nat.zero_le _, by simp, h0, Below.refl _ _⟩
  case round =>
    obtain ⟨k, hk, rfl, hJs, hnx⟩ := hrel
    have hBs' : wr.cell? ⟨Bs, 0, none⟩ = some (.slice a L.length cap) := (hnx.cell (p := ⟨Bs, 0, none⟩) hlt).trans hBs
    by_cases hlt2 : k < L.length
    · obtain ⟨b, rfl, hb, hr⟩ := hc.below hnx (by omega)
      obtain ⟨fn, tmps, assign, body, hy, hR⟩ := hY _ (itm L (L.length - 1 - k)) wr hJs (by rw [came_length]; exact hlt2)
      have hq : L.length - 1 - k < L.length := by omega
      have hr' := hr _ hq
      have he : itm L (L.length - 1 - k) = ⟨L.length - 1 - k, L[L.length - 1 - k]⟩ := by simp [itm, hq]
      rw [he] at hy
      simp only [Kx.enc] at hy
      rw [show ((L.length : Int) - 1 - k) = ((L.length - 1 - k : Nat) : Int) by omega]
      have HR : Box (∀ e W', (e = Ending.returned (.bool true) ∧ J (came L k ++ [itm L (L.length - 1 - k)]) W' ∧ Below n₀ wr W' ∨ e = Ending.returned (.bool false) ∧ Jx (came L k ++ [itm L (L.length - 1 - k)]) W') → (e = Ending.returned (.bool true) ∧ J (came L (k + 1)) W' ∧ Below n₀ W W') ∨ (e = Ending.returned (.bool false) ∧ Jx (came L (k + 1)) W')) := ⟨fun e W' h => by
        rw [came_succ]
        exact h.imp (fun h => ⟨h.1, h.2.1, hnx.trans h.2.2⟩) id⟩
      have hqe : Box (L.length - 1 - k + k + 1 = L.length) := ⟨by omega⟩
      have hr2 : Box (wr.rangeAt b ((L.length - 1 - k) * 3) (kc L[L.length - 1 - k])) := ⟨hr'⟩
      have hy2 : (Instr.yield l #[Value.int .i64 ((L.length - 1 - k : Nat) : Int), .agg (kc L[L.length - 1 - k]).toArray]).run Try.prog wr = .ok (.round l fn tmps assign body) wr := hy
      have hR2 := hR.mono HR.out
      have hw2 : IntKind.i64.wrap (((L.length - 1 - k : Nat) : Int) - 1) = ((L.length - 1 - k : Nat) : Int) - 1 := by rw [IntKind.wrap_i64]; omega
      clear hr hr' hc hY hy hR HR he hnx hJs hBs h0 hlt2
      generalize L[L.length - 1 - k] = x at hy2 hr2
      generalize L.length - 1 - k = q at *
      gi_wp2_with (refine wpListIn_load2 rfl 60 _ rfl b (q * 3) rfl (kc x) _ hr2.out Try.underlying60 rfl sizeK ?_)
      refine hR2.mono ?_
      rintro e W3 (⟨rfl, hJ3, hk3⟩ | ⟨rfl, hJx3⟩)
      · gi_wp2
        go_roundw
        case rel => exact ⟨k + 1, by have := hqe.out; omega, by have := hqe.out; congr 1; omega, hJ3, hk3⟩
        case measure => simp [intOf]
      · gi_wp2
        refine bodyPost_ret (results_none rfl _ _ _) rfl ?_
        exact ⟨⟨_, rfl⟩, .inr ⟨_, ⟨k + 1, by have := hqe.out; omega, rfl⟩, hJx3⟩⟩
    · obtain rfl : k = L.length := by omega
      have hneg : decide (0 ≤ (L.length : Int) - 1 - L.length) = false := by simp; omega
      gi_wp2
      go_end0
      exact ⟨⟨_, rfl⟩, .inl ⟨_, rfl, hJs⟩⟩
set_option maxHeartbeats 1000000 in
theorem back_in (F : Fence) (n : Nat) (h5 : F.fn 34) (hro : F.round = none) (a : Option Addr) (len cap : Nat) (w : World) :
    CallsIn F n Try.prog 34 #[.slice a len cap] w fun e w' => e = .returned (.func (.func 35) #[] #[.pointer (some ⟨w.heap.size, 0, none⟩)]) ∧ w' = w.alloc (.cells #[.slice a len cap] 55) := by
  refine callsIn_of_wp Try.func34 rfl h5 ?_ hro
  simp only [Try.ntmps34, List.size_toArray, List.length_cons, List.length_nil, Nat.reduceAdd, Nat.reduceSub, Array.replicate_succ, Array.replicate_zero, List.push_toArray, List.append_toArray, List.nil_append, List.cons_append]
  gi_wp2
  go_ret
  exact ⟨rfl, rfl⟩
theorem back_stops (F : Fence) (n : Nat) (h7 : F.fn 35) (hro : F.round = none) (hn : 1 ≤ n) (Bs n₀ cap : Nat) (a : Option Addr) (L : List Kp) (hreach : L.length < 1000000000) (w : World) (hBs : Bs < n₀) (hn₀ : n₀ ≤ w.heap.size)
    (hc : w.cell? ⟨Bs, 0, none⟩ = some (.slice a L.length cap)) (hI : WaysB n₀ w a L) :
    SeqStopsK F n Try.prog 35 #[.pointer (some ⟨Bs, 0, none⟩)] Kx.enc (Below n₀) (fun ys => ys = came L L.length) (fun pre => ∃ k, k ≤ L.length ∧ pre = came L k) L.length w := fun l J Jx W hW _ _ hY h0 =>
  back1_in F n h7 hro hn l Bs n₀ cap a L hreach J Jx hY W hBs ((hW.cell (p := ⟨Bs, 0, none⟩) (show Bs < _ by omega)).trans hc) (hI.below (hW.mono hn₀)) h0
theorem free_none (L : List Kp) (h : ∀ y ∈ came L L.length, y.x.h ≠ 0) : Ah L := by
  intro x hx
  obtain ⟨k, hk, rfl⟩ := List.getElem_of_mem hx
  have := h (itm L k) (List.mem_map.2 ⟨L.length - 1 - k, by simp; omega, by congr 1; omega⟩)
  simpa [itm, hk] using this
theorem free_some (L : List Kp) (k : Nat) (hk : k < L.length) (h : ∀ y ∈ came L k, y.x.h ≠ 0) (hp : (itm L (L.length - 1 - k)).x.h = 0) : Lf L (itm L (L.length - 1 - k)).k := by
  have hq : L.length - 1 - k < L.length := by omega
  simp only [itm, hq, dite_true] at hp ⊢
  refine ⟨hq, hp, fun j hj hlt => ?_⟩
  have := h (itm L j) (List.mem_map.2 ⟨L.length - 1 - j, by simp; omega, by congr 1; omega⟩)
  simpa [itm, hj] using this
/-- The place of the last block that isn't held, or -1. -/
def lfz (L : List Kp) (r : Int) : Prop := (r = -1 ∧ Ah L) ∨ ∃ i : Nat, r = i ∧ Lf L i
set_option maxRecDepth 100000 in
set_option maxHeartbeats 4000000 in
theorem last_any (w : World) (B C : Nat) (n : Int) (rv : Value) (L : List Kp) (h : Ca w B C n rv L) :
    Calls Try.prog 32 #[.pointer (some ⟨C, 0, none⟩)] w fun e w' => (∃ r, e = .returned (.int .i64 r) ∧ lfz L r) ∧ Below w.heap.size w w' := by
  refine (callsIn_wide (n := 3)).1 ?_
  obtain ⟨a, cap, rfl, _, _⟩ := h.row.form
  obtain ⟨-, c1, -⟩ := h.cells
  have HA : Box (Ca w B C n (.slice a L.length cap) L) := ⟨h⟩
  have hreach : L.length < 1000000000 := by have := h.len; omega
  clear h
  refine callsIn_of_wp_marks Try.func32 rfl trivial ?_ rfl
  simp only [Try.ntmps32, List.size_toArray, List.length_cons, List.length_nil, Nat.reduceAdd, Nat.reduceSub, Array.replicate_succ, Array.replicate_zero, List.push_toArray, List.append_toArray, List.nil_append, List.cons_append]
  have c1' : (w.alloc (.cells #[.int .i64 0] 3)).cell? ⟨C, 1, none⟩ = some (.slice a L.length cap) := cell_al _ c1
  gi_wp2_with (first
    | (refine ⟨trivial, ?_⟩; gi_at_call 34; refine (back_in Fence.wide _ trivial rfl _ _ _ _).mono ?_; rintro e w' ⟨rfl, rfl⟩))
  have bR : Boxed ((w.alloc (.cells #[.int .i64 0] 3)).alloc (.cells #[.slice a L.length cap] 55)) w.heap.size 3 (.int .i64 0) := (Boxed.new w 3 _).alloc _
  have bS : Boxed ((w.alloc (.cells #[.int .i64 0] 3)).alloc (.cells #[.slice a L.length cap] 55)) (w.heap.size + 1) 55 (.slice a L.length cap) := al_at (by simp)
  have hB0 : Below w.heap.size w ((w.alloc (.cells #[.int .i64 0] 3)).alloc (.cells #[.slice a L.length cap] 55)) := ((Below.refl _ w).alloc (Nat.le_refl _) _).alloc (by simp) _
  have hsz : ((w.alloc (.cells #[.int .i64 0] 3)).alloc (.cells #[.slice a L.length cap] 55)).heap.size = w.heap.size + 2 := by simp
  clear c1'
  generalize (w.alloc (.cells #[.int .i64 0] 3)).alloc (.cells #[.slice a L.length cap] 55) = W0 at *
  have hW := (HA.out.row.ways).below hB0
  refine wpIn_rangeFunc_ownH (F := Fence.wide) (n := 3) (ps := #[10, 11]) rfl (by decide) (gf := 35) (lb := #[.pointer (some ⟨w.heap.size + 1, 0, none⟩)]) rfl trivial (enters_of Try.func35 (by kernel_rfl) rfl)
    (back_stops Fence.wide (3 - 1) trivial rfl (by decide) (w.heap.size + 1) W0.heap.size cap a L hreach W0 (by omega) (Nat.le_refl _) bS.cell (fun h0 => by obtain ⟨b, e, h1, h2⟩ := hW h0; exact ⟨b, e, by omega, h2⟩)) belowK_t (belowK_b (Nat.le_refl _)) (Below.refl _ _) (fun x => rfl)
    (fun pre W => ((∀ y ∈ pre, y.x.h ≠ 0) ∧ Boxed W w.heap.size 3 (.int .i64 0) ∧ W0.heap.size ≤ W.heap.size) ∧ Below w.heap.size w W)
    (fun c pre W => (c = .ret ∧ ∃ ini last, pre = ini ++ [last] ∧ (∀ y ∈ ini, y.x.h ≠ 0) ∧ last.x.h = 0 ∧ Boxed W w.heap.size 3 (.int .i64 (last.k : Int))) ∧ Below w.heap.size w W)
    (OwnFrom.and (Own.from (fun s A B row hs hg hr => ⟨hs.1, boxed_own _ _ (fun (_ : Unit) => _) () A B row hs.2.1 hg hr, Nat.le_trans hs.2.2 hg.size⟩) _) (ownFrom_below (Nat.le_refl _) (by omega)))
    (fun c => OwnFrom.and (Own.from (fun s A B row hs hg hr => by obtain ⟨hc, ini, last, e1, e2, e3, e4⟩ := hs; exact ⟨hc, ini, last, e1, e2, e3, boxed_own _ _ (fun (_ : Unit) => _) () A B row e4 hg hr⟩) _) (ownFrom_below (Nat.le_refl _) (by omega)))
    ⟨⟨by simp, bR, Nat.le_refl _⟩, hB0⟩
    (fun y a' W => ∃ Bx, W0.heap.size ≤ Bx ∧ W.heap[Bx]? = some (.cells (kc y.x).toArray 60 (0, 0)) ∧ a' = { tmps := #[.pointer (some ⟨C, 0, none⟩), undef, .pointer (some ⟨w.heap.size, 0, none⟩), .int .i64 (y.k : Int), .pointer (some ⟨Bx, 0, none⟩), .pointer (some ⟨C, 0, none⟩), .pointer (some ⟨C, 0, none⟩), .pointer (some ⟨C, 1, none⟩), .slice a L.length cap, .func (.func 35) #[] #[.pointer (some ⟨w.heap.size + 1, 0, none⟩)], .int .i64 (y.k : Int), .agg (kc y.x).toArray, undef, undef, undef, undef], defers := [] })
    (fun x a' _ X Y row hs hg hr => by obtain ⟨Bx, h1, h2, h3⟩ := hs; exact ⟨Bx, h1, row_own _ _ (fun (_ : Unit) => _) () X Y row h2 hg (fun r e => (hr r e).2), h3⟩)
    ?assign ?body ?done ?stop
  case assign =>
    rintro l pre y W K ⟨⟨h1, h2, h5⟩, h4⟩ hK
    rename_i ax
    clear ax bR bS hB0 hW c1
    simp only [Kx.enc, List.zip_toArray, List.zip_cons_cons, List.zip_nil_right, List.foldl_toArray, List.foldl_cons, List.foldl_nil, List.setIfInBounds_toArray, List.set_cons_succ, List.set_cons_zero]
    have HN : Box _ := ⟨laid_new W #[.int .u64 0, .slice none 0 0, .int .u64 0] 60 (kc y.x) rfl⟩
    have HT : Box ((W.alloc (.cells #[.int .u64 0, .slice none 0 0, .int .u64 0] 60)).there W.heap.size 0 (kc y.x).toArray.size) := ⟨there_row (al_at rfl) (Nat.le_refl _)⟩
    have HE : Box (W0.heap.size ≤ W.heap.size) := ⟨h5⟩
    clear h5
    gi_wp2_with (first
      | (refine wpListIn_zero rfl 60 rfl _ zeroK ?_)
      | (refine wpListIn_put rfl 60 _ _ rfl W.heap.size 0 (kc y.x).toArray rfl rfl HT.out sizeK (by simp [kc, Value.oneCell']) ?_))
    obtain ⟨n1, n2, n3⟩ := HN.out
    exact hK _ _ (n2.from _) (n1.mono HE.out) ⟨⟨h1, (n1.block _ h2.lt).trans h2, Nat.le_trans HE.out n1.size⟩, h4.trans (n1.mono h4.size)⟩ ⟨_, HE.out, n3, rfl⟩
  case body =>
    rintro l pre y a' W hl ⟨r, hr⟩ ⟨⟨h1, h2, h5⟩, h4⟩ ⟨Bx, hBx, bX, rfl⟩ hlt
    rename_i ax
    clear ax bR bS hB0 hW c1
    have cX : W.cell? ⟨Bx, 2, none⟩ = some (.int .u64 y.x.h) := by rw [cell_of_row _ _ _ _ _ _ bX]; rfl
    have cR := h2.cell
    by_cases hp : y.x.h = 0
    · have hpi : (y.x.h == 0) = true := by simp [hp]
      have fR : W.frozen? ⟨w.heap.size, 0, none⟩ = false := frozen_of_row W w.heap.size _ _ _ h2
      have HB : Box (But w.heap.size W (W.setCell ⟨w.heap.size, 0, none⟩ (.int .i64 (y.k : Int)))) := ⟨(But.refl _ _).setCell 0 _⟩
      have HR : Box (Boxed (W.setCell ⟨w.heap.size, 0, none⟩ (.int .i64 (y.k : Int))) w.heap.size 3 (.int .i64 (y.k : Int))) := ⟨heap_setCell_same W w.heap.size 0 _ _ _ h2⟩
      have HP : Box (y.x.h = 0) := ⟨hp⟩
      clear hp
      gi_wp2
      refine ⟨⟨HB.out.size, fun k o hk hk0 ho => ?_⟩, ⟨rfl, pre, y, rfl, h1, HP.out, HR.out⟩, h4.trans ⟨HB.out.os, HB.out.tape, HB.out.output, HB.out.size, fun k hk => HB.out.block k (by have := h4.size; omega) (by omega)⟩⟩
      exact (HB.out.block k (Array.getElem?_eq_some_iff.1 hk0).1 (by omega)).trans hk0
    · have hpi : (y.x.h == 0) = false := by simpa using hp
      gi_wp2
      exact ⟨KeepsFrom.refl _ _, Below.refl _ _, ⟨fun z hz => (List.mem_append.1 hz).elim (h1 z) (fun e => by simp at e; subst e; exact hp), h2, h5⟩, h4⟩
  case done =>
    rintro Dd ys W hD rfl ⟨⟨h1, h2, h5⟩, h4⟩ hK
    have hfree := free_none L h1
    have cR : W.cell? ⟨w.heap.size, 0, none⟩ = some (.int .i64 0) := h2.cell
    have fR : W.frozen? ⟨w.heap.size, 0, none⟩ = false := frozen_of_row W w.heap.size _ _ _ h2
    have HR : Box (Boxed (W.setCell ⟨w.heap.size, 0, none⟩ (.int .i64 (-1))) w.heap.size 3 (.int .i64 (-1))) := ⟨heap_setCell_same W w.heap.size 0 _ _ _ h2⟩
    have GB : Box (But w.heap.size W (W.setCell ⟨w.heap.size, 0, none⟩ (.int .i64 (-1)))) := ⟨(But.refl _ _).setCell 0 _⟩
    clear c1 bR bS hB0 hW
    rename_i KK ax
    show KK _ _
    refine ax _ _ ?_
    clear ax
    refine wpIn_wide.2 ?_
    refine wp_seq (wp_mono (Q := Exit.then _ (fun _ _ _ => False)) ?_ (fun e a w h => by cases e <;> first | exact h | exact h.elim))
    go_wp2
    have hK' := (GB.out.block Dd (Array.getElem?_eq_some_iff.1 hK).1 (by omega)).trans hK
    refine ⟨by simp, .inl ⟨_, _, rfl, run_takeDeferred hK', ?_⟩⟩
    have hR : Boxed ((W.setCell ⟨w.heap.size, 0, none⟩ (.int .i64 (-1))).putObj Dd (.deferred none)) w.heap.size 3 (.int .i64 (-1)) := (World.putObj_heap_other (by omega)).trans HR.out
    refine ⟨_, results_int rfl _ _ w.heap.size _ rfl hR.cell, ⟨-1, rfl, .inl ⟨rfl, hfree⟩⟩, ?_⟩
    exact (h4.trans ⟨GB.out.os, GB.out.tape, GB.out.output, GB.out.size, fun k hk => GB.out.block k (by have := h4.size; omega) (by omega)⟩).trans (belowK_b (w := w) (Nat.le_refl _) _ Dd _ _ (by omega) hK' rfl rfl)
  case stop =>
    rintro Dd c pre W hD ⟨k, hk, rfl⟩ ⟨⟨rfl, ini, last, e1, e2, e3, hcr⟩, hB⟩ hK
    rename_i KK ax
    clear ax bR bS hB0 hW c1
    obtain ⟨k', rfl⟩ : ∃ k', k = k' + 1 := by
      cases k with
      | zero => simp [came] at e1
      | succ k' => exact ⟨k', rfl⟩
    rw [came_succ] at e1
    obtain ⟨rfl, e5⟩ := List.append_inj' e1 rfl
    obtain rfl : itm L (L.length - 1 - k') = last := by simpa using e5
    have hfree := free_some L k' (by omega) e2 e3
    refine wpIn_ret ?_
    refine ⟨by simp, .inl ⟨_, _, rfl, run_takeDeferred hK, ?_⟩⟩
    have hR : Boxed (W.putObj Dd (.deferred none)) w.heap.size 3 _ := (World.putObj_heap_other (by omega)).trans hcr
    refine ⟨_, results_int rfl _ _ w.heap.size _ rfl hR.cell, ⟨_, rfl, .inr ⟨_, rfl, hfree⟩⟩, ?_⟩
    exact hB.trans (belowK_b (w := w) (Nat.le_refl _) _ Dd _ _ (by omega) hK rfl rfl)
end Go.Proofs.Ythjfobcfdpogeaa
