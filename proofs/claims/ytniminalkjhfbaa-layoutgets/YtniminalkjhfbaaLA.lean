/-
  What the functions tables, New, Inode of package layout answer, for every argument; a layout's four numbers in memory.
-/
import Derived.Test.YtniminalkjhfbaaR0
namespace Go.Proofs.Ytniminalkjhfbaa
set_option linter.unusedVariables false
open Go.RowKit Plain

/-- A layout's four numbers, as cells. -/
def lc (b i t d : Int) : Array Value := #[.int .i64 b, .int .i64 i, .int .i64 t, .int .i64 d]
theorem size_lc (b i t d : Int) : (lc b i t d).size = 4 := rfl
theorem one_lc (b i t d : Int) : (lc b i t d).all (·.oneCell') = true := by simp [lc, Value.oneCell']
/-- What New takes. -/
def okL (b i : Int) : Prop := 8 ≤ b ∧ b ≤ 1024 ∧ 2 ≤ i ∧ i ≤ 500 ∧ 3 + (i + 4) / 5 < b
instance (b i : Int) : Decidable (okL b i) := by unfold okL; infer_instance
theorem infoL : (Try.prog.info? 24).map (·.size) = some 4 := by kernel_rfl
theorem infoM : (Try.prog.info? 28).map (·.size) = some 4 := by kernel_rfl
theorem built_L0 : Try.prog.built 24 [] = some (lc 0 0 0 0) := by kernel_rfl
theorem built_M0 : Try.prog.built 28 [] = some (lc 0 0 0 0) := by kernel_rfl
theorem built_L (b i t d : Int) : Try.prog.built 24 [(0, .int .i64 b), (1, .int .i64 i), (2, .int .i64 t), (3, .int .i64 d)] = some (lc b i t d) := by kernel_rfl
theorem built_M (b i t d : Int) : Try.prog.built 28 [(0, .int .i64 b), (1, .int .i64 i), (2, .int .i64 t), (3, .int .i64 d)] = some (lc b i t d) := by kernel_rfl
theorem box_below (w : World) (o : Obj) : Below w.heap.size w (w.alloc o) := (Below.refl _ _).alloc (Nat.le_refl _) _
theorem lt_of_row {w : World} {g : Nat} {o : Obj} (h : w.heap[g]? = some o) : g < w.heap.size := (Array.getElem?_eq_some_iff.1 h).1
theorem below_setRow' {S : Nat} {w w' : World} (h : Below S w w') (cs : Array Value) : Below S w (w'.setRow S cs) :=
  ⟨h.os, h.tape, h.output, by simpa using h.size, fun k hk => by rw [setRow_other w' S k _ (by omega)]; exact h.block k hk⟩
/-- A layout (the code's, or the reference's) lies in block S. -/
def Lay (w : World) (S : Nat) (b i t d : Int) : Prop := w.heap[S]? = some (.cells (lc b i t d) 24 (0, 0))
def Lay' (w : World) (S : Nat) (b i t d : Int) : Prop := w.heap[S]? = some (.cells (lc b i t d) 28 (0, 0))
theorem Lay.below {w w' : World} {S : Nat} {b i t d : Int} (h : Lay w S b i t d) (hb : Below w.heap.size w w') : Lay w' S b i t d := (hb.block S (lt_of_row h)).trans h
theorem Lay'.below {w w' : World} {S : Nat} {b i t d : Int} (h : Lay' w S b i t d) (hb : Below w.heap.size w w') : Lay' w' S b i t d := (hb.block S (lt_of_row h)).trans h
theorem Lay.cells {w : World} {S : Nat} {b i t d : Int} (h : Lay w S b i t d) : w.cell? ⟨S, 0, none⟩ = some (.int .i64 b) ∧ w.cell? ⟨S, 1, none⟩ = some (.int .i64 i) ∧ w.cell? ⟨S, 2, none⟩ = some (.int .i64 t) ∧ w.cell? ⟨S, 3, none⟩ = some (.int .i64 d) := by
  unfold Lay at h
  refine ⟨?_, ?_, ?_, ?_⟩ <;> (rw [cell_of_row _ _ _ _ _ _ h]; rfl)
theorem Lay'.cells {w : World} {S : Nat} {b i t d : Int} (h : Lay' w S b i t d) : w.cell? ⟨S, 0, none⟩ = some (.int .i64 b) ∧ w.cell? ⟨S, 1, none⟩ = some (.int .i64 i) ∧ w.cell? ⟨S, 2, none⟩ = some (.int .i64 t) ∧ w.cell? ⟨S, 3, none⟩ = some (.int .i64 d) := by
  unfold Lay' at h
  refine ⟨?_, ?_, ?_, ?_⟩ <;> (rw [cell_of_row _ _ _ _ _ _ h]; rfl)
theorem results_L2 {fn : Func} {t u : Tmp} (h : fn.results = #[.cell t 24, .tmp u]) (tmps : Array Value) (w : World) (S : Nat) (b i p d : Int) (ht : tmps.getD t undef = .pointer (some ⟨S, 0, none⟩)) (hg : Lay w S b i p d) :
    (results fn tmps).run Try.prog w = .ok (.tuple #[.agg (lc b i p d), tmps.getD u undef]) w := by
  have hl := run_loadVar_row (P := Try.prog) w S _ 24 _ _ _ hg Try.underlying24 rfl infoL
  rw [results_cell_tmp h, ht]
  simp [asAddr, hl]
theorem results_M2 {fn : Func} {t u : Tmp} (h : fn.results = #[.cell t 28, .tmp u]) (tmps : Array Value) (w : World) (S : Nat) (b i p d : Int) (ht : tmps.getD t undef = .pointer (some ⟨S, 0, none⟩)) (hg : Lay' w S b i p d) :
    (results fn tmps).run Try.prog w = .ok (.tuple #[.agg (lc b i p d), tmps.getD u undef]) w := by
  have hl := run_loadVar_row (P := Try.prog) w S _ 28 _ _ _ hg Try.underlying28 rfl infoM
  rw [results_cell_tmp h, ht]
  simp [asAddr, hl]
/-- A layout stored whole into its box. -/
theorem wpList_stL {ops : Array Oper} {rest : List Oper} {o : Oper} {act : Act} {w : World} {Q : Exit → Act → World → Prop} (hgd : o.guard = none) (x y : Operand) (ho : o.op = .store 24 x y) (S : Nat) (b i t d : Int) (old : Array Value) (hx : act.eval x = .pointer (some ⟨S, 0, none⟩)) (hy : act.eval y = .agg (lc b i t d))
    (hg : w.heap[S]? = some (.cells old 24 (0, 0))) (hs : old.size = 4) (h : wpList Try.prog ops Q rest (act.put o.dst undef) (w.setRow S (lc b i t d))) : wpList Try.prog ops Q (o :: rest) act w :=
  wpList_store_row hgd 24 x y ho S _ hx hy 24 _ hg infoL hs (one_lc b i t d) h
theorem wpList_stM {ops : Array Oper} {rest : List Oper} {o : Oper} {act : Act} {w : World} {Q : Exit → Act → World → Prop} (hgd : o.guard = none) (x y : Operand) (ho : o.op = .store 28 x y) (S : Nat) (b i t d : Int) (old : Array Value) (hx : act.eval x = .pointer (some ⟨S, 0, none⟩)) (hy : act.eval y = .agg (lc b i t d))
    (hg : w.heap[S]? = some (.cells old 28 (0, 0))) (hs : old.size = 4) (h : wpList Try.prog ops Q rest (act.put o.dst undef) (w.setRow S (lc b i t d))) : wpList Try.prog ops Q (o :: rest) act w :=
  wpList_store_row hgd 28 x y ho S _ hx hy 28 _ hg infoM hs (one_lc b i t d) h
/-- A layout stored into a box that has just been made. -/
theorem wpList_newL {ops : Array Oper} {rest : List Oper} {o : Oper} {act : Act} {v : World} {Q : Exit → Act → World → Prop} (w : World) (b i t d : Int) (hgd : o.guard = none) (x y : Operand) (ho : o.op = .store 24 x y)
    (hx : act.eval x = .pointer (some ⟨w.heap.size, 0, none⟩)) (hy : act.eval y = .agg (lc b i t d)) (hv : v = w.alloc (.cells (lc 0 0 0 0) 24))
    (h : ∀ z, Lay z w.heap.size b i t d → Below w.heap.size w z → wpList Try.prog ops Q rest (act.put o.dst undef) z) : wpList Try.prog ops Q (o :: rest) act v := by
  subst hv
  exact wpList_stL hgd x y ho w.heap.size b i t d _ hx hy (al_at rfl) rfl (h _ (setRow_heap _ _ _ _ _ _ (al_at rfl)) (below_setRow' (box_below _ _) _))
theorem wpList_newM {ops : Array Oper} {rest : List Oper} {o : Oper} {act : Act} {v : World} {Q : Exit → Act → World → Prop} (w : World) (b i t d : Int) (hgd : o.guard = none) (x y : Operand) (ho : o.op = .store 28 x y)
    (hx : act.eval x = .pointer (some ⟨w.heap.size, 0, none⟩)) (hy : act.eval y = .agg (lc b i t d)) (hv : v = w.alloc (.cells (lc 0 0 0 0) 28))
    (h : ∀ z, Lay' z w.heap.size b i t d → Below w.heap.size w z → wpList Try.prog ops Q rest (act.put o.dst undef) z) : wpList Try.prog ops Q (o :: rest) act v := by
  subst hv
  exact wpList_stM hgd x y ho w.heap.size b i t d _ hx hy (al_at rfl) rfl (h _ (setRow_heap _ _ _ _ _ _ (al_at rfl)) (below_setRow' (box_below _ _) _))
/-- A layout loaded whole out of its box. -/
theorem wpList_ldL {ops : Array Oper} {rest : List Oper} {o : Oper} {act : Act} {w : World} {Q : Exit → Act → World → Prop} (hgd : o.guard = none) (x : Operand) (ho : o.op = .load 24 x) (S : Nat) (b i t d : Int) (hx : act.eval x = .pointer (some ⟨S, 0, none⟩)) (hB : Lay w S b i t d)
    (h : wpList Try.prog ops Q rest (act.put o.dst (.agg (lc b i t d))) w) : wpList Try.prog ops Q (o :: rest) act w :=
  wpList_load_row hgd 24 x ho S hx _ _ _ _ hB Try.underlying24 rfl infoL h
theorem wpList_ldM {ops : Array Oper} {rest : List Oper} {o : Oper} {act : Act} {w : World} {Q : Exit → Act → World → Prop} (hgd : o.guard = none) (x : Operand) (ho : o.op = .load 28 x) (S : Nat) (b i t d : Int) (hx : act.eval x = .pointer (some ⟨S, 0, none⟩)) (hB : Lay' w S b i t d)
    (h : wpList Try.prog ops Q rest (act.put o.dst (.agg (lc b i t d))) w) : wpList Try.prog ops Q (o :: rest) act w :=
  wpList_load_row hgd 28 x ho S hx _ _ _ _ hB Try.underlying28 rfl infoM h

/-- How many blocks so many inodes need. -/
def need (m : Nat) : Nat := (m + 4) / 5
set_option maxHeartbeats 400000 in
theorem tables_any (m : Nat) (w : World) (h : m ≤ 500) : Calls Try.prog 18 #[.int .i64 m] w fun e w' => e = .returned (.int .i64 (need m : Nat)) ∧ w = w' := by
  have hd : ((m : Int) + 5 - 1).tdiv 5 = ((need m : Nat) : Int) := by
    rw [Int.tdiv_eq_ediv_of_nonneg (by omega)]
    unfold need; omega
  have hu : need m ≤ 100 := by unfold need; omega
  generalize need m = u at hd hu ⊢
  go_enter Try.func18, Try.ntmps18
  go_wp2
  go_ret
  exact ⟨rfl, rfl⟩

set_option maxHeartbeats 1000000 in
theorem new_few (b i : Int) (w : World) (h : b < 8 ∨ 1024 < b ∨ i < 2 ∨ 500 < i) :
    Calls Try.prog 9 #[.int .i64 b, .int .i64 i] w fun e w' => e = .returned (.tuple #[.agg (lc 0 0 0 0), .int .i64 1]) ∧ Below w.heap.size w w' := by
  have HB : Box (Below w.heap.size w (w.alloc (.cells (lc 0 0 0 0) 24))) := ⟨box_below _ _⟩
  have hr : (w.alloc (.cells (lc 0 0 0 0) 24)).heap[w.heap.size]? = some (.cells (lc 0 0 0 0) 24 (0, 0)) := al_at rfl
  have key : ∃ c1 c2 c3 c4 : Bool, Box (decide (b < 8) = c1) ∧ Box (decide (1024 < b) = c2) ∧ Box (decide (i < 2) = c3) ∧ Box (decide (500 < i) = c4) ∧ (c1 || c2 || c3 || c4) = true := ⟨_, _, _, _, ⟨rfl⟩, ⟨rfl⟩, ⟨rfl⟩, ⟨rfl⟩, by simp; omega⟩
  obtain ⟨c1, c2, c3, c4, e1, e2, e3, e4, ec⟩ := key
  have e1 := e1.out
  have e2 := e2.out
  have e3 := e3.out
  have e4 := e4.out
  clear h
  cases c1 <;> cases c2 <;> cases c3 <;> cases c4 <;> first
    | (exfalso; simp at ec; done)
    | (clear ec
       go_enter Try.func9, Try.ntmps9
       go_upto_region 1 with fail
       change Code.wp _ _ _ _ (w.alloc (.cells (lc 0 0 0 0) 24))
       generalize w.alloc (.cells (lc 0 0 0 0) 24) = x at HB hr ⊢
       go_wp2_with (first
         | (refine wpList_run rfl _ _ (exec_built 24 [] rfl [] rfl _ built_L0) ?_)
         | (refine wpList_stL rfl _ _ rfl w.heap.size 0 0 0 0 _ rfl rfl hr rfl ?_))
       (try simp only [Exit.inBlock, Exit.then])
       refine bodyPost_ret (results_L2 rfl _ _ w.heap.size _ _ _ _ rfl (setRow_heap _ _ _ _ _ _ hr)) rfl ?_
       exact ⟨rfl, below_setRow' HB.out _⟩)

set_option maxHeartbeats 1000000 in
theorem new_far (b m : Nat) (w : World) (h1 : 8 ≤ b) (h2 : b ≤ 1024) (h3 : 2 ≤ m) (h4 : m ≤ 500) (h5 : b ≤ 3 + need m) :
    Calls Try.prog 9 #[.int .i64 b, .int .i64 m] w fun e w' => e = .returned (.tuple #[.agg (lc 0 0 0 0), .int .i64 1]) ∧ Below w.heap.size w w' := by
  have HB : Box (Below w.heap.size w (w.alloc (.cells (lc 0 0 0 0) 24))) := ⟨box_below _ _⟩
  have hr : (w.alloc (.cells (lc 0 0 0 0) 24)).heap[w.heap.size]? = some (.cells (lc 0 0 0 0) 24 (0, 0)) := al_at rfl
  have HC : Box (∀ x : World, Calls Try.prog 18 #[.int .i64 m] x fun e w' => e = .returned (.int .i64 (need m : Nat)) ∧ x = w') := ⟨fun x => tables_any m x h4⟩
  have g1 : ¬ (b : Int) < 8 := by omega
  have g2 : ¬ (1024 : Int) < b := by omega
  have g3 : ¬ (m : Int) < 2 := by omega
  have g4 : ¬ (500 : Int) < m := by omega
  have hu : need m ≤ 100 := by unfold need; omega
  generalize need m = u at h5 HC hu
  have g5 : (b : Int) ≤ 3 + (u : Int) := by omega
  go_enter Try.func9, Try.ntmps9
  go_upto_region 1 with fail
  change Code.wp _ _ _ _ (w.alloc (.cells (lc 0 0 0 0) 24))
  generalize w.alloc (.cells (lc 0 0 0 0) 24) = x at HB hr ⊢
  go_wp2_with (first
    | (go_at_call 18; refine Calls.mono (HC.out _) ?_; rintro e w' ⟨rfl, rfl⟩)
    | (refine wpList_run rfl _ _ (exec_built 24 [] rfl [] rfl _ built_L0) ?_)
    | (refine wpList_stL rfl _ _ rfl w.heap.size 0 0 0 0 _ rfl rfl hr rfl ?_))
  (try simp only [Exit.inBlock, Exit.then])
  refine bodyPost_ret (results_L2 rfl _ _ w.heap.size _ _ _ _ rfl (setRow_heap _ _ _ _ _ _ hr)) rfl ?_
  exact ⟨rfl, below_setRow' HB.out _⟩

set_option maxHeartbeats 1000000 in
theorem new_fit (b m : Nat) (w : World) (h1 : 8 ≤ b) (h2 : b ≤ 1024) (h3 : 2 ≤ m) (h4 : m ≤ 500) (h5 : 3 + need m < b) :
    Calls Try.prog 9 #[.int .i64 b, .int .i64 m] w fun e w' => e = .returned (.tuple #[.agg (lc b m 3 (3 + (need m : Nat))), .int .i64 0]) ∧ Below w.heap.size w w' := by
  have HB : Box (Below w.heap.size w (w.alloc (.cells (lc 0 0 0 0) 24))) := ⟨box_below _ _⟩
  have hr : (w.alloc (.cells (lc 0 0 0 0) 24)).heap[w.heap.size]? = some (.cells (lc 0 0 0 0) 24 (0, 0)) := al_at rfl
  have HC : Box (∀ x : World, Calls Try.prog 18 #[.int .i64 m] x fun e w' => e = .returned (.int .i64 (need m : Nat)) ∧ x = w') := ⟨fun x => tables_any m x h4⟩
  have g1 : ¬ (b : Int) < 8 := by omega
  have g2 : ¬ (1024 : Int) < b := by omega
  have g3 : ¬ (m : Int) < 2 := by omega
  have g4 : ¬ (500 : Int) < m := by omega
  have hu : need m ≤ 100 := by unfold need; omega
  generalize need m = u at h5 HC hu ⊢
  have g5 : ¬ (b : Int) ≤ 3 + (u : Int) := by omega
  go_enter Try.func9, Try.ntmps9
  go_upto_region 1 with fail
  change Code.wp _ _ _ _ (w.alloc (.cells (lc 0 0 0 0) 24))
  generalize w.alloc (.cells (lc 0 0 0 0) 24) = x at HB hr ⊢
  go_wp2_with (first
    | (go_at_call 18; refine Calls.mono (HC.out _) ?_; rintro e w' ⟨rfl, rfl⟩)
    | (refine wpList_run rfl _ _ (exec_built 24 [(0, .tmp 29), (1, .tmp 30), (2, .const (.int .i64 3)), (3, .tmp 31)] rfl [(0, .int .i64 b), (1, .int .i64 m), (2, .int .i64 3), (3, .int .i64 (3 + (u : Int)))] rfl _ (built_L _ _ _ _)) ?_)
    | (refine wpList_stL rfl _ _ rfl w.heap.size b m 3 (3 + (u : Int)) _ rfl rfl hr rfl ?_))
  (try simp only [Exit.inBlock, Exit.then])
  refine bodyPost_ret (results_L2 rfl _ _ w.heap.size _ _ _ _ rfl (setRow_heap _ _ _ _ _ _ hr)) rfl ?_
  exact ⟨rfl, below_setRow' HB.out _⟩

/-- What New tells. -/
def newV (b i : Int) : Value := if okL b i then .tuple #[.agg (lc b i 3 (3 + (i + 4) / 5)), .int .i64 0] else .tuple #[.agg (lc 0 0 0 0), .int .i64 1]
theorem newV_ok {b i : Int} (h : okL b i) : newV b i = .tuple #[.agg (lc b i 3 (3 + (i + 4) / 5)), .int .i64 0] := if_pos h
theorem newV_no {b i : Int} (h : ¬ okL b i) : newV b i = .tuple #[.agg (lc 0 0 0 0), .int .i64 1] := if_neg h
theorem need_int (m : Nat) : ((need m : Nat) : Int) = ((m : Int) + 4) / 5 := by unfold need; omega
theorem new_any (b i : Int) (w : World) : Calls Try.prog 9 #[.int .i64 b, .int .i64 i] w fun e w' => e = .returned (newV b i) ∧ Below w.heap.size w w' := by
  by_cases h : b < 8 ∨ 1024 < b ∨ i < 2 ∨ 500 < i
  · rw [newV_no (by unfold okL; omega)]
    exact new_few b i w h
  · obtain ⟨n, rfl⟩ : ∃ n : Nat, b = n := ⟨b.toNat, by omega⟩
    obtain ⟨m, rfl⟩ : ∃ m : Nat, i = m := ⟨i.toNat, by omega⟩
    have e := need_int m
    by_cases h5 : n ≤ 3 + need m
    · rw [newV_no (by unfold okL; omega)]
      exact new_far n m w (by omega) (by omega) (by omega) (by omega) h5
    · rw [newV_ok (by unfold okL; omega), ← e]
      exact new_fit n m w (by omega) (by omega) (by omega) (by omega) (by omega)

/-- Where an inode stands. -/
def inoV (i n : Int) : Value := if n < 1 ∨ i ≤ n then .tuple #[.int .i64 0, .int .i64 0, .int .i64 12] else .tuple #[.int .i64 (3 + n / 5), .int .i64 (n % 5 * 32), .int .i64 0]
theorem inoV_ok {i n : Int} (h1 : 1 ≤ n) (h2 : n < i) : inoV i n = .tuple #[.int .i64 (3 + n / 5), .int .i64 (n % 5 * 32), .int .i64 0] := if_neg (by omega)
theorem inoV_no {i n : Int} (h : n < 1 ∨ i ≤ n) : inoV i n = .tuple #[.int .i64 0, .int .i64 0, .int .i64 12] := if_pos h

set_option maxHeartbeats 1000000 in
theorem inode_any (b i d n : Int) (w : World) (hi : i ≤ 500) : Calls Try.prog 12 #[.agg (lc b i 3 d), .int .i64 n] w fun e w' => e = .returned (inoV i n) ∧ Below w.heap.size w w' := by
  have HB : Box (Below w.heap.size w (w.alloc (.cells (lc b i 3 d) 24))) := ⟨box_below _ _⟩
  have HL : Lay (w.alloc (.cells (lc b i 3 d) 24)) w.heap.size b i 3 d := al_at rfl
  obtain ⟨_, k1, k2, _⟩ := HL.cells
  clear HL
  by_cases h1 : n < 1
  · rw [inoV_no (.inl h1)]
    go_enter Try.func12, Try.ntmps12
    go_upto_region 1 with fail
    change Code.wp _ _ _ _ (w.alloc (.cells (lc b i 3 d) 24))
    generalize w.alloc (.cells (lc b i 3 d) 24) = x at HB k1 k2 ⊢
    go_wp2
    go_ret3
    exact ⟨rfl, HB.out⟩
  by_cases h2 : i ≤ n
  · rw [inoV_no (.inr h2)]
    go_enter Try.func12, Try.ntmps12
    go_upto_region 1 with fail
    change Code.wp _ _ _ _ (w.alloc (.cells (lc b i 3 d) 24))
    generalize w.alloc (.cells (lc b i 3 d) 24) = x at HB k1 k2 ⊢
    go_wp2
    go_ret3
    exact ⟨rfl, HB.out⟩
  · rw [inoV_ok (by omega) (by omega)]
    have e1 : n.tdiv 5 = n / 5 := Int.tdiv_eq_ediv_of_nonneg (by omega)
    have e2 : n.tmod 5 = n % 5 := Int.tmod_eq_emod_of_nonneg (by omega)
    have b1 : 0 ≤ n / 5 ∧ n / 5 ≤ 100 := by omega
    have b2 : 0 ≤ n % 5 ∧ n % 5 ≤ 4 := by omega
    generalize n / 5 = q at e1 b1 ⊢
    generalize n % 5 = r at e2 b2 ⊢
    go_enter Try.func12, Try.ntmps12
    go_upto_region 1 with fail
    change Code.wp _ _ _ _ (w.alloc (.cells (lc b i 3 d) 24))
    generalize w.alloc (.cells (lc b i 3 d) 24) = x at HB k1 k2 ⊢
    go_wp2
    go_ret3
    exact ⟨rfl, HB.out⟩

theorem results_M1 {fn : Func} {t : Tmp} (h : fn.results = #[.cell t 28]) (tmps : Array Value) (w : World) (S : Nat) (b i p d : Int) (ht : tmps.getD t undef = .pointer (some ⟨S, 0, none⟩)) (hg : Lay' w S b i p d) :
    (results fn tmps).run Try.prog w = .ok (.agg (lc b i p d)) w :=
  results_cell h tmps w S (lc b i p d).toList _ ht (range_arr hg _ (fun j v hv => by rw [Nat.zero_add, ← Array.getElem?_toList]; exact hv)) Try.underlying28 rfl infoM

set_option maxHeartbeats 1000000 in
theorem model_any (b i t d : Int) (w : World) : Calls Try.prog 11 #[.agg (lc b i t d)] w fun e w' => e = .returned (.agg (lc b i t d)) ∧ Below w.heap.size w w' := by
  have HB : Box (Below w.heap.size w ((w.alloc (.cells (lc b i t d) 24)).alloc (.cells (lc 0 0 0 0) 28))) := ⟨below_to (box_below _ _) (box_below _ _)⟩
  have HL : Lay ((w.alloc (.cells (lc b i t d) 24)).alloc (.cells (lc 0 0 0 0) 28)) w.heap.size b i t d := al_old (al_at rfl)
  have hr : ((w.alloc (.cells (lc b i t d) 24)).alloc (.cells (lc 0 0 0 0) 28)).heap[w.heap.size + 1]? = some (.cells (lc 0 0 0 0) 28 (0, 0)) := al_at (by simp)
  obtain ⟨k0, k1, k2, k3⟩ := HL.cells
  clear HL
  go_enter Try.func11, Try.ntmps11
  go_upto_region 1 with fail
  change Code.wp _ _ _ _ ((w.alloc (.cells (lc b i t d) 24)).alloc (.cells (lc 0 0 0 0) 28))
  have hs : (w.alloc (.cells (lc b i t d) 24)).heap.size = w.heap.size + 1 := by simp
  (try rw [hs])
  generalize (w.alloc (.cells (lc b i t d) 24)).alloc (.cells (lc 0 0 0 0) 28) = x at HB k0 k1 k2 k3 hr ⊢
  clear hs
  go_wp2_with (first
    | (refine wpList_run rfl _ _ (exec_built 28 [(0, .tmp 4), (1, .tmp 6), (2, .tmp 8), (3, .tmp 10)] rfl [(0, .int .i64 b), (1, .int .i64 i), (2, .int .i64 t), (3, .int .i64 d)] rfl _ (built_M _ _ _ _)) ?_)
    | (refine wpList_stM rfl _ _ rfl (w.heap.size + 1) b i t d _ rfl rfl hr rfl ?_))
  (try simp only [Exit.inBlock, Exit.then])
  refine bodyPost_ret (results_M1 rfl _ _ (w.heap.size + 1) _ _ _ _ rfl (setRow_heap _ _ _ _ _ _ hr)) rfl ?_
  exact ⟨rfl, ⟨HB.out.os, HB.out.tape, HB.out.output, by simpa using HB.out.size, fun k hk => by rw [setRow_other _ _ k _ (by omega)]; exact HB.out.block k hk⟩⟩
end Go.Proofs.Ytniminalkjhfbaa
