/-
  Two digests are held against each other: what Go's == says of them; digests laid into blocks and read out of them.
-/
import Derived.Test.YtanpbceppjpblaaDoorO1
import Derived.Laws.StructEq
import Derived.ChangeKeysEq
import Derived.BigFrame
namespace Go.Proofs.YtanpbceppjpblaaDoor
set_option linter.unusedVariables false
open Go.RowKit Plain

theorem part5 (X : List Int) (i : Nat) (h : i < X.length) (w : World) : (part 5 (u8s X) (i * Tryd.prog.cellsOf 5)).run Tryd.prog w = .ok (.int .u8 (X.getD i 0)) w := by
  have hc : Tryd.prog.cellsOf 5 = 1 := by kernel_rfl
  have hagg : (isAgg 5).run Tryd.prog w = .ok false w := by kernel_rfl
  have hv : (u8s X)[i]? = some (.int .u8 (X.getD i 0)) := by simp [u8s, h]
  rw [hc, Nat.mul_one]
  simp [part, Sem.run_bind, hagg, hv]
theorem eq_items (X Y : List Int) (w : World) (hX : X.length = 32) (hY : Y.length = 32) : ∀ is : List Nat, (∀ i ∈ is, i < 32) → (Op.eqItems 9999 5 (Tryd.prog.cellsOf 5) (u8s X) (u8s Y) is).run Tryd.prog w = .ok (is.all fun i => X.getD i 0 == Y.getD i 0) w
  | [], _ => by simp [Op.eqItems]
  | i :: is, h => by
    have ih := eq_items X Y w hX hY is (fun j hj => h j (List.mem_cons_of_mem _ hj))
    have hi := h i List.mem_cons_self
    have e := run_equalIn_int (P := Tryd.prog) w 9998 5 .u8 .u8 (X.getD i 0) (Y.getD i 0) Tryd.underlying5
    simp only [Op.eqItems, Sem.run_bind, part5 X i (by omega), part5 Y i (by omega), Result.andThen_ok, e, List.all_cons]
    cases hq : (X.getD i 0 == Y.getD i 0)
    · simp
    · simpa using ih
theorem all_eq (X Y : List Int) (hX : X.length = 32) (hY : Y.length = 32) : ((List.range 32).all fun i => X.getD i 0 == Y.getD i 0) = decide (X = Y) := by
  rw [Bool.eq_iff_iff, List.all_eq_true, decide_eq_true_iff]
  constructor
  · intro h
    apply List.ext_getElem (by omega)
    intro i h1 h2
    have := h i (by simp; omega)
    simpa [List.getD, h1, h2] using this
  · rintro rfl i _
    simp
theorem eq25 (X Y : List Int) (hX : X.length = 32) (hY : Y.length = 32) (w : World) : (binOp .eql 25 (.agg (u8s X)) (.agg (u8s Y))).run Tryd.prog w = .ok (.bool (decide (X = Y))) w := by
  obtain ⟨i0, hi, _⟩ := info_parts info5
  rw [run_eql_struct, show (10000 : Nat) = 9999 + 1 from rfl, run_equalIn_array w 9999 (u8s X) (u8s Y) Tryd.underlying25 hi, eq_items X Y w hX hY _ (by simp), all_eq X Y hX hY]
  rfl

theorem wpList_lay25 {ops : Array Oper} {rest : List Oper} {o : Oper} {a : Act} {w : World} {Q : Exit → Act → World → Prop} (X : List Int) (hX : (u8s X).size = 32) (hgd : o.guard = none) (x y : Operand) (ho : o.op = .store 25 x y)
    (g : Nat) (old : Array Value) (hx : a.eval x = .pointer (some ⟨g, 0, none⟩)) (hy : a.eval y = .agg (u8s X)) (hg : w.heap[g]? = some (.cells old 25 (0, 0))) (hold : old.size = 32) (B : Nat) (w0 : World) (hB : Below B w0 w) (hBg : B ≤ g)
    (h : ∀ w', Hid (w'.heap[g]? = some (.cells (u8s X) 25 (0, 0)) ∧ Below B w0 w' ∧ ∀ k, k ≠ g → w'.heap[k]? = w.heap[k]?) → wpList Tryd.prog ops Q rest (a.put o.dst undef) w') : wpList Tryd.prog ops Q (o :: rest) a w := by
  refine wpList_store_row hgd 25 x y ho g (u8s X) hx hy 25 old hg (by rw [hX]; kernel_rfl) (by rw [hX]; exact hold) (all_u8s X) (h _ ⟨setRow_heap _ _ _ _ _ _ hg, below_setRow hB hBg _, fun k hk => setRow_other _ _ _ _ hk⟩)

/-- A digest read out of a block, behind a guard that is met. -/
theorem wpList_get25 {ops : Array Oper} {rest : List Oper} {o : Oper} {a : Act} {w : World} {Q : Exit → Act → World → Prop} (X : List Int) (hX : (u8s X).size = 32) (x : Operand) (ho : o.op = .load 25 x)
    (g : Nat) (hx : a.eval x = .pointer (some ⟨g, 0, none⟩)) (hg : w.heap[g]? = some (.cells (u8s X) 25 (0, 0))) (hw : Region.wanted o (yielded ops a.tmps) = true)
    (h : wpList Tryd.prog ops Q rest (a.put o.dst (.agg (u8s X))) w) : wpList Tryd.prog ops Q (o :: rest) a w :=
  BigFrame.wpList_want hw fun _ hK => wp_load_row 25 x ho g hx 25 (u8s X) (0, 0) _ hg Tryd.underlying25 rfl (by rw [hX]; kernel_rfl) (hK _ _ h)

theorem eq_same25 (X : List Int) (h : X.length = 32) (w : World) : (binOp .eql 25 (.agg (u8s X)) (.agg (u8s X))).run Tryd.prog w = .ok (.bool true) w := by
  rw [eq25 X X h h]; simp
/-- In these blocks stand these digests. -/
def Stand (x : World) (l : List (Nat × List Int)) : Prop := ∀ p ∈ l, p.2.length = 32 ∧ x.heap[p.1]? = some (.cells (u8s p.2) 25 (0, 0))
theorem Stand.nil (x : World) : Stand x [] := fun p hp => by cases hp
theorem Stand.below {x y : World} {l : List (Nat × List Int)} (h : Stand x l) (hb : Below x.heap.size x y) : Stand y l := fun p hp =>
  ⟨(h p hp).1, (hb.block _ (Array.getElem?_eq_some_iff.1 (h p hp).2).1).trans (h p hp).2⟩
/-- What is known of a world on the way: what stands where, and that nothing that was there has turned. -/
def Way (w x : World) (l : List (Nat × List Int)) : Prop := Stand x l ∧ Below w.heap.size w x
theorem Way.on {w x y : World} {l : List (Nat × List Int)} (h : Way w x l) (hb : Below x.heap.size x y) : Way w y l := ⟨h.1.below hb, h.2.trans (hb.mono h.2.size)⟩
theorem wpList_new25 {ops : Array Oper} {rest : List Oper} {o : Oper} {a : Act} {v : World} {Q : Exit → Act → World → Prop} (w0 w : World) (l : List (Nat × List Int)) (X : List Int) (hX : X.length = 32) (H : Way w0 w l) (old : Array Value) (hold : old.size = 32) (hgd : o.guard = none) (x y : Operand) (ho : o.op = .store 25 x y)
    (hx : a.eval x = .pointer (some ⟨w.heap.size, 0, none⟩)) (hy : a.eval y = .agg (u8s X)) (hv : v = w.alloc (.cells old 25))
    (h : ∀ z, Box (Way w0 z ((w.heap.size, X) :: l)) → wpList Tryd.prog ops Q rest (a.put o.dst undef) z) : wpList Tryd.prog ops Q (o :: rest) a v := by
  subst hv
  have hs : (u8s X).size = 32 := by rw [size_u8s, hX]
  refine wpList_lay25 X hs hgd x y ho w.heap.size old hx hy (al_at rfl) hold w.heap.size w ((Below.refl _ _).alloc (Nat.le_refl _) _) (Nat.le_refl _) (fun z hz => h z ⟨?_, ?_⟩)
  · intro p hp
    simp only [List.mem_cons] at hp
    rcases hp with rfl | hp
    · exact ⟨hX, hz.out.1⟩
    · exact ⟨(H.1 p hp).1, (hz.out.2.1.block _ (Array.getElem?_eq_some_iff.1 (H.1 p hp).2).1).trans (H.1 p hp).2⟩
  · exact H.2.trans (hz.out.2.1.mono H.2.size)
theorem wpList_see25 {ops : Array Oper} {rest : List Oper} {o : Oper} {a : Act} {w : World} {Q : Exit → Act → World → Prop} (g : Nat) (X : List Int) (l : List (Nat × List Int)) (hS : Stand w l) (hm : (g, X) ∈ l) (x : Operand) (ho : o.op = .load 25 x)
    (hx : a.eval x = .pointer (some ⟨g, 0, none⟩)) (hw : Region.wanted o (yielded ops a.tmps) = true)
    (h : wpList Tryd.prog ops Q rest (a.put o.dst (.agg (u8s X))) w) : wpList Tryd.prog ops Q (o :: rest) a w :=
  wpList_get25 X (by rw [size_u8s, (hS _ hm).1]) x ho g hx (hS _ hm).2 hw h

theorem exec_load25 {o : Oper} {a : Act} {w' : World} (x : Operand) (ho : o.op = .load 25 x) (g : Nat) (hx : a.eval x = .pointer (some ⟨g, 0, none⟩)) (X : List Int) (l : List (Nat × List Int)) (hS : Stand w' l) (hm : (g, X) ∈ l) :
    (execOp a.eval o).run Tryd.prog w' = .ok (.value (.agg (u8s X))) w' := by
  have hs : (u8s X).size = 32 := by rw [size_u8s, (hS _ hm).1]
  unfold execOp
  simp only [ho, hx, Instr.loadAt, Instr.sureAddr, Sem.run_bind, Sem.run_pure, Result.andThen_ok, run_loadVar_row w' g 25 25 (u8s X) (0, 0) _ (hS _ hm).2 Tryd.underlying25 rfl (by rw [hs]; kernel_rfl)]
theorem below_to {w w1 w2 : World} (h : Below w.heap.size w w1) (k : Below w1.heap.size w1 w2) : Below w.heap.size w w2 := h.trans (k.mono h.size)
theorem of_is (a : Option Addr) (len cap : Nat) (L X' : List Int) (w : World) (hT : Tabs w) (hp : (⟨a, len, cap, L⟩ : Pc).ok w) (hl : len ≤ 900000) (hS : sha L = X') :
    Calls Tryd.prog 10 #[.slice a len cap] w fun e w' => e = .returned (.agg (u8s X')) ∧ Below w.heap.size w w' := by
  subst hS
  exact of_any a len cap L w hT hp.1 hl hp.2.1 hp.2.2
theorem pieces_new (P : List Pc) (n : Nat) (X X' : List Int) (w : World) (hT : Tabs w) (hP : ∀ p ∈ P, p.ok w) (hn : P.length = n) (hn' : n ≤ 1000) (hX : joinTo (fun i => (P.getD i Pc.none).b) n = X) (hl : X.length ≤ 900000) (hS : sha X = X') :
    Calls Tryd.prog 14 #[.slice (some ⟨w.heap.size, 0, Option.none⟩) n n] (w.alloc (.cells (pcv P) 22)) fun e w' => e = .returned (.agg (u8s X')) ∧ Below w.heap.size w w' := by
  subst hS
  have hb : Below w.heap.size w (w.alloc (.cells (pcv P) 22)) := (Below.refl _ _).alloc (Nat.le_refl _) _
  refine (pieces_list P w.heap.size n X 22 (0, 0) _ (hT.below hb) (al_at rfl) (fun p hp => (hP p hp).below hb) hn hn' hX hl).mono ?_
  rintro e w' ⟨he, h'⟩
  exact ⟨he, hb.trans (h'.mono hb.size)⟩
end Go.Proofs.YtanpbceppjpblaaDoor
