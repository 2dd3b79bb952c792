/-
  Two nodes are held against each other: what Go's == says of them; nodes and refs as one operation of a statement reads them.
-/
import Derived.Test.YtlbapcpcabieaaaDoorG6
namespace Go.Proofs.YtlbapcpcabieaaaDoor
set_option linter.unusedVariables false
open Go.RowKit Plain

/-- Go's == on refs, and on nodes. -/
def eqR (r q : Rf) : Bool := decide (r.d = q.d) && ((r.s == q.s) && true)
def eqN (N M : List Rf) : Bool := (List.range 4).all fun i => eqR (N.getD i zr) (M.getD i zr)
theorem eqR_iff (r q : Rf) : eqR r q = true ↔ r = q := by
  obtain ⟨d, s⟩ := r
  obtain ⟨d', s'⟩ := q
  simp [eqR]
theorem eqN_iff (N M : List Rf) (hN : N.length = 4) (hM : M.length = 4) : eqN N M = true ↔ N = M := by
  rw [eqN, List.all_eq_true]
  constructor
  · intro h
    apply List.ext_getElem (by omega)
    intro i h1 h2
    have := (eqR_iff _ _).1 (h i (by simp; omega))
    simpa [List.getD, h1, h2] using this
  · rintro rfl i _
    exact (eqR_iff _ _).2 rfl
theorem eqN_self (N : List Rf) (hN : N.length = 4) : eqN N N = true := (eqN_iff N N hN hN).2 rfl
theorem eqN_dec (N M : List Rf) (hN : N.length = 4) (hM : M.length = 4) (h : N ≠ M) : eqN N M = false := by
  cases hq : eqN N M
  · rfl
  · exact absurd ((eqN_iff N M hN hM).1 hq) h
/-- What is asked of the two types of refs, and of the two types of nodes. -/
structure RfT (t : TypeId) : Prop where
  fld : (Tryd.prog.fieldsOf t).toList.map (fun f => (f.name != "_", f.type, f.offset)) = [(true, 23, 0), (true, 24, 32)]
  und : Tryd.prog.underlying t = some (.struct (Tryd.prog.fieldsOf t))
  std : Tryd.prog.stoodInHeld t = false
  siz : (Tryd.prog.info? t).map (·.size) = some 33
  agg : ∀ w, (isAgg t).run Tryd.prog w = .ok true w
  one : ∀ w, (sizeOf t).run Tryd.prog w = .ok 33 w
  cel : Tryd.prog.cellsOf t = 33
theorem rt26 : RfT 26 := ⟨by kernel_rfl, by kernel_rfl, by kernel_rfl, by kernel_rfl, fun w => by kernel_rfl, fun w => by kernel_rfl, by kernel_rfl⟩
theorem ext_sum {r : Rf} (h : OkR r) : (ra r).extract 0 32 = u8s r.d := by
  have hr := h.ld
  apply Array.toList_inj.1
  simp [ra, rc, u8s, hr]
theorem part_sum {r : Rf} (h : OkR r) (w : World) : (part 23 (ra r) 0).run Tryd.prog w = .ok (.agg (u8s r.d)) w := by
  have hagg : (isAgg 23).run Tryd.prog w = .ok true w := by kernel_rfl
  have hsz : (sizeOf 23).run Tryd.prog w = .ok 32 w := by kernel_rfl
  simp [part, Sem.run_bind, hagg, ext_sum h]
theorem part_stamp {r : Rf} (h : OkR r) (w : World) : (part 24 (ra r) 32).run Tryd.prog w = .ok (.int .u64 r.s) w := by
  have hagg : (isAgg 24).run Tryd.prog w = .ok false w := by kernel_rfl
  have hv : (ra r)[32]? = some (.int .u64 r.s) := by rw [ra, List.getElem?_toArray]; exact rc_stamp h
  simp only [part, Sem.run_bind, hagg, Result.andThen_ok, Bool.false_eq_true, if_false, hv]
  rfl
theorem eq_refIn {t : TypeId} (ht : RfT t) (d : Nat) {r q : Rf} (hr : OkR r) (hq : OkR q) (w : World) : (Op.equalIn (d + 1 + 1 + 1) t (.agg (ra r)) (.agg (ra q))).run Tryd.prog w = .ok (eqR r q) w := by
  rw [run_equalIn_struct w (d + 1 + 1) t (ra r) (ra q) ht.und ht.std]
  have hF := ht.fld
  generalize (Tryd.prog.fieldsOf t).toList = fs at hF
  have hl : fs.length = 2 := by simpa using congrArg List.length hF
  match fs, hl, hF with
  | [f0, f1], _, hF =>
    simp only [List.map_cons, List.map_nil, List.cons.injEq, Prod.mk.injEq, and_true] at hF
    obtain ⟨⟨a0, b0, c0⟩, ⟨a1, b1, c1⟩⟩ := hF
    exact eqF_step (d + 1 + 1) _ _ f0 _ _ _ a0 b0 c0 _ _ w (part_sum hr w) (part_sum hq w) _ _ (eq_sumIn d _ _ hr.ld hq.ld w)
      (eqF_step (d + 1 + 1) _ _ f1 _ _ _ a1 b1 c1 _ _ w (part_stamp hr w) (part_stamp hq w) _ true (run_equalIn_int (P := Tryd.prog) w (d + 1) 24 .u64 .u64 _ _ Tryd.underlying24) (by simp [Op.eqFields]))
theorem part_ref {t : TypeId} (ht : RfT t) {N : List Rf} (h : OkN N) (k : Nat) (hk : k < N.length) (w : World) : (part t (na N) (k * Tryd.prog.cellsOf t)).run Tryd.prog w = .ok (.agg (ra (N.getD k zr))) w := by
  rw [ht.cel, getD_is k hk]
  simp [part, Sem.run_bind, ht.agg, ht.one, ext_n h k hk]
theorem eq_itemsR {t : TypeId} (ht : RfT t) (d : Nat) {N M : List Rf} (hN : OkN N) (hM : OkN M) (w : World) (h4 : N.length = 4) (h4' : M.length = 4) : ∀ is : List Nat, (∀ i ∈ is, i < 4) → (Op.eqItems (d + 1 + 1 + 1) t (Tryd.prog.cellsOf t) (na N) (na M) is).run Tryd.prog w = .ok (is.all fun i => eqR (N.getD i zr) (M.getD i zr)) w
  | [], _ => by simp [Op.eqItems]
  | i :: is, h => by
    have ih := eq_itemsR ht d hN hM w h4 h4' is (fun j hj => h j (List.mem_cons_of_mem _ hj))
    have hi := h i List.mem_cons_self
    have o1 : OkR (N.getD i zr) := by rw [getD_is i (by omega)]; exact hN.get i (by omega)
    have o2 : OkR (M.getD i zr) := by rw [getD_is i (by omega)]; exact hM.get i (by omega)
    have e := eq_refIn ht d o1 o2 w
    simp only [Op.eqItems, Sem.run_bind, part_ref ht hN i (by omega), part_ref ht hM i (by omega), Result.andThen_ok, e, List.all_cons]
    cases hq : eqR (N.getD i zr) (M.getD i zr)
    · simp
    · simpa using ih
theorem equalIn_node {t u : TypeId} (ht : RfT t) (hu : Tryd.prog.underlying u = some (.array 4 t)) {N M : List Rf} (hN : OkN N) (hM : OkN M) (h4 : N.length = 4) (h4' : M.length = 4) (w : World) : (Op.equalIn 10000 u (.agg (na N)) (.agg (na M))).run Tryd.prog w = .ok (eqN N M) w := by
  cases hq : Tryd.prog.info? t with
  | none => have := ht.siz; simp [hq] at this
  | some i =>
    rw [show (10000 : Nat) = 9999 + 1 from rfl, run_equalIn_array w 9999 (na N) (na M) hu hq]
    exact eq_itemsR ht 9996 hN hM w h4 h4' _ (by simp)
theorem guardN : Tryd.prog.eqGuardType Tryd.prog.depth 28 = false := by kernel_rfl
theorem exec_eqN {o : Oper} {ρ : Operand → Value} {w' : World} {t u : TypeId} (ht : RfT t) (hu : Tryd.prog.underlying u = some (.array 4 t)) (hgd : Tryd.prog.eqGuardType Tryd.prog.depth u = false) (x y : Operand) (ty : TypeId) (ho : o.op = .binOp .eql u x y ty) (A B : List Rf) (hA : OkN A) (hB : OkN B) (h4 : A.length = 4) (h4' : B.length = 4) (hx : ρ x = .agg (na A)) (hy : ρ y = .agg (na B)) :
    (execOp ρ o).run Tryd.prog w' = .ok (.value (.bool (eqN A B))) w' := by
  unfold execOp
  simp only [ho, hx, hy, Sem.run_bind, run_eqGuard_agg w' .eql u x y _ _ hgd, run_eql_struct, equalIn_node ht hu hA hB h4 h4', Result.andThen_ok]
  rfl
theorem exec_neN {o : Oper} {ρ : Operand → Value} {w' : World} {t u : TypeId} (ht : RfT t) (hu : Tryd.prog.underlying u = some (.array 4 t)) (hgd : Tryd.prog.eqGuardType Tryd.prog.depth u = false) (x y : Operand) (ty : TypeId) (ho : o.op = .binOp .neq u x y ty) (A B : List Rf) (hA : OkN A) (hB : OkN B) (h4 : A.length = 4) (h4' : B.length = 4) (hx : ρ x = .agg (na A)) (hy : ρ y = .agg (na B)) :
    (execOp ρ o).run Tryd.prog w' = .ok (.value (.bool (!eqN A B))) w' := by
  unfold execOp
  simp only [ho, hx, hy, Sem.run_bind, run_eqGuard_agg w' .neq u x y _ _ hgd, run_neq_struct, equalIn_node ht hu hA hB h4 h4', Result.andThen_ok]
  rfl
/-- A whole node is read. -/
theorem exec_node {o : Oper} {ρ : Operand → Value} {w' : World} {u t : TypeId} (hu : Tryd.prog.underlying u = some (.array 4 t)) (hi : (Tryd.prog.info? u).map (·.size) = some 132) (x : Operand) (ho : o.op = .load u x) (g : Nat) (hx : ρ x = .pointer (some ⟨g, 0, none⟩)) (N : List Rf) (hN : OkN N) (h4 : N.length = 4) (h : LiesN w' g u N) :
    (execOp ρ o).run Tryd.prog w' = .ok (.value (.agg (na N))) w' :=
  exec_load_mid u _ x ho hu rfl g 0 hx (nc N) (by rw [len_nc hN, h4]; exact hi) h.range
/-- An operation that is guarded, and wanted. -/
theorem wpList_runG {ops : Array Oper} {rest : List Oper} {o : Oper} {a : Act} {w : World} {Q : Exit → Act → World → Prop} (hw : Region.wanted o (yielded ops a.tmps) = true) (v : Value) (w' : World) (hr : (execOp a.eval o).run Tryd.prog w = .ok (.value v) w') (h : wpList Tryd.prog ops Q rest (a.put o.dst v) w') : wpList Tryd.prog ops Q (o :: rest) a w :=
  BigFrame.wpList_want hw fun _ hK => by unfold Oper.wp; rw [hr]; exact hK _ _ h
/-- A node stored into a block that has just been made. -/
theorem wpList_newN {ops : Array Oper} {rest : List Oper} {o : Oper} {a : Act} {v : World} {Q : Exit → Act → World → Prop} {u : TypeId} (hi : (Tryd.prog.info? u).map (·.size) = some 132) (w : World) (N : List Rf) (hN : OkN N) (h4 : N.length = 4) (hgd : o.guard = none) (x y : Operand) (ho : o.op = .store u x y)
    (hx : a.eval x = .pointer (some ⟨w.heap.size, 0, none⟩)) (hy : a.eval y = .agg (na N)) (hv : v = w.alloc (.cells (na zn) u))
    (h : ∀ z, LiesN z w.heap.size u N → Below w.heap.size w z → wpList Tryd.prog ops Q rest (a.put o.dst undef) z) : wpList Tryd.prog ops Q (o :: rest) a v := by
  subst hv
  have hs := size_na hN h4
  exact wpList_store_row hgd u x y ho w.heap.size (na N) hx hy u (na zn) (al_at rfl) (by rw [hs]; exact hi) (by rw [hs, size_na okN_zn rfl]) (all_na N)
    (h _ (setRow_heap _ _ _ _ _ _ (al_at rfl)) (below_setRow ((Below.refl _ _).alloc (Nat.le_refl _) _) (Nat.le_refl _) _))
/-- A digest in a block. -/
def LiesS (w : World) (g : Nat) (X : List Int) : Prop := w.heap[g]? = some (.cells (u8s X) 23 (0, 0))
theorem LiesS.lt {w : World} {g : Nat} {X : List Int} (h : LiesS w g X) : g < w.heap.size := (Array.getElem?_eq_some_iff.1 h).1
theorem LiesS.below {w w' : World} {g : Nat} {X : List Int} (h : LiesS w g X) (hb : Below w.heap.size w w') : LiesS w' g X := (hb.block g h.lt).trans h
theorem wpList_newS {ops : Array Oper} {rest : List Oper} {o : Oper} {a : Act} {v : World} {Q : Exit → Act → World → Prop} (w : World) (X : List Int) (hX : X.length = 32) (hgd : o.guard = none) (x y : Operand) (ho : o.op = .store 23 x y)
    (hx : a.eval x = .pointer (some ⟨w.heap.size, 0, none⟩)) (hy : a.eval y = .agg (u8s X)) (hv : v = w.alloc (.cells (u8s z32) 23))
    (h : ∀ z, LiesS z w.heap.size X → Below w.heap.size w z → wpList Tryd.prog ops Q rest (a.put o.dst undef) z) : wpList Tryd.prog ops Q (o :: rest) a v := by
  subst hv
  have hs : (u8s X).size = 32 := by rw [size_u8s, hX]
  exact wpList_store_row hgd 23 x y ho w.heap.size (u8s X) hx hy 23 (u8s z32) (al_at rfl) (by rw [hs]; exact infoS) (by rw [hs, size_u8s]; exact len_z32) (all_u8s X)
    (h _ (setRow_heap _ _ _ _ _ _ (al_at rfl)) (below_setRow ((Below.refl _ _).alloc (Nat.le_refl _) _) (Nat.le_refl _) _))
theorem exec_sumL {o : Oper} {ρ : Operand → Value} {w' : World} (x : Operand) (ho : o.op = .load 23 x) (g : Nat) (hx : ρ x = .pointer (some ⟨g, 0, none⟩)) (X : List Int) (hX : X.length = 32) (hb : Byt X) (h : LiesS w' g X) :
    (execOp ρ o).run Tryd.prog w' = .ok (.value (.agg (u8s X))) w' := exec_sum x ho g 0 hx X (bytes_of_sum hb hX h)
end Go.Proofs.YtlbapcpcabieaaaDoor
