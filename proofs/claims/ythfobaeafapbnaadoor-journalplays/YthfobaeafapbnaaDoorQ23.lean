/-
 Blocks, rows and structs of the model's memory as one operation makes, reads and compares them; images and records in memory. Of the program only its types are named. And what follows it.
-/
import Derived.BigRegion
import Derived.BigQuiet
import Derived.Laws.StructEq
import Derived.ChangeKeysEq
import Derived.Laws.Rows
import Derived.Laws.Tables
import Derived.Laws.ResultCell
import Derived.Test.YthfobaeafapbnaaDoorQ01
import Derived.Test.YthfobaeafapbnaaDoorQ00
set_option linter.unusedVariables false
set_option maxRecDepth 100000
namespace Go.Proofs.YthfobaeafapbnaaDoor
open Go.RowKit Plain
theorem wpList_run {ops : Array Oper} {rest : List Oper} {o : Oper} {a : Act} {w : World} {Q : Exit -> Act -> World -> Prop} (hg : o.guard = none) (v : Value) (w' : World) (hr : (execOp a.eval o).run Tryd.prog w = .ok (.value v) w') (h : wpList Tryd.prog ops Q rest (a.put o.dst v) w') : wpList Tryd.prog ops Q (o :: rest) a w :=
 wpList_plain hg fun _ hK => by unfold Oper.wp; rw [hr]; exact hK _ _ h
theorem exec_alloc {o : Oper} {ρ : Operand -> Value} {w : World} (t : TypeId) (ho : o.op = .alloc t) (Z : Array Value) (hz : (Tryd.prog.info? t).map (·.zero) = some (some (.agg Z))) :
  (execOp ρ o).run Tryd.prog w = .ok (.value (.pointer (some ⟨w.heap.size, 0, none⟩))) (w.alloc (.cells Z t)) := by
 cases hq : Tryd.prog.info? t with
 | none => simp [hq] at hz
 | some i =>
  have hs : i.zero = some (.agg Z) := by simpa [hq] using hz
  unfold execOp
  simp [ho, Instr.alloc, zeroValue, typeInfo, hq, hs, newVar, newRow, Value.cells, Sem.run_bind]
theorem exec_built {o : Oper} {ρ : Operand -> Value} {w : World} (t : TypeId) (parts : List (Nat × Operand)) (ho : o.op = .build t parts.toArray) (ps : List (Nat × Value)) (hp : parts.map (fun x => (x.1, ρ x.2)) = ps) (cells : Array Value) (h : Tryd.prog.built t ps = some cells) :
  (execOp ρ o).run Tryd.prog w = .ok (.value (.agg cells)) w := by
 have h' : Tryd.prog.built t (parts.toArray.map fun (i, x) => (i, ρ x)).toList = some cells := by
  rw [<- h, <- hp]; simp
 unfold execOp
 simp only [ho, Sem.run_bind, run_build w t _ cells h', Result.andThen_ok]
 rfl
theorem But.setCells {G : Nat} : ∀ (cs : List Value) (o : Nat) {w w' : World}, But G w w' -> But G w (w'.setCells G o cs)
 | [], _, _, _, h => h
 | v :: r, o, _, _, h => But.setCells r (o + 1) (h.setCell o v)
theorem setCells_row (g : Nat) (t : TypeId) : ∀ (cs : List Value) (o : Nat) (cur : List Value) (w : World), w.heap[g]? = some (.cells cur.toArray t (0, 0)) -> o + cs.length <= cur.length -> (w.setCells g o cs).heap[g]? = some (.cells (splice cur o cs).toArray t (0, 0))
 | [], o, cur, w, h, _ => by rw [splice_nil]; exact h
 | v :: r, o, cur, w, h, hl => by
  rw [World.setCells]
  have h1 := heap_setCell_same w g o _ t v h
  rw [List.setIfInBounds_toArray] at h1
  simp only [List.length_cons] at hl
  rw [setCells_row g t r (o + 1) _ _ h1 (by simp; omega)]
  congr 2
  have ho : o < cur.length := by omega
  simp only [splice, List.length_cons]
  rw [List.take_set, List.drop_set_of_lt (by omega), List.take_add_one, List.set_append]
  have hm : min o cur.length = o := by omega
  simp [ho, hm, Nat.add_assoc, Nat.add_comm 1]
theorem there_row {w : World} {g o n : Nat} {cs : Array Value} {t : TypeId} (hg : w.heap[g]? = some (.cells cs t (0, 0))) (h : o + n <= cs.size) : w.there g o n := by
 intro j hj
 refine ⟨?_, frozen_of_row w g _ cs t hg⟩
 rw [cell_of_row _ _ _ _ _ _ hg]
 have : o + j < cs.size := by omega
 simp [this]
theorem range_arr {w : World} {g o : Nat} {cs : Array Value} {t : TypeId} {fr : Nat × Nat} (hg : w.heap[g]? = some (.cells cs t fr)) (L : List Value) (h : ∀ j v, L[j]? = some v -> cs[o + j]? = some v) : w.rangeAt g o L := by
 intro j v hv
 rw [cell_of_row _ _ _ _ _ _ hg]
 exact h j v hv
theorem exec_load_mid {P : Program} {o : Oper} {ρ : Operand -> Value} {w' : World} (t : TypeId) (d : TypeDesc) (x : Operand) (ho : o.op = .load t x) (hu : P.underlying t = some d) (hd : d.isRow = true) (b off : Nat) (hx : ρ x = .pointer (some ⟨b, off, none⟩)) (cs : List Value) (hi : (P.info? t).map (·.size) = some cs.length) (hc : w'.rangeAt b off cs) :
  (execOp ρ o).run P w' = .ok (.value (.agg cs.toArray)) w' := by
 unfold execOp
 simp only [ho, hx, Instr.loadAt, Instr.sureAddr, Sem.run_bind, Sem.run_pure, Result.andThen_ok, run_loadVar_mid w' b off t cs d hc hu hd hi]
theorem splice_set (cs : List Value) (o : Nat) (v : Value) (r : List Value) (h : o + (r.length + 1) <= cs.length) : splice (cs.set o v) (o + 1) r = splice cs o (v :: r) := by
 simp only [splice, List.length_cons] at *
 have ho : o < cs.length := by omega
 have hm : min o cs.length = o := by omega
 rw [List.take_set, List.drop_set_of_lt (by omega), List.take_add_one, List.set_append]
 simp [ho, hm, Nat.add_assoc, Nat.add_comm 1]
theorem fold_splice : ∀ (l : List Value) (k off : Nat) (cs : Array Value), off + k + l.length <= cs.size -> (l.zipIdx k).foldl (fun cs x => cs.setIfInBounds (off + x.2) x.1) cs = (splice cs.toList (off + k) l).toArray
 | [], k, off, cs, h => by simp [splice]
 | v :: r, k, off, cs, h => by
  simp only [List.length_cons] at h
  rw [List.zipIdx_cons, List.foldl_cons]
  have ih := fold_splice r (k + 1) off (cs.setIfInBounds (off + k) v) (by simp; omega)
  simp only at ih ⊢
  rw [ih]
  congr 1
  have e : (cs.setIfInBounds (off + k) v).toList = cs.toList.set (off + k) v := by simp
  rw [e, show off + (k + 1) = off + k + 1 by omega]
  exact splice_set _ _ _ _ (by simp; omega)
theorem fill_step (place : Nat -> Option (Nat × Nat)) (cells : Array Value) (i off size : Nat) (A : Array Value) (rest : List (Nat × Value)) (hp : place i = some (off, size)) (hA : A.size = size) (hf : off + size <= cells.size) :
  Instr.fill place cells ((i, .agg A) :: rest) = Instr.fill place (splice cells.toList off A.toList).toArray rest := by
 have hc : (Value.agg A).cells = A := rfl
 have h1 : ¬ (A.size ≠ size || off + A.size > cells.size) = true := by simp; omega
 rw [Instr.fill, hp]
 simp only [hc]
 rw [if_neg h1]
 congr 1
 rw [<- Array.foldl_toList, Array.toList_zipIdx]
 have := fold_splice A.toList 0 off cells (by simp; omega)
 rw [Nat.add_zero] at this
 rw [<- this]
theorem eqF_cons (d : Nat) (xs ys : Array Value) (f : Field) (fs : List Field) (hf : (f.name != "_") = true) : Op.eqFields d xs ys (f :: fs) = (do
   let a <- part f.type xs f.offset
   let b <- part f.type ys f.offset
   let r <- Op.equalIn d f.type a b
   if (!r) = true then pure false else Op.eqFields d xs ys fs) := by
 have h : f.name ≠ "_" := by simpa using hf
 rw [Op.eqFields, if_pos h]
theorem eqF_step (d : Nat) (xs ys : Array Value) (f : Field) (fs : List Field) (t : TypeId) (o : Nat) (hf : (f.name != "_") = true) (ht : f.type = t) (ho : f.offset = o) (x y : Value) (w : World) (hx : (part t xs o).run Tryd.prog w = .ok x w) (hy : (part t ys o).run Tryd.prog w = .ok y w) (b c : Bool) (he : (Op.equalIn d t x y).run Tryd.prog w = .ok b w) (hr : (Op.eqFields d xs ys fs).run Tryd.prog w = .ok c w) :
  (Op.eqFields d xs ys (f :: fs)).run Tryd.prog w = .ok (b && c) w := by
 subst ht ho
 rw [eqF_cons d xs ys f fs hf]
 simp only [Sem.run_bind, hx, hy, he, Result.andThen_ok]
 cases b
 ·simp
 ·simpa using hr
theorem atStore {P : Program} {ops : Array Oper} {Q : Exit -> Act -> World -> Prop} {rest : List Oper} {a : Act} {w : World} (t : TypeId) {x y : Operand} {d : Option Tmp} {ty : TypeId} {p : String} {af : Array Edge} {g : Option (Nat × Bool)} (h : wpList P ops Q ({ dst := d, op := .store t x y, type := ty, pos := p, after := af, guard := g } :: rest) a w) : wpList P ops Q ({ dst := d, op := .store t x y, type := ty, pos := p, after := af, guard := g } :: rest) a w := h
theorem atLoad {P : Program} {ops : Array Oper} {Q : Exit -> Act -> World -> Prop} {rest : List Oper} {a : Act} {w : World} (t : TypeId) {x : Operand} {d : Option Tmp} {ty : TypeId} {p : String} {af : Array Edge} {g : Option (Nat × Bool)} (h : wpList P ops Q ({ dst := d, op := .load t x, type := ty, pos := p, after := af, guard := g } :: rest) a w) : wpList P ops Q ({ dst := d, op := .load t x, type := ty, pos := p, after := af, guard := g } :: rest) a w := h
theorem atBuild {P : Program} {ops : Array Oper} {Q : Exit -> Act -> World -> Prop} {rest : List Oper} {a : Act} {w : World} (t : TypeId) {x : Array (Nat × Operand)} {d : Option Tmp} {ty : TypeId} {p : String} {af : Array Edge} {g : Option (Nat × Bool)} (h : wpList P ops Q ({ dst := d, op := .build t x, type := ty, pos := p, after := af, guard := g } :: rest) a w) : wpList P ops Q ({ dst := d, op := .build t x, type := ty, pos := p, after := af, guard := g } :: rest) a w := h
theorem atConv {P : Program} {ops : Array Oper} {Q : Exit -> Act -> World -> Prop} {rest : List Oper} {a : Act} {w : World} (t u : TypeId) {x : Operand} {d : Option Tmp} {ty : TypeId} {p : String} {af : Array Edge} {g : Option (Nat × Bool)} (h : wpList P ops Q ({ dst := d, op := .convert t u x, type := ty, pos := p, after := af, guard := g } :: rest) a w) : wpList P ops Q ({ dst := d, op := .convert t u x, type := ty, pos := p, after := af, guard := g } :: rest) a w := h
theorem atBin {P : Program} {ops : Array Oper} {Q : Exit -> Act -> World -> Prop} {rest : List Oper} {a : Act} {w : World} (b : BinOp) (t : TypeId) {x y : Operand} {u : TypeId} {d : Option Tmp} {ty : TypeId} {p : String} {af : Array Edge} {g : Option (Nat × Bool)} (h : wpList P ops Q ({ dst := d, op := .binOp b t x y u, type := ty, pos := p, after := af, guard := g } :: rest) a w) : wpList P ops Q ({ dst := d, op := .binOp b t x y u, type := ty, pos := p, after := af, guard := g } :: rest) a w := h
theorem wpList_runG {ops : Array Oper} {rest : List Oper} {o : Oper} {a : Act} {w : World} {Q : Exit -> Act -> World -> Prop} (hw : Region.wanted o (yielded ops a.tmps) = true) (v : Value) (w' : World) (hr : (execOp a.eval o).run Tryd.prog w = .ok (.value v) w') (h : wpList Tryd.prog ops Q rest (a.put o.dst v) w') : wpList Tryd.prog ops Q (o :: rest) a w :=
 BigFrame.wpList_want hw fun _ hK => by unfold Oper.wp; rw [hr]; exact hK _ _ h
theorem wpList_ldMid {ops : Array Oper} {rest : List Oper} {o : Oper} {a : Act} {w : World} {Q : Exit -> Act -> World -> Prop} (hg : o.guard = none) (t : TypeId) (d : TypeDesc) (x : Operand) (ho : o.op = .load t x) (hu : Tryd.prog.underlying t = some d) (hd : d.isRow = true) (b off : Nat) (hx : a.eval x = .pointer (some ⟨b, off, none⟩)) (cs : List Value) (hi : (Tryd.prog.info? t).map (·.size) = some cs.length) (hc : w.rangeAt b off cs)
  (h : wpList Tryd.prog ops Q rest (a.put o.dst (.agg cs.toArray)) w) : wpList Tryd.prog ops Q (o :: rest) a w := wpList_run hg _ _ (exec_load_mid t d x ho hu hd b off hx cs hi hc) h
theorem atAlloc {P : Program} {ops : Array Oper} {Q : Exit -> Act -> World -> Prop} {rest : List Oper} {a : Act} {w : World} (t : TypeId) {d : Option Tmp} {ty : TypeId} {p : String} {af : Array Edge} {g : Option (Nat × Bool)} (h : wpList P ops Q ({ dst := d, op := .alloc t, type := ty, pos := p, after := af, guard := g } :: rest) a w) : wpList P ops Q ({ dst := d, op := .alloc t, type := ty, pos := p, after := af, guard := g } :: rest) a w := h
theorem atIdx {P : Program} {ops : Array Oper} {Q : Exit -> Act -> World -> Prop} {rest : List Oper} {a : Act} {w : World} (t : TypeId) {x y : Operand} {d : Option Tmp} {ty : TypeId} {p : String} {af : Array Edge} {g : Option (Nat × Bool)} (h : wpList P ops Q ({ dst := d, op := .indexAddr t x y, type := ty, pos := p, after := af, guard := g } :: rest) a w) : wpList P ops Q ({ dst := d, op := .indexAddr t x y, type := ty, pos := p, after := af, guard := g } :: rest) a w := h
theorem below_drewN {B : Nat} {w x : World} (h : Below B w x) (n : Nat) : Below B w (x.drewN n) := ⟨h.os, h.tape, h.output, h.size, h.block⟩
theorem wpList_newRow {ops : Array Oper} {rest : List Oper} {o : Oper} {a : Act} {v : World} {Q : Exit -> Act -> World -> Prop} {u : TypeId} (w : World) (Z C : Array Value) (hi : (Tryd.prog.info? u).map (·.size) = some C.size) (hZ : Z.size = C.size) (h1 : C.all (·.oneCell') = true) (hgd : o.guard = none) (x y : Operand) (ho : o.op = .store u x y)
  (hx : a.eval x = .pointer (some ⟨w.heap.size, 0, none⟩)) (hy : a.eval y = .agg C) (hv : v = w.alloc (.cells Z u))
  (h : ∀ z, z.heap[w.heap.size]? = some (.cells C u (0, 0)) -> Below w.heap.size w z -> wpList Tryd.prog ops Q rest (a.put o.dst undef) z) : wpList Tryd.prog ops Q (o :: rest) a v := by
 subst hv
 exact wpList_store_row hgd u x y ho w.heap.size C hx hy u Z (al_at rfl) hi hZ h1 (h _ (setRow_heap _ _ _ _ _ _ (al_at rfl)) (below_setRow ((Below.refl _ _).alloc (Nat.le_refl _) _) (Nat.le_refl _) _))
theorem flat_at (L : List (List Value)) (sz : Nat) (hL : ∀ x ∈ L, x.length = sz) (k : Nat) (hk : k < L.length) (j : Nat) (hj : j < sz) : L.flatten[sz * k + j]? = (L[k])[j]? := by
 induction L generalizing k with
 | nil => simp at hk
 | cons x L ih =>
  have hx : x.length = sz := hL x (by simp)
  cases k with
  | zero => simp [List.getElem?_append, hx, hj]
  | succ k =>
   have h1 : sz * (k + 1) + j - x.length = sz * k + j := by rw [hx, Nat.mul_succ]; omega
   rw [List.flatten_cons, List.getElem?_append_right (by rw [hx, Nat.mul_succ]; omega), h1, ih (fun y hy => hL y (by simp [hy])) k (by simpa using hk)]
   simp
theorem flat_length (L : List (List Value)) (sz : Nat) (hL : ∀ x ∈ L, x.length = sz) : L.flatten.length = L.length * sz := by
 induction L with
 | nil => simp
 | cons x L ih => simp [hL x (by simp), ih (fun y hy => hL y (by simp [hy])), Nat.succ_mul]; omega
theorem own_same {w w' : World} {base n : Nat} {e : TypeId} {sz : Nat} {v : Value} {xs : List Value} (h : w.ownsRow base e sz v n xs) (hs : ∀ k, v.ownBlock = some k -> w'.heap[k]? = w.heap[k]?) : w'.ownsRow base e sz v n xs := by
 refine ⟨h.1, ?_⟩
 rcases h.2 with hn | ⟨g, cap, cur, rfl, hb, hgg, rest⟩
 ·exact .inl hn
 ·exact .inr ⟨g, cap, cur, rfl, hb, by rw [hs g rfl]; exact hgg, rest⟩
theorem own_form2 {w : World} {base n : Nat} {e : TypeId} {sz : Nat} {v : Value} {xs : List Value} (h : w.ownsRow base e sz v n xs) : ∃ a cap, v = .slice a n cap := by
 rcases h.2 with ⟨rfl, rfl⟩ | ⟨g, cap, cur, rfl, _⟩
 ·exact ⟨_, _, rfl⟩
 ·exact ⟨_, _, rfl⟩
theorem news_new (w : World) (cs : List Value) (e : TypeId) : ∀ j u, cs[j]? = some u -> (w.alloc (.cells cs.toArray e)).cell? ((⟨w.heap.size, 0, none⟩ : Addr).add j) = some u := by
 intro j u hj
 rw [Addr.add_lit, Nat.zero_add, cell_of_row _ _ _ _ _ _ (al_at rfl)]
 simpa using hj
theorem exec_load1 {P : Program} {o : Oper} {ρ : Operand -> Value} {w' : World} (t : TypeId) (d : TypeDesc) (x : Operand) (ho : o.op = .load t x) (hu : P.underlying t = some d) (hd : d.isRow = false) (ad : Addr) (hx : ρ x = .pointer (some ad)) (v : Value) (hc : w'.cell? ad = some v) :
  (execOp ρ o).run P w' = .ok (.value v) w' := by
 have hagg : (isAgg t).run P w' = .ok false w' := by
  unfold isAgg
  rw [Sem.run_bind, run_underlying hu w']
  cases d <;> simp_all
 unfold execOp
 simp [ho, hx, Instr.loadAt, Instr.sureAddr, loadVar, Sem.run_bind, hagg, load, Sem.run, hc]
theorem cell_al {w : World} {a : Addr} {v : Value} (o : Obj) (h : w.cell? a = some v) : (w.alloc o).cell? a = some v := by
 rw [World.cell?_alloc_lt _ _ _ (World.block_lt_of_cell? w _ h)]
 exact h
theorem results_cell {fn : Func} {t : Tmp} {ty : TypeId} (h : fn.results = #[.cell t ty]) (tmps : Array Value) (w : World) (b : Nat) (cs : List Value) (d : TypeDesc) (ht : tmps.getD t undef = .pointer (some ⟨b, 0, none⟩)) (hc : w.rangeAt b 0 cs) (hu : Tryd.prog.underlying ty = some d) (hd : d.isRow = true) (hi : (Tryd.prog.info? ty).map (·.size) = some cs.length) :
  (results fn tmps).run Tryd.prog w = .ok (.agg cs.toArray) w := by
 have hl := run_loadVar_mid (P := Tryd.prog) w b 0 ty cs d hc hu hd hi
 simp only [Array.getD_eq_getD_getElem?] at ht
 simp [results, h, ht, hl, asAddr]
theorem eqIn_nil {P : Program} (w : World) (n : Nat) (t e : TypeId) (a : Option Addr) (l c : Nat) (h : P.underlying t = some (.slice e)) : (Op.equalIn (n + 1) t (.slice a l c) (.slice none 0 0)).run P w = .ok a.isNone w := by
 cases a <;> simp [Op.equalIn, run_underlying h]
theorem eql_nil {P : Program} (w : World) (t e : TypeId) (a : Option Addr) (l c : Nat) (h : P.underlying t = some (.slice e)) : (binOp .eql t (.slice a l c) (.slice none 0 0)).run P w = .ok (.bool a.isNone) w := by
 have h1 : (Op.equal t (.slice a l c) (.slice none 0 0)).run P w = .ok a.isNone w := eqIn_nil w 9999 t e a l c h
 simp only [binOp]
 simp [h1]
theorem below_grown {w w2 : World} {o : Obj} {row : Option Nat} (hg : (w.alloc o).grownBy w2 row) (hr : ∀ k, row = some k -> w.heap.size <= k) : Below w.heap.size w w2 :=
 ((Below.refl _ w).alloc (Nat.le_refl _) o).grown hg (by simp) hr
section keep
variable {P : Program} {md : Region.Mode} {ops : Array Oper} {Q : Exit -> Act -> World -> Prop} {S : World -> Prop}
theorem keep_step {i : Nat} {o : Oper} {K : Act -> World -> Prop} {a : Act} {w : World} (ho : ops[i]? = some o) (hw : Region.wanted o (yielded ops a.tmps) = true) (h : Oper.wp P o a w K Q) : wpOp P ops Q i K a w := by
 unfold wpOp
 simp only [ho, hw, if_true]
 exact .inl h
theorem one_keep {i : Nat} {fuel : Nat} {listed : Array Bool} {a : Act} {w : World} (hr : Region.ready md ops listed = [i]) (h : wpOp P ops Q i (fun a' w' => S w' /\ wpAnyH P md ops Q S fuel (listed.setIfInBounds i true) a' w') a w) : wpAnyH P md ops Q S (fuel + 1) listed a w := by
 refine wpAnyH_all hr (by simp) (fun j hj => ?_)
 simp only [List.mem_cons, List.not_mem_nil, or_false] at hj
 subst hj
 exact h
theorem two_keep {i j : Nat} {fuel : Nat} {listed : Array Bool} {a : Act} {w : World} (hr : Region.ready md ops listed = [i, j]) (h : wpOp P ops Q i (fun a' w' => S w' /\ wpAnyH P md ops Q S fuel (listed.setIfInBounds i true) a' w') a w)
  (h2 : wpOp P ops Q j (fun a' w' => S w' /\ wpAnyH P md ops Q S fuel (listed.setIfInBounds j true) a' w') a w) : wpAnyH P md ops Q S (fuel + 1) listed a w := by
 refine wpAnyH_all hr (by simp) (fun k hk => ?_)
 simp only [List.mem_cons, List.not_mem_nil, or_false] at hk
 rcases hk with rfl | rfl
 ·exact h
 ·exact h2
theorem begin_keep {id : Nat} {a : Act} {w : World} (hm : P.follows .mixedOrders = true) (h : ∀ wd, wd = w.drew -> wpAnyH P .any ops Q S ops.size (Array.replicate ops.size false) a wd) : (Code.region id ops true).wp P Q a w :=
 wp_region_held (S := S) hm (h _ rfl)
theorem take_s {i : Nat} {oi : Oper} {v : Value} {fuel : Nat} {listed : Array Bool} {a : Act} {w : World} (hi : ops[i]? = some oi)
  (hs : Region.noSelect ops = true) (hf : Region.free md ops listed i = true) (hr : (Region.ready md ops listed).contains i = true)
  (hQ : ∀ c a w, Q (.panic c) (a.put oi.dst v) w -> Q (.panic c) a w) (hw : Region.wanted oi (yielded ops a.tmps) = true)
  (hv : ∀ w', S w' -> (execOp a.eval oi).run P w' = .ok (.value v) w') (hS : S w)
  (h : wpAnyH P md ops Q S fuel (listed.setIfInBounds i true) (a.put oi.dst v) w) : wpAnyH P md ops Q S (fuel + 1) listed a w :=
 wpAnyH_take hi hs hf hr hQ (Or.inl ⟨hw, hv⟩) hS h
theorem take_x {i : Nat} {oi : Oper} {v : Value} {fuel : Nat} {listed : Array Bool} {a : Act} {w : World} (hi : ops[i]? = some oi) (hv : ∀ w', S w' -> (execOp a.eval oi).run P w' = .ok (.value v) w') (hS : S w)
  (h : wpAnyH P md ops Q S fuel (listed.setIfInBounds i true) (a.put oi.dst v) w) (hs : Region.noSelect ops = true := by kernel_rfl) (hf : Region.free md ops listed i = true := by kernel_rfl) (hr : (Region.ready md ops listed).contains i = true := by kernel_rfl)
  (hQ : ∀ c a w, Q (.panic c) (a.put oi.dst v) w -> Q (.panic c) a w := by exact fun _ _ _ h => h) (hw : Region.wanted oi (yielded ops a.tmps) = true := by rfl) : wpAnyH P md ops Q S (fuel + 1) listed a w :=
 take_s hi hs hf hr hQ hw hv hS h
end keep
structure Im where
 blk : Int
 ba : Option Addr
 bl : Nat
 bc : Nat
 bs : List Int
def imc (m : Im) : List Value := [.int .u64 m.blk, .slice m.ba m.bl m.bc]
structure Rc where
 m : Im
 l : Bool
def rcc (r : Rc) : List Value := [.int .u64 r.m.blk, .slice r.m.ba r.m.bl r.m.bc, .bool r.l]
def ic (x : Int × List Int) : List Value := [.int .u64 x.1, .string (strOfNums x.2)]
def rrc (x : (Int × List Int) × Bool) : List Value := [.int .u64 x.1.1, .string (strOfNums x.1.2), .bool x.2]
def pl (m : Im) : Int × List Int := (m.blk, m.bs)
def rpl (r : Rc) : (Int × List Int) × Bool := (pl r.m, r.l)
def N64 (x : Int) : Prop := 0 <= x /\ x <= 18446744073709551615
def Tb {α : Type} (w : World) (a : Option Addr) (sz : Nat) (f : α -> List Value) (M : List α) : Prop :=
 0 < M.length -> ∃ b o, a = some ⟨b, o, none⟩ /\ b < w.heap.size /\ ∀ i (h : i < M.length), w.rangeAt b (o + i * sz) (f M[i])
theorem range_below {w w' : World} {b o B : Nat} {cs : List Value} (hb : Below B w w') (h : w.rangeAt b o cs) (hlt : b < B) : w'.rangeAt b o cs := fun j v hv => (hb.cell hlt).trans (h j v hv)
theorem Tb.below {α : Type} {w w' : World} {a : Option Addr} {sz : Nat} {f : α -> List Value} {M : List α} (h : Tb w a sz f M) (hb : Below w.heap.size w w') : Tb w' a sz f M := fun hp => by
 obtain ⟨b, o, e, hlt, hr⟩ := h hp
 exact ⟨b, o, e, Nat.lt_of_lt_of_le hlt hb.size, fun i hi => range_below hb (hr i hi) hlt⟩
theorem flat_len {α : Type} (f : α -> List Value) (sz : Nat) (hf : ∀ x, (f x).length = sz) (M : List α) : (M.map f).flatten.length = M.length * sz := by
 rw [flat_length _ sz (fun x hx => by obtain ⟨y, _, rfl⟩ := List.mem_map.1 hx; exact hf y), List.length_map]
theorem flat_get {α : Type} (f : α -> List Value) (sz : Nat) (hf : ∀ x, (f x).length = sz) (M : List α) (i : Nat) (hi : i < M.length) (j : Nat) (hj : j < sz) : (M.map f).flatten[i * sz + j]? = (f M[i])[j]? := by
 have := flat_at (M.map f) sz (fun x hx => by obtain ⟨y, _, rfl⟩ := List.mem_map.1 hx; exact hf y) i (by simpa using hi) j hj
 rw [Nat.mul_comm i sz, this]
 simp
theorem own_tb {α : Type} {w : World} {B n c : Nat} {e : TypeId} {sz : Nat} {a : Option Addr} {f : α -> List Value} {M : List α} (hf : ∀ x, (f x).length = sz) (h : w.ownsRow B e sz (.slice a n c) n (M.map f).flatten) (hn : M.length = n) : Tb w a sz f M := fun hp => by
 have h' := h
 rcases h.2 with ⟨_, h0⟩ | ⟨g, cap, cur, h3, _, hg, _⟩
 ·omega
 ·simp only [Value.slice.injEq, true_and] at h3
  obtain ⟨rfl, rfl⟩ := h3
  refine ⟨g, 0, rfl, (Array.getElem?_eq_some_iff.1 hg).1, fun i hi j v hv => ?_⟩
  have hj : j < sz := by
   have := (List.getElem?_eq_some_iff.1 hv).1
   rw [hf] at this
   exact this
  have h4 := h'.cells (g := g) rfl (i * sz + j) v (by rw [flat_get f sz hf M i hi j hj]; exact hv)
  rw [Addr.add_lit] at h4
  rw [show 0 + i * sz + j = 0 + (i * sz + j) by omega]
  exact h4
theorem own_to {w w' : World} {base n : Nat} {e : TypeId} {sz : Nat} {v : Value} {xs : List Value} (h : w.ownsRow base e sz v n xs) (hb : Below w.heap.size w w') : w'.ownsRow base e sz v n xs := own_same h (fun k hk => hb.block k (h.lt k hk).2)
theorem own_low2 {w : World} {base base' n : Nat} {e : TypeId} {sz : Nat} {v : Value} {xs : List Value} (h : w.ownsRow base e sz v n xs) (hb : base' <= base) : w.ownsRow base' e sz v n xs := by
 refine ⟨h.1, ?_⟩
 rcases h.2 with hn | ⟨g, cap, cur, rfl, hbb, rest⟩
 ·exact .inl hn
 ·exact .inr ⟨g, cap, cur, rfl, Nat.le_trans hb hbb, rest⟩
theorem own_blk {w : World} {base n : Nat} {e : TypeId} {sz : Nat} {v : Value} {xs : List Value} (h : w.ownsRow base e sz v n xs) : ∀ k, v.ownBlock = some k -> base <= k /\ ∃ cur, w.heap[k]? = some (.cells cur e (0, 0)) := by
 intro k hk
 rcases h.2 with ⟨rfl, _⟩ | ⟨g, cap, cur, rfl, hb, hg, _⟩
 ·cases hk
 ·cases hk
  exact ⟨hb, cur, hg⟩
theorem own_ne {w : World} {base n base' n' : Nat} {e e' : TypeId} {sz sz' : Nat} {v v' : Value} {xs xs' : List Value} (h : w.ownsRow base e sz v n xs) (h' : w.ownsRow base' e' sz' v' n' xs') (hne : e ≠ e') : ∀ k, v.ownBlock = some k -> v'.ownBlock ≠ some k := fun k hk hk' => by
 obtain ⟨_, c1, h1⟩ := own_blk h k hk
 obtain ⟨_, c2, h2⟩ := own_blk h' k hk'
 rw [h1] at h2
 simp only [Option.some.injEq, Obj.cells.injEq] at h2
 exact hne h2.2.1
structure Imgs (w : World) (a : Option Addr) (M : List Im) : Prop where
 tb : Tb w a 2 imc M
 byt : ∀ m ∈ M, Bytes w m.ba m.bl m.bs /\ N64 m.blk /\ m.bl <= m.bc /\ m.bc <= maxLen
theorem Imgs.below {w w' : World} {a : Option Addr} {M : List Im} (h : Imgs w a M) (hb : Below w.heap.size w w') : Imgs w' a M :=
 ⟨h.tb.below hb, fun m hm => ⟨(h.byt m hm).1.below hb, (h.byt m hm).2⟩⟩
structure OIm (w : World) (B : Nat) (m : Im) : Prop where
 own : w.ownsRow B 5 1 (.slice m.ba m.bl m.bc) m.bl (m.bs.map (Value.int .u8))
 byt : Byt m.bs
 num : N64 m.blk
theorem OIm.to {w w' : World} {B : Nat} {m : Im} (h : OIm w B m) (hb : Below w.heap.size w w') : OIm w' B m := ⟨own_to h.own hb, h.byt, h.num⟩
theorem OIm.low {w : World} {B B' : Nat} {m : Im} (h : OIm w B m) (hb : B' <= B) : OIm w B' m := ⟨own_low2 h.own hb, h.byt, h.num⟩
theorem OIm.byi {w : World} {B : Nat} {m : Im} (h : OIm w B m) : Bytes w m.ba m.bl m.bs /\ N64 m.blk /\ m.bl <= m.bc /\ m.bc <= maxLen :=
 ⟨own_bytes h.own h.byt, h.num, own_cap h.own⟩
theorem OIm.grown {w w' : World} {B B' n : Nat} {e : TypeId} {sz : Nat} {v : Value} {xs : List Value} {m : Im} (h : OIm w B m) (hv : w.ownsRow B' e sz v n xs) (he : e ≠ 5) (hg : w.grownBy w' v.ownBlock) : OIm w' B m :=
 ⟨own_same h.own (fun k hk => hg.block k (h.own.lt k hk).2 (fun e' => own_ne hv h.own he k e'.symm hk)), h.byt, h.num⟩
structure OImgs (w : World) (B : Nat) (v : Value) (M : List Im) : Prop where
 row : w.ownsRow B 65 2 v M.length (M.map imc).flatten
 byt : ∀ m ∈ M, OIm w B m
theorem OImgs.imgs {w : World} {B c : Nat} {a : Option Addr} {M : List Im} (h : OImgs w B (.slice a M.length c) M) : Imgs w a M := ⟨own_tb (fun _ => rfl) h.row rfl, fun m hm => (h.byt m hm).byi⟩
structure ORecs (w : World) (B : Nat) (v : Value) (R : List Rc) : Prop where
 row : w.ownsRow B 101 3 v R.length (R.map rcc).flatten
 byt : ∀ r ∈ R, OIm w B r.m
theorem ORecs.to {w w' : World} {B : Nat} {v : Value} {R : List Rc} (h : ORecs w B v R) (hb : Below w.heap.size w w') : ORecs w' B v R := ⟨own_to h.row hb, fun m hm => (h.byt m hm).to hb⟩
theorem zeroIm : (Tryd.prog.info? 65).map (·.zero) = some (some (.agg #[.int .u64 0, .slice none 0 0])) := by kernel_rfl
theorem infoIm : (Tryd.prog.info? 65).map (·.size) = some 2 := by kernel_rfl
theorem infIm : (Tryd.prog.info? 65).map (fun i => (i.zero, i.size, i.bytes)) = some (some (.agg #[.int .u64 0, .slice none 0 0]), 2, 32) := by kernel_rfl
theorem zeroRc : (Tryd.prog.info? 101).map (·.zero) = some (some (.agg #[.int .u64 0, .slice none 0 0, .bool false])) := by kernel_rfl
theorem infoRc : (Tryd.prog.info? 101).map (·.size) = some 3 := by kernel_rfl
theorem infRc : (Tryd.prog.info? 101).map (fun i => (i.zero, i.size, i.bytes)) = some (some (.agg #[.int .u64 0, .slice none 0 0, .bool false]), 3, 40) := by kernel_rfl
theorem exec_idxT {op : Oper} {ρ : Operand -> Value} {w' : World} (t e : TypeId) (hu : Tryd.prog.underlying t = some (.slice e)) (sz : Nat) (hi : (Tryd.prog.info? e).map (·.size) = some sz) (x y : Operand) (ho : op.op = .indexAddr t x y) (b o len cap j : Nat) (hx : ρ x = .slice (some ⟨b, o, none⟩) len cap) (hy : ρ y = .int .i64 (j : Int)) (hj : j < len) :
  (execOp ρ op).run Tryd.prog w' = .ok (.value (.pointer (some ⟨b, o + j * sz, none⟩))) w' := by
 have hc : (0 : Int) <= (j : Int) /\ (j : Int) < (len : Int) := by omega
 have hs : (sizeOf e).run Tryd.prog w' = .ok sz w' := by
  cases hq : Tryd.prog.info? e with
  | none => simp [hq] at hi
  | some i =>
   have h1 : i.size = sz := by simpa [hq] using hi
   simp [sizeOf, typeInfo, hq, h1]
 unfold execOp
 simp [ho, hx, hy, Instr.indexAt, asIntOf, Sem.run_bind, run_underlying hu, hc, Addr.add_mid, hs]
 intro hh; omega
end Go.Proofs.YthfobaeafapbnaaDoor
