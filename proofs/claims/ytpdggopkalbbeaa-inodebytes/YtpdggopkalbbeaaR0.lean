/-
  Blocks, rows and structs of the model's memory as one operation makes, reads and compares them; images and records in memory. Of the program only its types are named.
-/
import Derived.Test.YtpdggopkalbbeaaV5
import Derived.Test.YtpdggopkalbbeaaSeq
import Derived.BigRegion
import Derived.BigQuiet
import Derived.Laws.StructEq
import Derived.ChangeKeysEq
import Derived.Laws.Rows
import Derived.Laws.Tables
import Derived.Laws.ResultCell
namespace Go.Proofs.Ytpdggopkalbbeaa
set_option linter.unusedVariables false
open Go.RowKit Plain

/-- An operation whose value and world are known. -/
theorem wpList_run {ops : Array Oper} {rest : List Oper} {o : Oper} {a : Act} {w : World} {Q : Exit → Act → World → Prop} (hg : o.guard = none) (v : Value) (w' : World) (hr : (execOp a.eval o).run Try.prog w = .ok (.value v) w') (h : wpList Try.prog ops Q rest (a.put o.dst v) w') : wpList Try.prog ops Q (o :: rest) a w :=
  wpList_plain hg fun _ hK => by unfold Oper.wp; rw [hr]; exact hK _ _ h
theorem exec_alloc {o : Oper} {ρ : Operand → Value} {w : World} (t : TypeId) (ho : o.op = .alloc t) (Z : Array Value) (hz : (Try.prog.info? t).map (·.zero) = some (some (.agg Z))) :
    (execOp ρ o).run Try.prog w = .ok (.value (.pointer (some ⟨w.heap.size, 0, none⟩))) (w.alloc (.cells Z t)) := by
  cases hq : Try.prog.info? t with
  | none => simp [hq] at hz
  | some i =>
    have hs : i.zero = some (.agg Z) := by simpa [hq] using hz
    unfold execOp
    simp [ho, Instr.alloc, zeroValue, typeInfo, hq, hs, newVar, newRow, Value.cells, Sem.run_bind]
/-- A struct built out of parts. -/
theorem exec_built {o : Oper} {ρ : Operand → Value} {w : World} (t : TypeId) (parts : List (Nat × Operand)) (ho : o.op = .build t parts.toArray) (ps : List (Nat × Value)) (hp : parts.map (fun x => (x.1, ρ x.2)) = ps) (cells : Array Value) (h : Try.prog.built t ps = some cells) :
    (execOp ρ o).run Try.prog w = .ok (.value (.agg cells)) w := by
  have h' : Try.prog.built t (parts.toArray.map fun (i, x) => (i, ρ x)).toList = some cells := by
    rw [← h, ← hp]; simp
  unfold execOp
  simp only [ho, Sem.run_bind, run_build w t _ cells h', Result.andThen_ok]
  rfl
theorem But.setCells {G : Nat} : ∀ (cs : List Value) (o : Nat) {w w' : World}, But G w w' → But G w (w'.setCells G o cs)
  | [], _, _, _, h => h
  | v :: r, o, _, _, h => But.setCells r (o + 1) (h.setCell o v)
theorem setCells_row (g : Nat) (t : TypeId) : ∀ (cs : List Value) (o : Nat) (cur : List Value) (w : World), w.heap[g]? = some (.cells cur.toArray t (0, 0)) → o + cs.length ≤ cur.length → (w.setCells g o cs).heap[g]? = some (.cells (splice cur o cs).toArray t (0, 0))
  | [], o, cur, w, h, _ => by rw [splice_nil]; exact h
  | v :: r, o, cur, w, h, hl => by
    rw [World.setCells]
    have h1 := heap_setCell_same w g o _ t v h
    rw [List.setIfInBounds_toArray] at h1
    simp only [List.length_cons] at hl
    rw [setCells_row g t r (o + 1) _ _ h1 (by simp; omega)]
    congr 2
    have ho : o < cur.length := by omega
    simp only [splice, List.length_cons]
    rw [List.take_set, List.drop_set_of_lt (by omega), List.take_add_one, List.set_append]
    have hm : min o cur.length = o := by omega
    simp [ho, hm, Nat.add_assoc, Nat.add_comm 1]
theorem there_row {w : World} {g o n : Nat} {cs : Array Value} {t : TypeId} (hg : w.heap[g]? = some (.cells cs t (0, 0))) (h : o + n ≤ cs.size) : w.there g o n := by
  intro j hj
  refine ⟨?_, frozen_of_row w g _ cs t hg⟩
  rw [cell_of_row _ _ _ _ _ _ hg]
  have : o + j < cs.size := by omega
  simp [this]
theorem range_arr {w : World} {g o : Nat} {cs : Array Value} {t : TypeId} {fr : Nat × Nat} (hg : w.heap[g]? = some (.cells cs t fr)) (L : List Value) (h : ∀ j v, L[j]? = some v → cs[o + j]? = some v) : w.rangeAt g o L := by
  intro j v hv
  rw [cell_of_row _ _ _ _ _ _ hg]
  exact h j v hv
theorem range_bytes {w : World} {b o len : Nat} {L : List Int} (h : Bytes w (some ⟨b, o, none⟩) len L) : w.rangeAt b o (L.map (Value.int .u8)) := fun j v hv => by
  have := h.news j v hv
  rwa [Addr.add_lit] at this
theorem exec_load_mid {P : Program} {o : Oper} {ρ : Operand → Value} {w' : World} (t : TypeId) (d : TypeDesc) (x : Operand) (ho : o.op = .load t x) (hu : P.underlying t = some d) (hd : d.isRow = true) (b off : Nat) (hx : ρ x = .pointer (some ⟨b, off, none⟩)) (cs : List Value) (hi : (P.info? t).map (·.size) = some cs.length) (hc : w'.rangeAt b off cs) :
    (execOp ρ o).run P w' = .ok (.value (.agg cs.toArray)) w' := by
  unfold execOp
  simp only [ho, hx, Instr.loadAt, Instr.sureAddr, Sem.run_bind, Sem.run_pure, Result.andThen_ok, run_loadVar_mid w' b off t cs d hc hu hd hi]
theorem splice_set (cs : List Value) (o : Nat) (v : Value) (r : List Value) (h : o + (r.length + 1) ≤ cs.length) : splice (cs.set o v) (o + 1) r = splice cs o (v :: r) := by
  simp only [splice, List.length_cons] at *
  have ho : o < cs.length := by omega
  have hm : min o cs.length = o := by omega
  rw [List.take_set, List.drop_set_of_lt (by omega), List.take_add_one, List.set_append]
  simp [ho, hm, Nat.add_assoc, Nat.add_comm 1]
theorem fold_splice : ∀ (l : List Value) (k off : Nat) (cs : Array Value), off + k + l.length ≤ cs.size → (l.zipIdx k).foldl (fun cs x => cs.setIfInBounds (off + x.2) x.1) cs = (splice cs.toList (off + k) l).toArray
  | [], k, off, cs, h => by simp [splice]
  | v :: r, k, off, cs, h => by
    simp only [List.length_cons] at h
    rw [List.zipIdx_cons, List.foldl_cons]
    have ih := fold_splice r (k + 1) off (cs.setIfInBounds (off + k) v) (by simp; omega)
    simp only at ih ⊢
    rw [ih]
    congr 1
    have e : (cs.setIfInBounds (off + k) v).toList = cs.toList.set (off + k) v := by simp
    rw [e, show off + (k + 1) = off + k + 1 by omega]
    exact splice_set _ _ _ _ (by simp; omega)
theorem fill_step (place : Nat → Option (Nat × Nat)) (cells : Array Value) (i off size : Nat) (A : Array Value) (rest : List (Nat × Value)) (hp : place i = some (off, size)) (hA : A.size = size) (hf : off + size ≤ cells.size) :
    Instr.fill place cells ((i, .agg A) :: rest) = Instr.fill place (splice cells.toList off A.toList).toArray rest := by
  have hc : (Value.agg A).cells = A := rfl
  have h1 : ¬ (A.size ≠ size || off + A.size > cells.size) = true := by simp; omega
  rw [Instr.fill, hp]
  simp only [hc]
  rw [if_neg h1]
  congr 1
  rw [← Array.foldl_toList, Array.toList_zipIdx]
  have := fold_splice A.toList 0 off cells (by simp; omega)
  rw [Nat.add_zero] at this
  rw [← this]
theorem eqF_cons (d : Nat) (xs ys : Array Value) (f : Field) (fs : List Field) (hf : (f.name != "_") = true) : Op.eqFields d xs ys (f :: fs) = (do
      let a ← part f.type xs f.offset
      let b ← part f.type ys f.offset
      let r ← Op.equalIn d f.type a b
      if (!r) = true then pure false else Op.eqFields d xs ys fs) := by
  have h : f.name ≠ "_" := by simpa using hf
  rw [Op.eqFields, if_pos h]
theorem eqF_step (d : Nat) (xs ys : Array Value) (f : Field) (fs : List Field) (t : TypeId) (o : Nat) (hf : (f.name != "_") = true) (ht : f.type = t) (ho : f.offset = o) (x y : Value) (w : World) (hx : (part t xs o).run Try.prog w = .ok x w) (hy : (part t ys o).run Try.prog w = .ok y w) (b c : Bool) (he : (Op.equalIn d t x y).run Try.prog w = .ok b w) (hr : (Op.eqFields d xs ys fs).run Try.prog w = .ok c w) :
    (Op.eqFields d xs ys (f :: fs)).run Try.prog w = .ok (b && c) w := by
  subst ht ho
  rw [eqF_cons d xs ys f fs hf]
  simp only [Sem.run_bind, hx, hy, he, Result.andThen_ok]
  cases b
  · simp
  · simpa using hr
/-- Strings of bytes are the same just if the bytes are. -/
theorem exec_str {o : Oper} {ρ : Operand → Value} {w' : World} (x y : Operand) (ty : TypeId) (ho : o.op = .binOp .eql 9 x y ty) (A B : List Int) (hA : Byt A) (hB : Byt B) (hx : ρ x = .string (strOfNums A)) (hy : ρ y = .string (strOfNums B)) :
    (execOp ρ o).run Try.prog w' = .ok (.value (.bool (decide (A = B)))) w' := by
  have e := str_beq A B hA hB
  unfold execOp
  simp [ho, hx, hy, eqGuard, binOp, Op.stringOp, e]
theorem exec_strN {o : Oper} {ρ : Operand → Value} {w' : World} (x y : Operand) (ty : TypeId) (ho : o.op = .binOp .neq 9 x y ty) (A B : List Int) (hA : Byt A) (hB : Byt B) (hx : ρ x = .string (strOfNums A)) (hy : ρ y = .string (strOfNums B)) :
    (execOp ρ o).run Try.prog w' = .ok (.value (.bool (!decide (A = B)))) w' := by
  have e := str_beq A B hA hB
  unfold execOp
  simp [ho, hx, hy, eqGuard, binOp, Op.stringOp, e]
theorem exec_bb {o : Oper} {ρ : Operand → Value} {w' : World} (x y : Operand) (ty : TypeId) (ho : o.op = .binOp .eql 4 x y ty) (b : Bool) (hx : ρ x = .bool b) (hy : ρ y = .bool b) :
    (execOp ρ o).run Try.prog w' = .ok (.value (.bool true)) w' := by
  unfold execOp
  simp only [ho, hx, hy, Sem.run_bind, eqGuard]
  cases b <;> rfl
/-- Which operation comes next: nothing is done, so that an arm of a walk fails at once where another one comes. -/
theorem atStore {P : Program} {ops : Array Oper} {Q : Exit → Act → World → Prop} {rest : List Oper} {a : Act} {w : World} (t : TypeId) {x y : Operand} {d : Option Tmp} {ty : TypeId} {p : String} {af : Array Edge} {g : Option (Nat × Bool)} (h : wpList P ops Q ({ dst := d, op := .store t x y, type := ty, pos := p, after := af, guard := g } :: rest) a w) : wpList P ops Q ({ dst := d, op := .store t x y, type := ty, pos := p, after := af, guard := g } :: rest) a w := h
theorem atLoad {P : Program} {ops : Array Oper} {Q : Exit → Act → World → Prop} {rest : List Oper} {a : Act} {w : World} (t : TypeId) {x : Operand} {d : Option Tmp} {ty : TypeId} {p : String} {af : Array Edge} {g : Option (Nat × Bool)} (h : wpList P ops Q ({ dst := d, op := .load t x, type := ty, pos := p, after := af, guard := g } :: rest) a w) : wpList P ops Q ({ dst := d, op := .load t x, type := ty, pos := p, after := af, guard := g } :: rest) a w := h
theorem atSlice {P : Program} {ops : Array Oper} {Q : Exit → Act → World → Prop} {rest : List Oper} {a : Act} {w : World} (t : TypeId) {x : Operand} {lo hi mx : Option Operand} {d : Option Tmp} {ty : TypeId} {p : String} {af : Array Edge} {g : Option (Nat × Bool)} (h : wpList P ops Q ({ dst := d, op := .slice t x lo hi mx, type := ty, pos := p, after := af, guard := g } :: rest) a w) : wpList P ops Q ({ dst := d, op := .slice t x lo hi mx, type := ty, pos := p, after := af, guard := g } :: rest) a w := h
theorem atBuild {P : Program} {ops : Array Oper} {Q : Exit → Act → World → Prop} {rest : List Oper} {a : Act} {w : World} (t : TypeId) {x : Array (Nat × Operand)} {d : Option Tmp} {ty : TypeId} {p : String} {af : Array Edge} {g : Option (Nat × Bool)} (h : wpList P ops Q ({ dst := d, op := .build t x, type := ty, pos := p, after := af, guard := g } :: rest) a w) : wpList P ops Q ({ dst := d, op := .build t x, type := ty, pos := p, after := af, guard := g } :: rest) a w := h
theorem atConv {P : Program} {ops : Array Oper} {Q : Exit → Act → World → Prop} {rest : List Oper} {a : Act} {w : World} (t u : TypeId) {x : Operand} {d : Option Tmp} {ty : TypeId} {p : String} {af : Array Edge} {g : Option (Nat × Bool)} (h : wpList P ops Q ({ dst := d, op := .convert t u x, type := ty, pos := p, after := af, guard := g } :: rest) a w) : wpList P ops Q ({ dst := d, op := .convert t u x, type := ty, pos := p, after := af, guard := g } :: rest) a w := h
theorem atBin {P : Program} {ops : Array Oper} {Q : Exit → Act → World → Prop} {rest : List Oper} {a : Act} {w : World} (b : BinOp) (t : TypeId) {x y : Operand} {u : TypeId} {d : Option Tmp} {ty : TypeId} {p : String} {af : Array Edge} {g : Option (Nat × Bool)} (h : wpList P ops Q ({ dst := d, op := .binOp b t x y u, type := ty, pos := p, after := af, guard := g } :: rest) a w) : wpList P ops Q ({ dst := d, op := .binOp b t x y u, type := ty, pos := p, after := af, guard := g } :: rest) a w := h
/-- An operation that is guarded, and wanted. -/
theorem wpList_runG {ops : Array Oper} {rest : List Oper} {o : Oper} {a : Act} {w : World} {Q : Exit → Act → World → Prop} (hw : Region.wanted o (yielded ops a.tmps) = true) (v : Value) (w' : World) (hr : (execOp a.eval o).run Try.prog w = .ok (.value v) w') (h : wpList Try.prog ops Q rest (a.put o.dst v) w') : wpList Try.prog ops Q (o :: rest) a w :=
  BigFrame.wpList_want hw fun _ hK => by unfold Oper.wp; rw [hr]; exact hK _ _ h
/-- A row loaded from the midst of a block. -/
theorem wpList_ldMid {ops : Array Oper} {rest : List Oper} {o : Oper} {a : Act} {w : World} {Q : Exit → Act → World → Prop} (hg : o.guard = none) (t : TypeId) (d : TypeDesc) (x : Operand) (ho : o.op = .load t x) (hu : Try.prog.underlying t = some d) (hd : d.isRow = true) (b off : Nat) (hx : a.eval x = .pointer (some ⟨b, off, none⟩)) (cs : List Value) (hi : (Try.prog.info? t).map (·.size) = some cs.length) (hc : w.rangeAt b off cs)
    (h : wpList Try.prog ops Q rest (a.put o.dst (.agg cs.toArray)) w) : wpList Try.prog ops Q (o :: rest) a w := wpList_run hg _ _ (exec_load_mid t d x ho hu hd b off hx cs hi hc) h
theorem atAlloc {P : Program} {ops : Array Oper} {Q : Exit → Act → World → Prop} {rest : List Oper} {a : Act} {w : World} (t : TypeId) {d : Option Tmp} {ty : TypeId} {p : String} {af : Array Edge} {g : Option (Nat × Bool)} (h : wpList P ops Q ({ dst := d, op := .alloc t, type := ty, pos := p, after := af, guard := g } :: rest) a w) : wpList P ops Q ({ dst := d, op := .alloc t, type := ty, pos := p, after := af, guard := g } :: rest) a w := h
theorem atIdx {P : Program} {ops : Array Oper} {Q : Exit → Act → World → Prop} {rest : List Oper} {a : Act} {w : World} (t : TypeId) {x y : Operand} {d : Option Tmp} {ty : TypeId} {p : String} {af : Array Edge} {g : Option (Nat × Bool)} (h : wpList P ops Q ({ dst := d, op := .indexAddr t x y, type := ty, pos := p, after := af, guard := g } :: rest) a w) : wpList P ops Q ({ dst := d, op := .indexAddr t x y, type := ty, pos := p, after := af, guard := g } :: rest) a w := h
theorem below_drewN {B : Nat} {w x : World} (h : Below B w x) (n : Nat) : Below B w (x.drewN n) := ⟨h.os, h.tape, h.output, h.size, h.block⟩
/-- A row laid into a new block. -/
theorem wpList_newRow {ops : Array Oper} {rest : List Oper} {o : Oper} {a : Act} {v : World} {Q : Exit → Act → World → Prop} {u : TypeId} (w : World) (Z C : Array Value) (hi : (Try.prog.info? u).map (·.size) = some C.size) (hZ : Z.size = C.size) (h1 : C.all (·.oneCell') = true) (hgd : o.guard = none) (x y : Operand) (ho : o.op = .store u x y)
    (hx : a.eval x = .pointer (some ⟨w.heap.size, 0, none⟩)) (hy : a.eval y = .agg C) (hv : v = w.alloc (.cells Z u))
    (h : ∀ z, z.heap[w.heap.size]? = some (.cells C u (0, 0)) → Below w.heap.size w z → wpList Try.prog ops Q rest (a.put o.dst undef) z) : wpList Try.prog ops Q (o :: rest) a v := by
  subst hv
  exact wpList_store_row hgd u x y ho w.heap.size C hx hy u Z (al_at rfl) hi hZ h1 (h _ (setRow_heap _ _ _ _ _ _ (al_at rfl)) (below_setRow ((Below.refl _ _).alloc (Nat.le_refl _) _) (Nat.le_refl _) _))
theorem flat_at (L : List (List Value)) (sz : Nat) (hL : ∀ x ∈ L, x.length = sz) (k : Nat) (hk : k < L.length) (j : Nat) (hj : j < sz) : L.flatten[sz * k + j]? = (L[k])[j]? := by
  induction L generalizing k with
  | nil => simp at hk
  | cons x L ih =>
    have hx : x.length = sz := hL x (by simp)
    cases k with
    | zero => simp [List.getElem?_append, hx, hj]
    | succ k =>
      have h1 : sz * (k + 1) + j - x.length = sz * k + j := by rw [hx, Nat.mul_succ]; omega
      rw [List.flatten_cons, List.getElem?_append_right (by rw [hx, Nat.mul_succ]; omega), h1, ih (fun y hy => hL y (by simp [hy])) k (by simpa using hk)]
      simp
theorem flat_length (L : List (List Value)) (sz : Nat) (hL : ∀ x ∈ L, x.length = sz) : L.flatten.length = L.length * sz := by
  induction L with
  | nil => simp
  | cons x L ih => simp [hL x (by simp), ih (fun y hy => hL y (by simp [hy])), Nat.succ_mul]; omega
theorem own_same {w w' : World} {base n : Nat} {e : TypeId} {sz : Nat} {v : Value} {xs : List Value} (h : w.ownsRow base e sz v n xs) (hs : ∀ k, v.ownBlock = some k → w'.heap[k]? = w.heap[k]?) : w'.ownsRow base e sz v n xs := by
  refine ⟨h.1, ?_⟩
  rcases h.2 with hn | ⟨g, cap, cur, rfl, hb, hgg, rest⟩
  · exact .inl hn
  · exact .inr ⟨g, cap, cur, rfl, hb, by rw [hs g rfl]; exact hgg, rest⟩
theorem own_form2 {w : World} {base n : Nat} {e : TypeId} {sz : Nat} {v : Value} {xs : List Value} (h : w.ownsRow base e sz v n xs) : ∃ a cap, v = .slice a n cap := by
  rcases h.2 with ⟨rfl, rfl⟩ | ⟨g, cap, cur, rfl, _⟩
  · exact ⟨_, _, rfl⟩
  · exact ⟨_, _, rfl⟩
theorem news_new (w : World) (cs : List Value) (e : TypeId) : ∀ j u, cs[j]? = some u → (w.alloc (.cells cs.toArray e)).cell? ((⟨w.heap.size, 0, none⟩ : Addr).add j) = some u := by
  intro j u hj
  rw [Addr.add_lit, Nat.zero_add, cell_of_row _ _ _ _ _ _ (al_at rfl)]
  simpa using hj
theorem exec_load1 {P : Program} {o : Oper} {ρ : Operand → Value} {w' : World} (t : TypeId) (d : TypeDesc) (x : Operand) (ho : o.op = .load t x) (hu : P.underlying t = some d) (hd : d.isRow = false) (ad : Addr) (hx : ρ x = .pointer (some ad)) (v : Value) (hc : w'.cell? ad = some v) :
    (execOp ρ o).run P w' = .ok (.value v) w' := by
  have hagg : (isAgg t).run P w' = .ok false w' := by
    unfold isAgg
    rw [Sem.run_bind, run_underlying hu w']
    cases d <;> simp_all
  unfold execOp
  simp [ho, hx, Instr.loadAt, Instr.sureAddr, loadVar, Sem.run_bind, hagg, load, Sem.run, hc]
theorem cell_al {w : World} {a : Addr} {v : Value} (o : Obj) (h : w.cell? a = some v) : (w.alloc o).cell? a = some v := by
  rw [World.cell?_alloc_lt _ _ _ (World.block_lt_of_cell? w _ h)]
  exact h
theorem results_cell {fn : Func} {t : Tmp} {ty : TypeId} (h : fn.results = #[.cell t ty]) (tmps : Array Value) (w : World) (b : Nat) (cs : List Value) (d : TypeDesc) (ht : tmps.getD t undef = .pointer (some ⟨b, 0, none⟩)) (hc : w.rangeAt b 0 cs) (hu : Try.prog.underlying ty = some d) (hd : d.isRow = true) (hi : (Try.prog.info? ty).map (·.size) = some cs.length) :
    (results fn tmps).run Try.prog w = .ok (.agg cs.toArray) w := by
  have hl := run_loadVar_mid (P := Try.prog) w b 0 ty cs d hc hu hd hi
  simp only [Array.getD_eq_getD_getElem?] at ht
  simp [results, h, ht, hl, asAddr]
/-- Nothing is appended out of a row of none. -/
theorem own_empty (w : World) (e : TypeId) (sz : Nat) : (w.alloc (.cells #[] e)).ownsRow 0 e sz (.slice (some ⟨w.heap.size, 0, none⟩) 0 0) 0 [] := World.ownsRow_made w #[] 0 (Nat.zero_le _) (by unfold maxLen; omega) (by simp)
theorem eqIn_nil {P : Program} (w : World) (n : Nat) (t e : TypeId) (a : Option Addr) (l c : Nat) (h : P.underlying t = some (.slice e)) : (Op.equalIn (n + 1) t (.slice a l c) (.slice none 0 0)).run P w = .ok a.isNone w := by
  cases a <;> simp [Op.equalIn, run_underlying h]
theorem eql_nil {P : Program} (w : World) (t e : TypeId) (a : Option Addr) (l c : Nat) (h : P.underlying t = some (.slice e)) : (binOp .eql t (.slice a l c) (.slice none 0 0)).run P w = .ok (.bool a.isNone) w := by
  have h1 : (Op.equal t (.slice a l c) (.slice none 0 0)).run P w = .ok a.isNone w := eqIn_nil w 9999 t e a l c h
  simp only [binOp]
  simp [h1]
theorem below_grown {w w2 : World} {o : Obj} {row : Option Nat} (hg : (w.alloc o).grownBy w2 row) (hr : ∀ k, row = some k → w.heap.size ≤ k) : Below w.heap.size w w2 :=
  ((Below.refl _ w).alloc (Nat.le_refl _) o).grown hg (by simp) hr
section keep
variable {P : Program} {md : Region.Mode} {ops : Array Oper} {Q : Exit → Act → World → Prop} {S : World → Prop}
theorem keep_step {i : Nat} {o : Oper} {K : Act → World → Prop} {a : Act} {w : World} (ho : ops[i]? = some o) (hw : Region.wanted o (yielded ops a.tmps) = true) (h : Oper.wp P o a w K Q) : wpOp P ops Q i K a w := by
  unfold wpOp
  simp only [ho, hw, if_true]
  exact .inl h
theorem one_keep {i : Nat} {fuel : Nat} {listed : Array Bool} {a : Act} {w : World} (hr : Region.ready md ops listed = [i]) (h : wpOp P ops Q i (fun a' w' => S w' ∧ wpAnyH P md ops Q S fuel (listed.setIfInBounds i true) a' w') a w) : wpAnyH P md ops Q S (fuel + 1) listed a w := by
  refine wpAnyH_all hr (by simp) (fun j hj => ?_)
  simp only [List.mem_cons, List.not_mem_nil, or_false] at hj
  subst hj
  exact h
theorem two_keep {i j : Nat} {fuel : Nat} {listed : Array Bool} {a : Act} {w : World} (hr : Region.ready md ops listed = [i, j]) (h : wpOp P ops Q i (fun a' w' => S w' ∧ wpAnyH P md ops Q S fuel (listed.setIfInBounds i true) a' w') a w)
    (h2 : wpOp P ops Q j (fun a' w' => S w' ∧ wpAnyH P md ops Q S fuel (listed.setIfInBounds j true) a' w') a w) : wpAnyH P md ops Q S (fuel + 1) listed a w := by
  refine wpAnyH_all hr (by simp) (fun k hk => ?_)
  simp only [List.mem_cons, List.not_mem_nil, or_false] at hk
  rcases hk with rfl | rfl
  · exact h
  · exact h2
theorem begin_keep {id : Nat} {a : Act} {w : World} (hm : P.follows .mixedOrders = true) (h : ∀ wd, wd = w.drew → wpAnyH P .any ops Q S ops.size (Array.replicate ops.size false) a wd) : (Code.region id ops true).wp P Q a w :=
  wp_region_held (S := S) hm (h _ rfl)
theorem wp_store_one {o : Oper} {a : Act} {w : World} {K : Act → World → Prop} (t : TypeId) (x y : Operand) (ho : o.op = .store t x y) (hi : (P.info? t).map (·.size) = some 1) (v : Value) (hv : v.cells = #[v]) (h1 : v.oneCell' = true) (hy : a.eval y = v) {D k : Nat} (hx : a.eval x = .pointer (some ⟨D, k, none⟩)) (hc : (w.cell? ⟨D, k, none⟩).isSome = true) (hf : w.frozen? ⟨D, k, none⟩ = false) (h : K (a.put o.dst undef) (w.setCell ⟨D, k, none⟩ v)) : Oper.wp P o a w K Q := by
  have hs := run_storeCells_cells (P := P) D k [v] 0 w (fun j hj => by simp only [List.length_cons, List.length_nil] at hj; rw [show j = 0 by omega]; exact hc) (fun j hj => by simp only [List.length_cons, List.length_nil] at hj; rw [show j = 0 by omega]; exact hf) (fun u hu => by simp at hu; subst hu; exact h1)
  simp only [Nat.add_zero] at hs
  cases hq : P.info? t with
  | none => simp [hq] at hi
  | some i =>
    have hsz : i.size = 1 := by simpa [hq] using hi
    have hr : (storeVar t ⟨D, k, none⟩ v).run P w = .ok () (w.setCell ⟨D, k, none⟩ v) := by
      simp [storeVar, sizeOf, typeInfo, hq, hv, hsz, hs]
      rfl
    unfold Oper.wp execOp
    simp only [ho, hx, hy, Instr.storeAt, Instr.sureAddr, Sem.run_bind, Sem.run_pure, Result.andThen_ok, hr]
    exact h
/-- What is read may be read first, if it reads the same in every world that may come. -/
theorem take_s {i : Nat} {oi : Oper} {v : Value} {fuel : Nat} {listed : Array Bool} {a : Act} {w : World} (hi : ops[i]? = some oi)
    (hs : Region.noSelect ops = true) (hf : Region.free md ops listed i = true) (hr : (Region.ready md ops listed).contains i = true)
    (hQ : ∀ c a w, Q (.panic c) (a.put oi.dst v) w → Q (.panic c) a w) (hw : Region.wanted oi (yielded ops a.tmps) = true)
    (hv : ∀ w', S w' → (execOp a.eval oi).run P w' = .ok (.value v) w') (hS : S w)
    (h : wpAnyH P md ops Q S fuel (listed.setIfInBounds i true) (a.put oi.dst v) w) : wpAnyH P md ops Q S (fuel + 1) listed a w :=
  wpAnyH_take hi hs hf hr hQ (Or.inl ⟨hw, hv⟩) hS h
end keep
end Go.Proofs.Ytpdggopkalbbeaa
