/-
  A node, told plainly: its refs, their bytes, the cells of memory that hold them, there and back. Nothing of the program is said here. And what follows it.
-/
import Derived.Test.YthbbijaikcmaeaaGreatDoorX00
import Derived.Test.YthbbijaikcmaeaaGreatDoorRows
import Derived.WalkKit
import Derived.WalkSpells
import Derived.WalkLawsBesides
import Derived.BigRegion
import Derived.Laws.StructEq
import Derived.ChangeKeysEq
import Derived.Laws.Rows
import Derived.Laws.Tables
import Derived.Laws.ResultCell
import Derived.Test.YthbbijaikcmaeaaGreatDoorX01
import Derived.Deep.QuietTactic
import Derived.BigQuiet
import Derived.Test.YthbbijaikcmaeaaGreatDoorX05
namespace Go.Proofs.YthbbijaikcmaeaaGreatDoor.Plain
set_option maxRecDepth 100000
set_option linter.unusedVariables false
set_option maxRecDepth 100000
open Go.RowKit
structure Rf where
  d : List Int
  s : Int
def N64 (x : Int) : Prop := 0 ≤ x ∧ x ≤ 18446744073709551615
structure OkR (r : Rf) : Prop where
  ld : r.d.length = 32
  bd : Byt r.d
  hs : N64 r.s
def rb (r : Rf) : List Int := r.d ++ bytesOf r.s 8
def nb : List Rf → List Int
  | [] => []
  | r :: N => rb r ++ nb N
def rc (r : Rf) : List Value := r.d.map (Value.int .u8) ++ [.int .u64 r.s]
def nc : List Rf → List Value
  | [] => []
  | r :: N => rc r ++ nc N
def OkN (N : List Rf) : Prop := ∀ r ∈ N, OkR r
theorem OkN.tail {r : Rf} {N : List Rf} (h : OkN (r :: N)) : OkN N := fun x hx => h x (List.mem_cons_of_mem _ hx)
theorem OkN.head {r : Rf} {N : List Rf} (h : OkN (r :: N)) : OkR r := h r List.mem_cons_self
theorem OkN.get {N : List Rf} (h : OkN N) (i : Nat) (hi : i < N.length) : OkR N[i] := h _ (List.getElem_mem hi)
theorem len_rb {r : Rf} (h : OkR r) : (rb r).length = 40 := by simp [rb, h.ld, length_bytesOf]
theorem len_rc {r : Rf} (h : OkR r) : (rc r).length = 33 := by simp [rc, h.ld]
theorem byt_rb {r : Rf} (h : OkR r) : Byt (rb r) := byt_app _ _ h.bd (bytesOf_bd _ 8)
theorem len_nb : ∀ {N : List Rf}, OkN N → (nb N).length = 40 * N.length
  | [], _ => rfl
  | r :: N, h => by rw [nb, List.length_append, len_rb h.head, len_nb h.tail, List.length_cons]; omega
theorem len_nc : ∀ {N : List Rf}, OkN N → (nc N).length = 33 * N.length
  | [], _ => rfl
  | r :: N, h => by rw [nc, List.length_append, len_rc h.head, len_nc h.tail, List.length_cons]; omega
theorem byt_nb : ∀ {N : List Rf}, OkN N → Byt (nb N)
  | [], _ => byt_nil
  | r :: N, h => byt_app _ _ (byt_rb h.head) (byt_nb h.tail)
theorem nb_app (M N : List Rf) : nb (M ++ N) = nb M ++ nb N := by
  induction M with
  | nil => rfl
  | cons r M ih => rw [List.cons_append, nb, nb, ih, List.append_assoc]
theorem nc_app (M N : List Rf) : nc (M ++ N) = nc M ++ nc N := by
  induction M with
  | nil => rfl
  | cons r M ih => rw [List.cons_append, nc, nc, ih, List.append_assoc]
theorem nb_drop {N : List Rf} (h : OkN N) (i : Nat) : (nb N).drop (40 * i) = nb (N.drop i) := by
  by_cases hi : i ≤ N.length
  · have e : nb N = nb (N.take i) ++ nb (N.drop i) := by rw [← nb_app, List.take_append_drop]
    have hl : (nb (N.take i)).length = 40 * i := by
      rw [len_nb (fun r hr => h r (List.mem_of_mem_take hr)), List.length_take]
      omega
    rw [e, List.drop_append_of_le_length (by omega), List.drop_of_length_le (by omega), List.nil_append]
  · rw [List.drop_of_length_le (by rw [len_nb h]; omega), List.drop_of_length_le (by omega)]
    rfl
theorem nb_at {N : List Rf} (h : OkN N) (i : Nat) (hi : i < N.length) : (nb N).drop (40 * i) = N[i].d ++ (bytesOf N[i].s 8 ++ nb (N.drop (i + 1))) := by
  rw [nb_drop h, List.drop_eq_getElem_cons hi, nb, rb, List.append_assoc]
theorem nb_sum {N : List Rf} (h : OkN N) (i : Nat) (hi : i < N.length) : ((nb N).drop (40 * i)).take 32 = N[i].d := by
  rw [nb_at h i hi, List.take_append_of_le_length (by rw [(h.get i hi).ld]; exact Nat.le_refl _), List.take_of_length_le (by rw [(h.get i hi).ld]; exact Nat.le_refl _)]
theorem nb_stamp {N : List Rf} (h : OkN N) (i : Nat) (hi : i < N.length) : ((nb N).drop (40 * i + 32)).take 8 = bytesOf N[i].s 8 := by
  have hd := (h.get i hi).ld
  rw [← List.drop_drop, nb_at h i hi, List.drop_append_of_le_length (by omega), List.drop_of_length_le (by omega), List.nil_append, List.take_append_of_le_length (by rw [length_bytesOf]; exact Nat.le_refl _), List.take_of_length_le (by rw [length_bytesOf]; exact Nat.le_refl _)]
theorem num_drop (L : List Int) (p q k : Nat) : num (L.drop p) q k = num L (p + q) k := num_congr _ _ _ _ _ fun t _ => by simp [List.getD, Nat.add_assoc]
theorem num_take (L : List Int) (k : Nat) : num (L.take k) 0 k = num L 0 k := num_congr _ _ _ _ _ fun t ht => by simp [List.getD, ht]
theorem num_back (x : Int) (hx : N64 x) : num (bytesOf x 8) 0 8 = x := by
  rw [num_bytesOf x 8 8 (Nat.le_refl _)]
  unfold N64 at hx
  omega
def rfAt (B : List Int) (i : Nat) : Rf := ⟨(B.drop (40 * i)).take 32, num B (40 * i + 32) 8⟩
def ofN (B : List Int) : Nat → List Rf
  | 0 => []
  | n + 1 => ofN B n ++ [rfAt B n]
theorem len_ofN (B : List Int) (n : Nat) : (ofN B n).length = n := by
  induction n with
  | zero => rfl
  | succ n ih => simp [ofN, ih]
theorem rfAt_nb {N : List Rf} (h : OkN N) (i : Nat) (hi : i < N.length) : rfAt (nb N) i = N[i] := by
  have hs : num (nb N) (40 * i + 32) 8 = N[i].s := by
    have h1 := num_take ((nb N).drop (40 * i + 32)) 8
    rw [nb_stamp h i hi, num_drop, num_back _ (h.get i hi).hs] at h1
    exact h1.symm
  unfold rfAt
  rw [nb_sum h i hi, hs]
theorem ofN_nb {N : List Rf} (h : OkN N) : ∀ n, n ≤ N.length → ofN (nb N) n = N.take n
  | 0, _ => rfl
  | n + 1, hn => by rw [ofN, ofN_nb h n (by omega), rfAt_nb h n hn, List.take_add_one, List.getElem?_eq_getElem hn]; rfl
theorem okR_at (B : List Int) (hB : Byt B) (i : Nat) (hi : 40 * i + 40 ≤ B.length) : OkR (rfAt B i) :=
  ⟨by simp [rfAt]; omega, byt_take _ _ (byt_drop _ _ hB), by have := num_bd B (40 * i + 32) hB 8; unfold rfAt N64; simp only; omega⟩
theorem okN_of (B : List Int) (hB : Byt B) : ∀ n, 40 * n ≤ B.length → OkN (ofN B n)
  | 0, _ => fun r hr => absurd hr (by simp [ofN])
  | n + 1, hn => fun r hr => by
    rw [ofN, List.mem_append] at hr
    rcases hr with hr | hr
    · exact okN_of B hB n (by omega) r hr
    · rw [List.mem_singleton] at hr
      subst hr
      exact okR_at B hB n (by omega)
theorem okN_set {N : List Rf} (h : OkN N) (i : Nat) (r : Rf) (hr : OkR r) : OkN (N.set i r) := by
  intro x hx
  rcases List.mem_or_eq_of_mem_set hx with hx | hx
  · exact h x hx
  · subst hx; exact hr
theorem nc_at : ∀ {N : List Rf}, OkN N → ∀ i, (hi : i < N.length) → ∀ k, k < 33 → (nc N)[33 * i + k]? = (rc N[i])[k]?
  | [], _, i, hi, k, _ => by simp at hi
  | r :: N, h, 0, hi, k, hk => by
    rw [nc, Nat.mul_zero, Nat.zero_add, List.getElem?_append_left (by rw [len_rc h.head]; exact hk)]
    rfl
  | r :: N, h, i + 1, hi, k, hk => by
    rw [nc, List.getElem?_append_right (by rw [len_rc h.head]; omega), len_rc h.head, show 33 * (i + 1) + k - 33 = 33 * i + k by omega]
    exact nc_at h.tail i (by simpa using hi) k hk
theorem rc_sum {r : Rf} (h : OkR r) (k : Nat) (hk : k < 32) : (rc r)[k]? = some (.int .u8 (r.d.getD k 0)) := by
  have hd := h.ld
  rw [rc, List.getElem?_append_left (by simp [hd, hk])]
  simp [hd, hk]
theorem rc_stamp {r : Rf} (h : OkR r) : (rc r)[32]? = some (.int .u64 r.s) := by
  rw [rc, List.getElem?_append_right (by simp [h.ld])]
  simp [h.ld]
theorem nc_sum {N : List Rf} (h : OkN N) (i : Nat) (hi : i < N.length) (k : Nat) (hk : k < 32) : (nc N)[33 * i + k]? = some (.int .u8 (N[i].d.getD k 0)) := by
  rw [nc_at h i hi k (by omega), rc_sum (h.get i hi) k hk]
theorem nc_stamp {N : List Rf} (h : OkN N) (i : Nat) (hi : i < N.length) : (nc N)[33 * i + 32]? = some (.int .u64 N[i].s) := by
  rw [nc_at h i hi 32 (by omega), rc_stamp (h.get i hi)]
theorem nc_one : ∀ (N : List Rf), (nc N).toArray.all (·.oneCell') = true
  | [] => by simp [nc]
  | r :: N => by
    have := nc_one N
    simp [nc, rc, Value.oneCell'] at this ⊢
    exact this
end Go.Proofs.YthbbijaikcmaeaaGreatDoor.Plain
namespace Go.Proofs.YthbbijaikcmaeaaGreatDoor
set_option maxRecDepth 100000
set_option linter.unusedVariables false
open Go.RowKit Plain
set_option maxHeartbeats 400000 in
theorem stamp_ok (v s : Int) (w : World) (hv : 1 ≤ v) (hv2 : v ≤ 9223372036854775807) (hs : 0 ≤ s) (hs2 : s ≤ 1) :
    Calls Tryz.prog 52 #[.int .u64 v, .int .i64 s] w fun e w' => e = .returned (.tuple #[.int .u64 (2 * v + s), .int .i64 0]) ∧ w = w' := by
  go_enter Tryz.func52, Tryz.ntmps52
  go_wp2
  go_ret2
  exact ⟨rfl, rfl⟩
set_option maxHeartbeats 400000 in
theorem version_any (s : Int) (w : World) (hs : N64 s) :
    Calls Tryz.prog 68 #[.int .u64 s] w fun e w' => e = .returned (.int .u64 (s / 2)) ∧ w = w' := by
  unfold N64 at hs
  go_enter Tryz.func68, Tryz.ntmps68
  go_wp2
  go_ret
  exact ⟨rfl, rfl⟩
set_option maxHeartbeats 400000 in
theorem side_any (s : Int) (w : World) (hs : N64 s) :
    Calls Tryz.prog 64 #[.int .u64 s] w fun e w' => e = .returned (.int .i64 (s % 2)) ∧ w = w' := by
  unfold N64 at hs
  go_enter Tryz.func64, Tryz.ntmps64
  go_wp2
  go_ret
  exact ⟨rfl, rfl⟩
end Go.Proofs.YthbbijaikcmaeaaGreatDoor
namespace Go.Proofs.YthbbijaikcmaeaaGreatDoor
set_option maxRecDepth 100000
set_option linter.unusedVariables false
open Go.RowKit Plain
theorem wpList_run {ops : Array Oper} {rest : List Oper} {o : Oper} {a : Act} {w : World} {Q : Exit → Act → World → Prop} (hg : o.guard = none) (v : Value) (w' : World) (hr : (execOp a.eval o).run Tryz.prog w = .ok (.value v) w') (h : wpList Tryz.prog ops Q rest (a.put o.dst v) w') : wpList Tryz.prog ops Q (o :: rest) a w :=
  wpList_plain hg fun _ hK => by unfold Oper.wp; rw [hr]; exact hK _ _ h
theorem exec_alloc {o : Oper} {ρ : Operand → Value} {w : World} (t : TypeId) (ho : o.op = .alloc t) (Z : Array Value) (hz : (Tryz.prog.info? t).map (·.zero) = some (some (.agg Z))) :
    (execOp ρ o).run Tryz.prog w = .ok (.value (.pointer (some ⟨w.heap.size, 0, none⟩))) (w.alloc (.cells Z t)) := by
  cases hq : Tryz.prog.info? t with
  | none => simp [hq] at hz
  | some i =>
    have hs : i.zero = some (.agg Z) := by simpa [hq] using hz
    unfold execOp
    simp [ho, Instr.alloc, zeroValue, typeInfo, hq, hs, newVar, newRow, Value.cells, Sem.run_bind]
theorem exec_built {o : Oper} {ρ : Operand → Value} {w : World} (t : TypeId) (parts : List (Nat × Operand)) (ho : o.op = .build t parts.toArray) (ps : List (Nat × Value)) (hp : parts.map (fun x => (x.1, ρ x.2)) = ps) (cells : Array Value) (h : Tryz.prog.built t ps = some cells) :
    (execOp ρ o).run Tryz.prog w = .ok (.value (.agg cells)) w := by
  have h' : Tryz.prog.built t (parts.toArray.map fun (i, x) => (i, ρ x)).toList = some cells := by
    rw [← h, ← hp]; simp
  unfold execOp
  simp only [ho, Sem.run_bind, run_build w t _ cells h', Result.andThen_ok]
  rfl
theorem But.setCells {G : Nat} : ∀ (cs : List Value) (o : Nat) {w w' : World}, But G w w' → But G w (w'.setCells G o cs)
  | [], _, _, _, h => h
  | v :: r, o, _, _, h => But.setCells r (o + 1) (h.setCell o v)
theorem setCells_row (g : Nat) (t : TypeId) : ∀ (cs : List Value) (o : Nat) (cur : List Value) (w : World), w.heap[g]? = some (.cells cur.toArray t (0, 0)) → o + cs.length ≤ cur.length → (w.setCells g o cs).heap[g]? = some (.cells (splice cur o cs).toArray t (0, 0))
  | [], o, cur, w, h, _ => by rw [splice_nil]; exact h
  | v :: r, o, cur, w, h, hl => by
    rw [World.setCells]
    have h1 := heap_setCell_same w g o _ t v h
    rw [List.setIfInBounds_toArray] at h1
    simp only [List.length_cons] at hl
    rw [setCells_row g t r (o + 1) _ _ h1 (by simp; omega)]
    congr 2
    have ho : o < cur.length := by omega
    simp only [splice, List.length_cons]
    rw [List.take_set, List.drop_set_of_lt (by omega), List.take_add_one, List.set_append]
    have hm : min o cur.length = o := by omega
    simp [ho, hm, Nat.add_assoc, Nat.add_comm 1]
theorem there_row {w : World} {g o n : Nat} {cs : Array Value} {t : TypeId} (hg : w.heap[g]? = some (.cells cs t (0, 0))) (h : o + n ≤ cs.size) : w.there g o n := by
  intro j hj
  refine ⟨?_, frozen_of_row w g _ cs t hg⟩
  rw [cell_of_row _ _ _ _ _ _ hg]
  have : o + j < cs.size := by omega
  simp [this]
theorem range_arr {w : World} {g o : Nat} {cs : Array Value} {t : TypeId} {fr : Nat × Nat} (hg : w.heap[g]? = some (.cells cs t fr)) (L : List Value) (h : ∀ j v, L[j]? = some v → cs[o + j]? = some v) : w.rangeAt g o L := by
  intro j v hv
  rw [cell_of_row _ _ _ _ _ _ hg]
  exact h j v hv
theorem range_bytes {w : World} {b o len : Nat} {L : List Int} (h : Bytes w (some ⟨b, o, none⟩) len L) : w.rangeAt b o (L.map (Value.int .u8)) := fun j v hv => by
  have := h.news j v hv
  rwa [Addr.add_lit] at this
theorem exec_arr {o : Oper} {ρ : Operand → Value} {w' : World} (x : Operand) (ho : o.op = .sliceToArrayPointer 23 x) (a : Option Addr) (cap : Nat) (hx : ρ x = .slice a 32 cap) :
    (execOp ρ o).run Tryz.prog w' = .ok (.value (.pointer a)) w' := by
  unfold execOp
  simp [ho, hx, Instr.arrayAt, run_underlying Tryz.underlying23]
theorem infoS : (Tryz.prog.info? 23).map (·.size) = some 32 := by kernel_rfl
theorem exec_load_mid {P : Program} {o : Oper} {ρ : Operand → Value} {w' : World} (t : TypeId) (d : TypeDesc) (x : Operand) (ho : o.op = .load t x) (hu : P.underlying t = some d) (hd : d.isRow = true) (b off : Nat) (hx : ρ x = .pointer (some ⟨b, off, none⟩)) (cs : List Value) (hi : (P.info? t).map (·.size) = some cs.length) (hc : w'.rangeAt b off cs) :
    (execOp ρ o).run P w' = .ok (.value (.agg cs.toArray)) w' := by
  unfold execOp
  simp only [ho, hx, Instr.loadAt, Instr.sureAddr, Sem.run_bind, Sem.run_pure, Result.andThen_ok, run_loadVar_mid w' b off t cs d hc hu hd hi]
theorem exec_sum {o : Oper} {ρ : Operand → Value} {w' : World} (x : Operand) (ho : o.op = .load 23 x) (b off : Nat) (hx : ρ x = .pointer (some ⟨b, off, none⟩)) (L : List Int) (h : Bytes w' (some ⟨b, off, none⟩) 32 L) :
    (execOp ρ o).run Tryz.prog w' = .ok (.value (.agg (u8s L))) w' :=
  exec_load_mid 23 _ x ho Tryz.underlying23 rfl b off hx (L.map (Value.int .u8)) (by rw [List.length_map, h.1]; exact infoS) (range_bytes h)
theorem splice_set (cs : List Value) (o : Nat) (v : Value) (r : List Value) (h : o + (r.length + 1) ≤ cs.length) : splice (cs.set o v) (o + 1) r = splice cs o (v :: r) := by
  simp only [splice, List.length_cons] at *
  have ho : o < cs.length := by omega
  have hm : min o cs.length = o := by omega
  rw [List.take_set, List.drop_set_of_lt (by omega), List.take_add_one, List.set_append]
  simp [ho, hm, Nat.add_assoc, Nat.add_comm 1]
theorem fold_splice : ∀ (l : List Value) (k off : Nat) (cs : Array Value), off + k + l.length ≤ cs.size → (l.zipIdx k).foldl (fun cs x => cs.setIfInBounds (off + x.2) x.1) cs = (splice cs.toList (off + k) l).toArray
  | [], k, off, cs, h => by simp [splice]
  | v :: r, k, off, cs, h => by
    simp only [List.length_cons] at h
    rw [List.zipIdx_cons, List.foldl_cons]
    have ih := fold_splice r (k + 1) off (cs.setIfInBounds (off + k) v) (by simp; omega)
    simp only at ih ⊢
    rw [ih]
    congr 1
    have e : (cs.setIfInBounds (off + k) v).toList = cs.toList.set (off + k) v := by simp
    rw [e, show off + (k + 1) = off + k + 1 by omega]
    exact splice_set _ _ _ _ (by simp; omega)
theorem fill_step (place : Nat → Option (Nat × Nat)) (cells : Array Value) (i off size : Nat) (A : Array Value) (rest : List (Nat × Value)) (hp : place i = some (off, size)) (hA : A.size = size) (hf : off + size ≤ cells.size) :
    Instr.fill place cells ((i, .agg A) :: rest) = Instr.fill place (splice cells.toList off A.toList).toArray rest := by
  have hc : (Value.agg A).cells = A := rfl
  have h1 : ¬ (A.size ≠ size || off + A.size > cells.size) = true := by simp; omega
  rw [Instr.fill, hp]
  simp only [hc]
  rw [if_neg h1]
  congr 1
  rw [← Array.foldl_toList, Array.toList_zipIdx]
  have := fold_splice A.toList 0 off cells (by simp; omega)
  rw [Nat.add_zero] at this
  rw [← this]
theorem exec_strN {o : Oper} {ρ : Operand → Value} {w' : World} (x y : Operand) (ty : TypeId) (ho : o.op = .binOp .neq 9 x y ty) (A B : List Int) (hA : Byt A) (hB : Byt B) (hx : ρ x = .string (strOfNums A)) (hy : ρ y = .string (strOfNums B)) :
    (execOp ρ o).run Tryz.prog w' = .ok (.value (.bool (!decide (A = B)))) w' := by
  have e := str_beq A B hA hB
  unfold execOp
  simp [ho, hx, hy, eqGuard, binOp, Op.stringOp, e]
theorem atStore {P : Program} {ops : Array Oper} {Q : Exit → Act → World → Prop} {rest : List Oper} {a : Act} {w : World} (t : TypeId) {x y : Operand} {d : Option Tmp} {ty : TypeId} {p : String} {af : Array Edge} {g : Option (Nat × Bool)} (h : wpList P ops Q ({ dst := d, op := .store t x y, type := ty, pos := p, after := af, guard := g } :: rest) a w) : wpList P ops Q ({ dst := d, op := .store t x y, type := ty, pos := p, after := af, guard := g } :: rest) a w := h
theorem atLoad {P : Program} {ops : Array Oper} {Q : Exit → Act → World → Prop} {rest : List Oper} {a : Act} {w : World} (t : TypeId) {x : Operand} {d : Option Tmp} {ty : TypeId} {p : String} {af : Array Edge} {g : Option (Nat × Bool)} (h : wpList P ops Q ({ dst := d, op := .load t x, type := ty, pos := p, after := af, guard := g } :: rest) a w) : wpList P ops Q ({ dst := d, op := .load t x, type := ty, pos := p, after := af, guard := g } :: rest) a w := h
theorem atSlice {P : Program} {ops : Array Oper} {Q : Exit → Act → World → Prop} {rest : List Oper} {a : Act} {w : World} (t : TypeId) {x : Operand} {lo hi mx : Option Operand} {d : Option Tmp} {ty : TypeId} {p : String} {af : Array Edge} {g : Option (Nat × Bool)} (h : wpList P ops Q ({ dst := d, op := .slice t x lo hi mx, type := ty, pos := p, after := af, guard := g } :: rest) a w) : wpList P ops Q ({ dst := d, op := .slice t x lo hi mx, type := ty, pos := p, after := af, guard := g } :: rest) a w := h
theorem atArr {P : Program} {ops : Array Oper} {Q : Exit → Act → World → Prop} {rest : List Oper} {a : Act} {w : World} (t : TypeId) {x : Operand} {d : Option Tmp} {ty : TypeId} {p : String} {af : Array Edge} {g : Option (Nat × Bool)} (h : wpList P ops Q ({ dst := d, op := .sliceToArrayPointer t x, type := ty, pos := p, after := af, guard := g } :: rest) a w) : wpList P ops Q ({ dst := d, op := .sliceToArrayPointer t x, type := ty, pos := p, after := af, guard := g } :: rest) a w := h
theorem atBuild {P : Program} {ops : Array Oper} {Q : Exit → Act → World → Prop} {rest : List Oper} {a : Act} {w : World} (t : TypeId) {x : Array (Nat × Operand)} {d : Option Tmp} {ty : TypeId} {p : String} {af : Array Edge} {g : Option (Nat × Bool)} (h : wpList P ops Q ({ dst := d, op := .build t x, type := ty, pos := p, after := af, guard := g } :: rest) a w) : wpList P ops Q ({ dst := d, op := .build t x, type := ty, pos := p, after := af, guard := g } :: rest) a w := h
theorem atConv {P : Program} {ops : Array Oper} {Q : Exit → Act → World → Prop} {rest : List Oper} {a : Act} {w : World} (t u : TypeId) {x : Operand} {d : Option Tmp} {ty : TypeId} {p : String} {af : Array Edge} {g : Option (Nat × Bool)} (h : wpList P ops Q ({ dst := d, op := .convert t u x, type := ty, pos := p, after := af, guard := g } :: rest) a w) : wpList P ops Q ({ dst := d, op := .convert t u x, type := ty, pos := p, after := af, guard := g } :: rest) a w := h
theorem fill_one (place : Nat → Option (Nat × Nat)) (cells : Array Value) (i off : Nat) (k : IntKind) (z : Int) (rest : List (Nat × Value)) (hp : place i = some (off, 1)) (hf : off + 1 ≤ cells.size) :
    Instr.fill place cells ((i, .int k z) :: rest) = Instr.fill place (cells.setIfInBounds off (.int k z)) rest := by
  have hc : (Value.int k z).cells = #[.int k z] := rfl
  rw [Instr.fill, hp]
  simp only [hc]
  rw [if_neg (by simp; omega)]
  rfl
def z32 : List Int := List.replicate 32 0
def zr : Rf := ⟨z32, 0⟩
def zn : List Rf := [zr, zr, zr, zr]
theorem len_z32 : z32.length = 32 := List.length_replicate
theorem byt_z32 : Byt z32 := byt_zeros 32
theorem okR_zr : OkR zr := ⟨len_z32, byt_z32, ⟨by decide, by decide⟩⟩
theorem okN_zn : OkN zn := fun r hr => by
  simp only [zn, List.mem_cons, List.not_mem_nil, or_false, or_self] at hr
  subst hr
  exact okR_zr
def na (N : List Rf) : Array Value := (nc N).toArray
def ra (r : Rf) : Array Value := (rc r).toArray
theorem size_na {N : List Rf} (h : OkN N) (h4 : N.length = 4) : (na N).size = 132 := by rw [na, List.size_toArray, len_nc h, h4]
theorem size_ra {r : Rf} (h : OkR r) : (ra r).size = 33 := by rw [ra, List.size_toArray, len_rc h]
theorem all_na (N : List Rf) : (na N).all (·.oneCell') = true := nc_one N
theorem all_ra (r : Rf) : (ra r).all (·.oneCell') = true := by simp [ra, rc, Value.oneCell']
theorem zeroS : (Tryz.prog.info? 23).map (·.zero) = some (some (.agg (u8s z32))) := by kernel_rfl
theorem infoR : (Tryz.prog.info? 36).map (·.size) = some 33 := by kernel_rfl
theorem zeroR : (Tryz.prog.info? 36).map (·.zero) = some (some (.agg (ra zr))) := by kernel_rfl
theorem infoN : (Tryz.prog.info? 107).map (·.size) = some 132 := by kernel_rfl
theorem zeroN : (Tryz.prog.info? 107).map (·.zero) = some (some (.agg (na zn))) := by kernel_rfl
theorem built_N : Tryz.prog.built 107 [] = some (na zn) := by kernel_rfl
theorem builtR (parts : List (Nat × Value)) : Tryz.prog.built 36 parts = Instr.fill (fun i => #[(0, 32), (32, 1)][i]?) (ra zr) parts := by kernel_rfl
theorem splice_r (D : List Int) (hD : D.length = 32) : splice (ra zr).toList 0 (u8s D).toList = rc ⟨D, 0⟩ := by
  simp [ra, rc, zr, splice, u8s, hD, z32]
theorem set_r (D : List Int) (s : Int) (hD : D.length = 32) : ((rc ⟨D, 0⟩).toArray).setIfInBounds 32 (.int .u64 s) = ra ⟨D, s⟩ := by
  simp [ra, rc, hD]
theorem built_Rs (D : List Int) (s : Int) (hD : D.length = 32) : Tryz.prog.built 36 [(0, .agg (u8s D)), (1, .int .u64 s)] = some (ra ⟨D, s⟩) := by
  rw [builtR, fill_step _ _ 0 0 32 _ _ rfl (by rw [size_u8s, hD]) (by rw [size_ra okR_zr]; omega), splice_r D hD, fill_one _ _ 1 32 .u64 s _ rfl (by simp [rc, hD]), Instr.fill, set_r D s hD]
end Go.Proofs.YthbbijaikcmaeaaGreatDoor
namespace Go.Proofs.YthbbijaikcmaeaaGreatDoor
set_option maxRecDepth 100000
set_option linter.unusedVariables false
open Go.RowKit Plain
set_option maxHeartbeats 400000 in
theorem same_other (a b : Option Addr) (la ca lb cb : Nat) (A B : List Int) (w : World) (hA : A.length = la) (hB : B.length = lb) (hla : la ≤ 9223372036854775807) (hlb : lb ≤ 9223372036854775807) (h : la ≠ lb) :
    Calls Tryz.prog 110 #[.slice a la ca, .slice b lb cb] w fun e w' => e = .returned (.int .u64 (sm A B)) ∧ w = w' := by
  rw [sm_len A B (by omega)]
  have hd : ¬ (la : Int) = (lb : Int) := by omega
  go_enter Tryz.func110, Tryz.ntmps110
  go_wp2
  go_ret
  exact ⟨rfl, rfl⟩
set_option maxHeartbeats 400000 in
theorem same_long (a b : Option Addr) (n ca cb : Nat) (A B : List Int) (w : World) (hA : Bytes w a n A) (hB : Bytes w b n B) (hn : n ≤ 9223372036854775807) :
    Calls Tryz.prog 110 #[.slice a n ca, .slice b n cb] w fun e w' => e = .returned (.int .u64 (sm A B)) ∧ w = w' := by
  have HE : Box (IntKind.u64.wrap (unl A B n - 1) / 9223372036854775808 = sm A B) := ⟨sm_end A B hA.2.1 hB.2.1 n hA.1 hB.1⟩
  have HA : Box (Bytes w a n A) := ⟨hA⟩
  have HB : Box (Bytes w b n B) := ⟨hB⟩
  clear hA hB
  go_enter Tryz.func110, Tryz.ntmps110
  go_wp2
  go_loop [5, 15] (fun t i => ∃ k : Nat, k ≤ n ∧ i = .int .i64 k ∧ t = .int .u8 (unl A B k)) (fun _ i => n - (intOf i).toNat)
  case atStart => exact ⟨0, Nat.zero_le _, rfl, rfl⟩
  case round =>
    obtain ⟨k, hk, rfl, rfl⟩ := hrel
    by_cases hlt : k < n
    · obtain ⟨b1, o1, e1, _, c1⟩ := HA.out.2.2 (by omega)
      obtain ⟨b2, o2, e2, _, c2⟩ := HB.out.2.2 (by omega)
      subst e1 e2
      have d1 := c1 k hlt
      have d2 := c2 k hlt
      clear c1 c2
      have hs : Box (bits .or .u8 (unl A B k) (bits .xor .u8 (A.getD k 0) (B.getD k 0)) = unl A B (k + 1)) := ⟨rfl⟩
      generalize A.getD k 0 = x at d1 hs
      generalize B.getD k 0 = y at d2 hs
      generalize unl A B k = t at hs
      go_wp2
      go_round
      case rel => exact ⟨k + 1, by omega, by go_num, by rw [hs.out]⟩
      case measure => simp [intOf]; omega
    · obtain rfl : k = n := by omega
      have hu := unl_bd A B k
      generalize unl A B k = t at hu HE
      go_wp2
      go_ret
      exact ⟨by rw [← HE.out]; rfl, rfl⟩
theorem same_any (a b : Option Addr) (la ca lb cb : Nat) (A B : List Int) (w : World) (hA : Bytes w a la A) (hB : Bytes w b lb B) (hla : la ≤ 9223372036854775807) (hlb : lb ≤ 9223372036854775807) :
    Calls Tryz.prog 110 #[.slice a la ca, .slice b lb cb] w fun e w' => e = .returned (.int .u64 (sm A B)) ∧ w = w' := by
  by_cases h : la = lb
  · subst h
    exact same_long a b la ca cb A B w hA hB hla
  · exact same_other a b la ca lb cb A B w hA.1 hB.1 hla hlb h
set_option maxHeartbeats 400000 in
theorem bytes_any (a b : Option Addr) (la ca lb cb : Nat) (A B : List Int) (w : World) (hA : Bytes w a la A) (hB : Bytes w b lb B) (hla : la ≤ 9223372036854775807) (hlb : lb ≤ 9223372036854775807) :
    Calls Tryz.prog 88 #[.slice a la ca, .slice b lb cb] w fun e w' => e = .returned (.bool (decide (A = B))) ∧ w = w' := by
  have HS : Box (Calls Tryz.prog 110 #[.slice a la ca, .slice b lb cb] w fun e w' => e = .returned (.int .u64 (sm A B)) ∧ w = w') := ⟨same_any a b la ca lb cb A B w hA hB hla hlb⟩
  rw [← sm_one A B]
  generalize sm A B = s at HS ⊢
  clear hA hB
  go_enter Tryz.func88, Tryz.ntmps88
  go_wp2_with (go_at_call 110; refine Calls.mono HS.out ?_; rintro e w' ⟨rfl, rfl⟩)
  go_ret
  exact ⟨rfl, rfl⟩
end Go.Proofs.YthbbijaikcmaeaaGreatDoor
namespace Go.Proofs.YthbbijaikcmaeaaGreatDoor
set_option maxRecDepth 100000
set_option linter.unusedVariables false
open Go.RowKit Plain
def dsha (M : List Int) : List Int := Dig.Plain.sha M
theorem length_dsha (M : List Int) : (dsha M).length = 32 := Dig.Plain.length_sha M
theorem byt_dsha (M : List Int) : Byt (dsha M) := Dig.Plain.byt_sha M
def dg (l p : Int) (L : List Int) : List Int := l % 256 :: (bytesOf p 4 ++ L)
theorem byt_one (z : Int) (h : 0 ≤ z ∧ z ≤ 255) : Byt [z] := byt_cons _ _ h byt_nil
theorem len_dg (l p : Int) (L : List Int) : (dg l p L).length = L.length + 5 := by
  simp [dg, length_bytesOf]
  omega
theorem put4 (x : Int) (w : World) (hx : 0 ≤ x ∧ x ≤ 4294967295) :
    Calls Tryz.prog 80 #[.int .u64 x, .int .i64 4] w fun e w' => ∃ g, e = .returned (.slice (some ⟨g, 0, none⟩) 4 4) ∧ Bytes w' (some ⟨g, 0, none⟩) 4 (bytesOf x 4) ∧ Below w.heap.size w w' :=
  (put_ok x 4 w hx.1 (by omega) (by omega) (by omega)).mono fun e w' ⟨g, he, ho⟩ => ⟨g, he, ho.bytes (bytesOf_bd _ 4), ho.2.2⟩
theorem pieces3 (g : Nat) (a1 a2 a3 : Option Addr) (l1 l2 l3 c1 c2 c3 : Nat) (A B C : List Int) (X : List Int) (w : World) (hT : Dig.Tabs w) (hg : w.heap[g]? = some (.cells #[.slice a1 l1 c1, .slice a2 l2 c2, .slice a3 l3 c3] 38 (0, 0)))
    (hA : Bytes w a1 l1 A) (hB : Bytes w a2 l2 B) (hC : Bytes w a3 l3 C) (k1 : l1 ≤ c1) (k2 : l2 ≤ c2) (k3 : l3 ≤ c3) (m1 : c1 ≤ 9223372036854775807) (m2 : c2 ≤ 9223372036854775807) (m3 : c3 ≤ 9223372036854775807) (hX : A ++ (B ++ C) = X) (hl : X.length ≤ 900000) :
    Calls Tryz.prog 82 #[.slice (some ⟨g, 0, none⟩) 3 3] w fun e w' => e = .returned (.agg (u8s (dsha X))) ∧ Below w.heap.size w w' := by
  refine Dig.pieces_list [⟨a1, l1, c1, A⟩, ⟨a2, l2, c2, B⟩, ⟨a3, l3, c3, C⟩] g 3 X 38 (0, 0) w hT hg ?_ rfl (by omega) (by simp [Dig.joinTo, ← hX]) hl
  intro p hp
  simp only [List.mem_cons, List.not_mem_nil, or_false] at hp
  rcases hp with rfl | rfl | rfl
  · exact ⟨hA, k1, m1⟩
  · exact ⟨hB, k2, m2⟩
  · exact ⟨hC, k3, m3⟩
set_option maxRecDepth 20000 in
set_option maxHeartbeats 1000000 in
theorem digest_any (l p : Int) (a : Option Addr) (len cap : Nat) (L : List Int) (w : World) (hT : Dig.Tabs w) (hp : 0 ≤ p ∧ p ≤ 4294967295) (hb : Bytes w a len L) (hl : len ≤ 800000) (hc : len ≤ cap) (hm : cap ≤ 9223372036854775807) :
    Calls Tryz.prog 56 #[.int .i64 l, .int .u32 p, .slice a len cap] w fun e w' => e = .returned (.agg (u8s (dsha (dg l p L)))) ∧ Below w.heap.size w w' := by
  obtain ⟨X, HX⟩ : ∃ X, Box (dsha (dg l p L) = X) := ⟨_, ⟨rfl⟩⟩
  have HXs : Box ((u8s X).size = 32) := ⟨by rw [← HX.out, size_u8s, length_dsha]⟩
  obtain ⟨S, hS⟩ : ∃ S, w.heap.size = S := ⟨_, rfl⟩
  have HS : Box (w.heap.size = S) := ⟨hS⟩
  have HQ : Box (Byt [l % 256]) := ⟨byt_one _ (by omega)⟩
  have H0 : Box (Dig.Tabs w ∧ Bytes w a len L ∧ len ≤ cap ∧ cap ≤ 9223372036854775807 ∧ len ≤ 800000) := ⟨hT, hb, hc, hm, hl⟩
  have HD : Box (dg l p L = [l % 256] ++ (bytesOf p 4 ++ L)) := ⟨rfl⟩
  have HN : Box ((dg l p L).length ≤ 900000) := ⟨by rw [len_dg, hb.1]; omega⟩
  clear hT hb hc hm hl hS
  generalize dg l p L = M at HX HD HN
  go_enter Tryz.func56, Tryz.ntmps56
  have sum3 : ∀ (z : World) (g q : Nat), Box (z.heap[S]? = some (.cells (u8s z32) 23 (0, 0)) ∧ Below w.heap.size w z ∧ Bytes z (some ⟨q, 0, none⟩) 1 [l % 256] ∧ Bytes z (some ⟨g, 0, none⟩) 4 (bytesOf p 4)) →
      Calls Tryz.prog 82 #[.slice (some ⟨z.heap.size, 0, none⟩) 3 3] (z.alloc (.cells #[.slice (some ⟨q, 0, none⟩) 1 1, .slice (some ⟨g, 0, none⟩) 4 4, .slice a len cap] 38)) fun e w' => e = .returned (.agg (u8s X)) ∧ w'.heap[S]? = some (.cells (u8s z32) 23 (0, 0)) ∧ Below w.heap.size w w' := by
    intro z g q hz
    obtain ⟨q1, q2, q3, q4⟩ := hz.out
    obtain ⟨t1, t2, t3, t4, t5⟩ := H0.out
    have ba := (Below.refl z.heap.size z).alloc (Nat.le_refl _) (.cells #[.slice (some ⟨q, 0, none⟩) 1 1, .slice (some ⟨g, 0, none⟩) 4 4, .slice a len cap] 38)
    have bw := below_to q2 ba
    refine (pieces3 z.heap.size _ _ _ 1 4 len 1 4 cap [l % 256] (bytesOf p 4) L M _ (t1.below bw) (al_at rfl) (q3.below ba) (q4.below ba) (t2.below bw) (by omega) (by omega) t3 (by omega) (by omega) t4 HD.out.symm HN.out).mono fun e w' ⟨he, hb⟩ => ?_
    have hS1 := al_old (o := .cells #[.slice (some ⟨q, 0, none⟩) 1 1, .slice (some ⟨g, 0, none⟩) 4 4, .slice a len cap] 38) q1
    exact ⟨by rw [he, HX.out], (hb.block _ (Array.getElem?_eq_some_iff.1 hS1).1).trans hS1, below_to bw hb⟩
  have H1 : Box ((w.alloc (.cells (u8s z32) 23)).heap[S]? = some (.cells (u8s z32) 23 (0, 0)) ∧ Below w.heap.size w (w.alloc (.cells (u8s z32) 23))) := ⟨al_at HS.out, (Below.refl _ _).alloc (Nat.le_refl _) _⟩
  go_upto_region 1 with (refine wpList_run rfl _ _ (exec_alloc 23 rfl _ zeroS) ?_)
  rw [HS.out]
  generalize w.alloc (.cells (u8s z32) 23) = w1 at H1 ⊢
  have H2 : Box ((w1.alloc (.cells #[.int .u8 (l % 256)] 5)).heap[S]? = some (.cells (u8s z32) 23 (0, 0)) ∧ Below w.heap.size w (w1.alloc (.cells #[.int .u8 (l % 256)] 5)) ∧ Bytes (w1.alloc (.cells #[.int .u8 (l % 256)] 5)) (some ⟨w1.heap.size, 0, none⟩) 1 [l % 256]) := ⟨al_old H1.out.1, below_to H1.out.2 ((Below.refl _ _).alloc (Nat.le_refl _) _), bytes_of_row (X := [l % 256]) (t := 5) (fr := (0, 0)) HQ.out (al_at rfl)⟩
  go_wp2_with (first
    | (refine wpList_store_row rfl 23 _ _ rfl S (u8s X) rfl rfl 23 (u8s z32) H5.out.1 (by rw [HXs.out]; exact infoS) (by rw [HXs.out, size_u8s]; exact len_z32) (all_u8s X) ?_)
    | (go_at_call 82; refine Calls.mono (sum3 w3 g3 w1.heap.size H3) ?_; rintro e w5 ⟨rfl, h5, hb5⟩; have H5 : Box (w5.heap[S]? = some (.cells (u8s z32) 23 (0, 0)) ∧ Below w.heap.size w w5) := ⟨h5, hb5⟩; clear h5 hb5)
    | (go_at_call 80; refine Calls.mono (put4 p _ hp) ?_; rintro e w3 ⟨g3, rfl, hB, hb⟩; have H3 : Box (w3.heap[S]? = some (.cells (u8s z32) 23 (0, 0)) ∧ Below w.heap.size w w3 ∧ Bytes w3 (some ⟨w1.heap.size, 0, none⟩) 1 [l % 256] ∧ Bytes w3 (some ⟨g3, 0, none⟩) 4 (bytesOf p 4)) := ⟨(hb.block _ (Array.getElem?_eq_some_iff.1 H2.out.1).1).trans H2.out.1, below_to H2.out.2.1 hb, H2.out.2.2.below hb, hB⟩; clear hb hB))
  (try simp only [Exit.inBlock, Exit.then])
  refine bodyPost_ret (results_cell_row (p := 6) (ty := 23) rfl _ _ S 23 (u8s X) (0, 0) _ rfl (setRow_heap _ _ _ _ _ _ H5.out.1) Tryz.underlying23 rfl (by rw [HXs.out]; exact infoS)) rfl ?_
  exact ⟨by rw [HX.out], below_setRow H5.out.2 (by rw [HS.out]; exact Nat.le_refl _) _⟩
def LiesR (w : World) (g : Nat) (r : Rf) : Prop := w.heap[g]? = some (.cells (ra r) 36 (0, 0))
theorem LiesR.lt {w : World} {g : Nat} {r : Rf} (h : LiesR w g r) : g < w.heap.size := (Array.getElem?_eq_some_iff.1 h).1
theorem LiesR.below {w w' : World} {g : Nat} {r : Rf} (h : LiesR w g r) (hb : Below w.heap.size w w') : LiesR w' g r := (hb.block g h.lt).trans h
theorem LiesR.on {w w' : World} {g B : Nat} {r : Rf} (h : LiesR w g r) (hb : Below B w w') (hg : g < B) : LiesR w' g r := (hb.block g hg).trans h
theorem LiesR.sum {w : World} {g : Nat} {r : Rf} (h : LiesR w g r) (hr : OkR r) : Bytes w (some ⟨g, 0, none⟩) 32 r.d :=
  ⟨hr.ld, hr.bd, fun _ => ⟨g, 0, rfl, h.lt, fun i hi => by rw [cell_of_row _ _ _ _ _ _ h, Nat.zero_add, ra, List.getElem?_toArray]; exact rc_sum hr i hi⟩⟩
theorem LiesR.stamp {w : World} {g : Nat} {r : Rf} (h : LiesR w g r) (hr : OkR r) : w.cell? ⟨g, 32, none⟩ = some (.int .u64 r.s) := by
  rw [cell_of_row _ _ _ _ _ _ h, ra, List.getElem?_toArray]; exact rc_stamp hr
theorem bytes_of_sum {w : World} {g : Nat} {X : List Int} (hX : Byt X) (hl : X.length = 32) (hg : w.heap[g]? = some (.cells (u8s X) 23 (0, 0))) : Bytes w (some ⟨g, 0, none⟩) 32 X := by
  have := bytes_of_row hX hg
  rwa [hl] at this
set_option maxRecDepth 20000 in
set_option maxHeartbeats 1000000 in
theorem check_any (r : Rf) (l p : Int) (a : Option Addr) (len cap : Nat) (L : List Int) (w : World) (hr : OkR r) (hT : Dig.Tabs w) (hp : 0 ≤ p ∧ p ≤ 4294967295) (hb : Bytes w a len L) (hl : len ≤ 800000) (hc : len ≤ cap) (hm : cap ≤ 9223372036854775807) :
    Calls Tryz.prog 66 #[.agg (ra r), .int .i64 l, .int .u32 p, .slice a len cap] w fun e w' => e = .returned (.bool (decide (r.d = dsha (dg l p L)))) ∧ Below w.heap.size w w' := by
  obtain ⟨X, HX⟩ : ∃ X, Box (dsha (dg l p L) = X) := ⟨_, ⟨rfl⟩⟩
  have HXs : Box ((u8s X).size = 32 ∧ X.length = 32 ∧ Byt X) := ⟨by rw [← HX.out, size_u8s, length_dsha], by rw [← HX.out, length_dsha], by rw [← HX.out]; exact byt_dsha _⟩
  obtain ⟨S, hS⟩ : ∃ S, w.heap.size = S := ⟨_, rfl⟩
  have HS : Box (w.heap.size = S) := ⟨hS⟩
  have HR : Box (OkR r) := ⟨hr⟩
  have HC : Box (∀ z, Below w.heap.size w z → Calls Tryz.prog 56 #[.int .i64 l, .int .u32 p, .slice a len cap] z fun e w' => e = .returned (.agg (u8s X)) ∧ Below z.heap.size z w') := ⟨fun z hz => by
    rw [← HX.out]
    exact digest_any l p a len cap L z (hT.below hz) hp (hb.below hz) hl hc hm⟩
  have H1 : Box (LiesR (w.alloc (.cells (ra r) 36)) S r ∧ Below w.heap.size w (w.alloc (.cells (ra r) 36))) := ⟨al_at hS, (Below.refl _ _).alloc (Nat.le_refl _) _⟩
  rw [HX.out]
  clear hT hb hl hc hm hp hS hr
  go_enter Tryz.func66, Tryz.ntmps66
  go_upto_region 1 with fail
  rw [HS.out]
  generalize w.alloc (.cells (ra r) 36) = w1 at H1 ⊢
  go_upto_region 2 with (first
    | (refine wpList_store_row rfl 23 _ _ rfl w2.heap.size (u8s X) rfl rfl 23 (u8s z32) (al_at rfl) (by rw [HXs.out.1]; exact infoS) (by rw [HXs.out.1, size_u8s]; exact len_z32) (all_u8s X) ?_)
    | (refine wpList_run rfl _ _ (exec_alloc 23 rfl _ zeroS) ?_)
    | (go_at_call 56; refine Calls.mono (HC.out w1 H1.out.2) ?_; rintro e w2 ⟨rfl, hb⟩; have H2 : Box (LiesR w2 S r ∧ Below w.heap.size w w2) := ⟨H1.out.1.below hb, below_to H1.out.2 hb⟩; clear hb))
  have H3 : Box (LiesR ((w2.alloc (.cells (u8s z32) 23)).setRow w2.heap.size (u8s X)) S r ∧ ((w2.alloc (.cells (u8s z32) 23)).setRow w2.heap.size (u8s X)).heap[w2.heap.size]? = some (.cells (u8s X) 23 (0, 0)) ∧ Below w.heap.size w ((w2.alloc (.cells (u8s z32) 23)).setRow w2.heap.size (u8s X))) := by
    have hlt := H2.out.1.lt
    have hw := H2.out.2.size
    refine ⟨?_, setRow_heap _ _ _ _ _ _ (al_at rfl), below_setRow (below_to H2.out.2 ((Below.refl _ _).alloc (Nat.le_refl _) _)) hw _⟩
    unfold LiesR
    rw [setRow_other _ _ _ _ (by omega)]
    exact al_old H2.out.1
  generalize (w2.alloc (.cells (u8s z32) 23)).setRow w2.heap.size (u8s X) = w3 at H3 ⊢
  generalize w2.heap.size = G at H3 ⊢
  have HE : Box (∀ m, Calls Tryz.prog 88 #[.slice (some ⟨S, 0, none⟩) 32 32, .slice (some ⟨G, 0, none⟩) 32 32] (w3.drewN m) fun e w' => e = .returned (.bool (decide (r.d = X))) ∧ w' = w3.drewN m) := ⟨fun m => by
    have bm : Below w3.heap.size w3 (w3.drewN m) := below_drewN (Below.refl _ _) m
    exact (bytes_any _ _ 32 32 32 32 r.d X _ ((H3.out.1.sum HR.out).below bm) ((bytes_of_sum HXs.out.2.2 HXs.out.2.1 H3.out.2.1).below bm) (by omega) (by omega)).mono fun _ _ ⟨h1, h2⟩ => ⟨h1, h2.symm⟩⟩
  clear HC H1 H2 HX
  simp only [Act.put, List.setIfInBounds_toArray, List.set_cons_zero, List.set_cons_succ]
  go_quiet (first | (go_at_call 88; exact Calls.quiet_of_same (HE.out _)))
  go_wp2
  go_ret
  exact ⟨rfl, below_drewN H3.out.2.2 nq⟩
end Go.Proofs.YthbbijaikcmaeaaGreatDoor
