/-
  VaultWorn, plainly: the items that are hit are those that are written; an update that would need more versions than are left. And what follows it.
-/
import Derived.Test.YthbbijaikcmaeaaGreatDoorQ39
import Derived.BigRegion
import Derived.BigQuiet
import Derived.Laws.StructEq
import Derived.ChangeKeysEq
import Derived.Laws.Rows
import Derived.Laws.Tables
import Derived.Laws.ResultCell
import Derived.Test.YthbbijaikcmaeaaGreatDoorQ01
namespace Go.Proofs.YthbbijaikcmaeaaGreatDoor
set_option maxRecDepth 100000
set_option linter.unusedVariables false
set_option maxRecDepth 100000
open Go.RowKit Plain Go.Proofs.YthbbijaikcmaeaaGreatDoor.Shap.Plain
/-- One item hit, one block's three, and all of them. -/
def ht (s : List Bool × Nat) (p : Nat) : List Bool × Nat := if s.1.getD p false = true then s else (s.1.set p true, s.2 + 1)
def htP (b : Nat) : Nat → Nat
  | 0 => b
  | 1 => 5 + b / 4
  | _ => 7
def htB (s : List Bool × Nat) (b : Nat) : List Bool × Nat := ht (ht (ht s (htP b 0)) (htP b 1)) (htP b 2)
def htL (l : List Nat) : List Bool × Nat := l.foldl htB (List.replicate 8 false, 0)
theorem htL_snoc (l : List Nat) (b : Nat) : htL (l ++ [b]) = htB (htL l) b := by simp [htL]
/-- What is hit, and how many. -/
structure Hs (s : List Bool × Nat) (P : Nat → Prop) : Prop where
  len : s.1.length = 8
  cnt : s.2 = s.1.count true
  hit : ∀ y, y < 8 → (s.1.getD y false = true ↔ P y)
theorem cnt_set : ∀ (l : List Bool) (p : Nat), p < l.length → l.getD p false = false → (l.set p true).count true = l.count true + 1
  | [], p, h, _ => by cases h
  | b :: l, 0, h, e => by
    have : b = false := by simpa using e
    subst this
    simp
  | b :: l, p + 1, h, e => by
    have ih := cnt_set l p (by simpa using h) (by simpa using e)
    simp only [List.set_cons_succ, List.count_cons, ih]
    omega
theorem getD_set (l : List Bool) (p y : Nat) (hp : p < l.length) : (l.set p true).getD y false = if y = p then true else l.getD y false := by
  rw [List.getD_eq_getElem?_getD, List.getD_eq_getElem?_getD, List.getElem?_set]
  by_cases h : y = p
  · subst h; rw [if_pos rfl, if_pos hp, if_pos rfl]; rfl
  · rw [if_neg (fun e => h e.symm), if_neg h]
theorem Hs.ht {s : List Bool × Nat} {P : Nat → Prop} (h : Hs s P) (p : Nat) (hp : p < 8) : Hs (ht s p) (fun y => P y ∨ y = p) := by
  unfold Go.Proofs.YthbbijaikcmaeaaGreatDoor.ht
  by_cases hb : s.1.getD p false = true
  · rw [if_pos hb]
    refine ⟨h.len, h.cnt, fun y hy => ?_⟩
    rw [h.hit y hy]
    constructor
    · exact .inl
    · rintro (h1 | rfl)
      · exact h1
      · exact (h.hit y hy).1 hb
  · rw [if_neg hb]
    have hf : s.1.getD p false = false := by simpa using hb
    refine ⟨by simpa using h.len, ?_, fun y hy => ?_⟩
    · show s.2 + 1 = _
      rw [cnt_set _ _ (by rw [h.len]; exact hp) hf, h.cnt]
    · show (s.1.set p true).getD y false = true ↔ _
      rw [getD_set _ _ _ (by rw [h.len]; exact hp)]
      by_cases e : y = p
      · rw [if_pos e]; simp [e]
      · rw [if_neg e, h.hit y hy]; simp [e]
theorem hs_fold : ∀ (l : List Nat) (s : List Bool × Nat) (P : Nat → Prop), Hs s P → (∀ b ∈ l, b < 5) → Hs (l.foldl htB s) (fun y => P y ∨ ∃ b ∈ l, y = b ∨ y = 5 + b / 4 ∨ y = 7)
  | [], s, P, h, _ => ⟨h.len, h.cnt, fun y hy => (h.hit y hy).trans (by simp)⟩
  | b :: l, s, P, h, hl => by
    have hb : b < 5 := hl b (by simp)
    have h2 := ((h.ht b (by omega)).ht (5 + b / 4) (by omega)).ht 7 (by omega)
    have h3 := hs_fold l (htB s b) _ h2 (fun x hx => hl x (by simp [hx]))
    refine ⟨h3.len, h3.cnt, fun y hy => (h3.hit y hy).trans ?_⟩
    constructor
    · rintro ((((h | h) | h) | h) | ⟨x, hx, h⟩)
      · exact .inl h
      · exact .inr ⟨b, by simp, .inl h⟩
      · exact .inr ⟨b, by simp, .inr (.inl h)⟩
      · exact .inr ⟨b, by simp, .inr (.inr h)⟩
      · exact .inr ⟨x, by simp [hx], h⟩
    · rintro (h | ⟨x, hx, h⟩)
      · exact .inl (.inl (.inl (.inl h)))
      · rcases List.mem_cons.1 hx with rfl | hx
        · rcases h with h | h | h
          · exact .inl (.inl (.inl (.inr h)))
          · exact .inl (.inl (.inr h))
          · exact .inl (.inr h)
        · exact .inr ⟨x, hx, h⟩
theorem hs_L (l : List Nat) (hl : ∀ b ∈ l, b < 5) : Hs (htL l) (fun y => ∃ b ∈ l, y = b ∨ y = 5 + b / 4 ∨ y = 7) := by
  have h0 : Hs (List.replicate 8 false, 0) (fun _ => False) := ⟨rfl, rfl, fun y hy => by
    have : (List.replicate 8 false).getD y false = false := by
      rw [List.getD_eq_getElem?_getD, List.getElem?_replicate]; split <;> rfl
    show (List.replicate 8 false).getD y false = true ↔ False
    rw [this]
    exact ⟨fun h => (by cases h), fun h => h.elim⟩⟩
  have h1 := hs_fold l _ _ h0 hl
  exact ⟨h1.len, h1.cnt, fun y hy => (h1.hit y hy).trans (by simp)⟩
theorem lvi5 : lvi 5 2 0 = (0, 0) ∧ lvi 5 2 1 = (0, 1) ∧ lvi 5 2 2 = (0, 2) ∧ lvi 5 2 3 = (0, 3) ∧ lvi 5 2 4 = (0, 4) ∧ lvi 5 2 5 = (1, 0) ∧ lvi 5 2 6 = (1, 1) ∧ lvi 5 2 7 = (2, 0) := by decide
/-- As many are hit as are written. -/
theorem hits_its (L : List (Int × List Int)) (hL : ∀ x ∈ L, 0 ≤ x.1 ∧ x.1 < 5) : (itsTo (lastB L) 5 (topL 5) (off 5 (topL 5 + 1))).length = (htL (L.map (·.1.toNat))).2 := by
  have h1 : topL 5 = 2 := by decide
  have h2 : off 5 (topL 5 + 1) = 8 := by decide
  rw [h2, h1]
  obtain ⟨q0, q1, q2, q3, q4, q5, q6, q7⟩ := lvi5
  have hh := hs_L (L.map (·.1.toNat)) (fun b hb => by obtain ⟨x, hx, rfl⟩ := List.mem_map.1 hb; have := hL x hx; omega)
  have hw : ∀ l i y, y < 8 → ((∃ x ∈ L, x.1.toNat / 4 ^ l = i) ↔ ∃ b ∈ L.map (·.1.toNat), y = b ∨ y = 5 + b / 4 ∨ y = 7) → wrt (lastB L) 5 l i = (htL (L.map (·.1.toNat))).1.getD y false := by
    intro l i y hy he
    have e1 := wrt_last L 5 l i hL
    have e2 := hh.hit y hy
    have e3 : wrt (lastB L) 5 l i = true ↔ (htL (L.map (·.1.toNat))).1.getD y false = true := e1.trans (he.trans e2.symm)
    exact Bool.eq_iff_iff.2 e3
  have lf : ∀ y, y < 5 → wrt (lastB L) 5 0 y = (htL (L.map (·.1.toNat))).1.getD y false := fun y hy => hw 0 y y (by omega) (by
    constructor
    · rintro ⟨x, hx, h⟩
      exact ⟨x.1.toNat, List.mem_map.2 ⟨x, hx, rfl⟩, .inl (by simpa using h.symm)⟩
    · rintro ⟨b, hb, h⟩
      obtain ⟨x, hx, rfl⟩ := List.mem_map.1 hb
      have := hL x hx
      exact ⟨x, hx, by simp only [Nat.pow_zero, Nat.div_one]; omega⟩)
  have l5 : wrt (lastB L) 5 1 0 = (htL (L.map (·.1.toNat))).1.getD 5 false := hw 1 0 5 (by omega) (by
    constructor
    · rintro ⟨x, hx, h⟩
      exact ⟨x.1.toNat, List.mem_map.2 ⟨x, hx, rfl⟩, .inr (.inl (by omega))⟩
    · rintro ⟨b, hb, h⟩
      obtain ⟨x, hx, rfl⟩ := List.mem_map.1 hb
      have := hL x hx
      exact ⟨x, hx, by omega⟩)
  have l6 : wrt (lastB L) 5 1 1 = (htL (L.map (·.1.toNat))).1.getD 6 false := hw 1 1 6 (by omega) (by
    constructor
    · rintro ⟨x, hx, h⟩
      exact ⟨x.1.toNat, List.mem_map.2 ⟨x, hx, rfl⟩, .inr (.inl (by omega))⟩
    · rintro ⟨b, hb, h⟩
      obtain ⟨x, hx, rfl⟩ := List.mem_map.1 hb
      have := hL x hx
      exact ⟨x, hx, by omega⟩)
  have l7 : wrt (lastB L) 5 2 0 = (htL (L.map (·.1.toNat))).1.getD 7 false := hw 2 0 7 (by omega) (by
    constructor
    · rintro ⟨x, hx, h⟩
      exact ⟨x.1.toNat, List.mem_map.2 ⟨x, hx, rfl⟩, .inr (.inr rfl)⟩
    · rintro ⟨b, hb, h⟩
      obtain ⟨x, hx, rfl⟩ := List.mem_map.1 hb
      have := hL x hx
      exact ⟨x, hx, by omega⟩)
  have l0 := lf 0 (by omega)
  have l1 := lf 1 (by omega)
  have l2 := lf 2 (by omega)
  have l3 := lf 3 (by omega)
  have l4 := lf 4 (by omega)
  have hc : (htL (L.map (·.1.toNat))).2 = (htL (L.map (·.1.toNat))).1.count true := hh.cnt
  have hn : (htL (L.map (·.1.toNat))).1.length = 8 := hh.len
  rw [hc]
  generalize (htL (L.map (·.1.toNat))).1 = H at *
  match H, hn with
  | [a0, a1, a2, a3, a4, a5, a6, a7], _ =>
    simp only [List.getD_cons_zero, List.getD_cons_succ] at l0 l1 l2 l3 l4 l5 l6 l7
    simp only [itsTo, q0, q1, q2, q3, q4, q5, q6, q7, l0, l1, l2, l3, l4, l5, l6, l7, List.length_append, List.length_nil, List.count_cons, List.count_nil]
    cases a0 <;> cases a1 <;> cases a2 <;> cases a3 <;> cases a4 <;> cases a5 <;> cases a6 <;> cases a7 <;> rfl
/-- An update that would need more versions than are left writes nothing. -/
theorem updM_worn (v : Vt) (ok : v.Ok) (M : List Im) (hne : M ≠ []) (hlen : ∀ m ∈ M, m.bs.length = m.bl) (htk : tk v.n M = 0) (d : Disk.Dk) (f : Nat → List Int) (hG : Good v.key v.n d f v.top) (hw : v.lim < v.nx + ((itsTo (lastB (LM M)) v.n (topL v.n) (off v.n (topL v.n + 1))).length : Int)) :
    ∃ d' R, updM (Yk v.key) Xd v.n (topL v.n) v.lim (LM M) d v.nx v.top = (d', v.nx, 15, R) ∧ d'.uw = d.uw ∧ OkR R := by
  obtain ⟨Kk, c1, c2⟩ := hG.is
  have hT1 := topL_one v.n ok.lo ok.hi
  obtain ⟨d1, K1, e1, u1, l1, _⟩ := gat_ok (lastB (LM M)) (sound_Xd (2 * off v.n (topL v.n + 1))) (Nat.le_refl _) (topL v.n) (Nat.le_refl _) d (fun _ _ => v.top) hG.up c1 (fun i hi => by
    have := wrt_lt (lastB (LM M)) v.n (topL v.n) i hi
    rw [hT1] at this
    obtain rfl : i = 0 := by omega
    exact c2.symm)
  have a1 : ¬ (LM M).any (fun x => decide (x.2.length ≠ 160)) = true := fun h => by
    rw [any_len M hlen] at h
    unfold tk at htk
    rw [if_pos h] at htk
    cases htk
  have a2 : ¬ (LM M).any (fun x => decide ((v.n : Int) ≤ x.1)) = true := fun h => by
    rw [any_blk v.n M] at h
    unfold tk at htk
    split at htk <;> first
      | cases htk
      | (rw [if_pos h] at htk; cases htk)
  have a3 : ¬ LM M = [] := fun h => hne (by simpa [LM] using h)
  have e : updM (Yk v.key) Xd v.n (topL v.n) v.lim (LM M) d v.nx v.top = (d1, v.nx, 15, yr) := by
    rw [updM, if_neg a1, if_neg a2, if_neg a3, e1]
    simp only [ne_eq, not_true_eq_false, if_false]
    rw [if_pos hw]
  refine ⟨d1, yr, e, ?_, okR_zr⟩
  have hg : (gSt v (itsTo (lastB (LM M)) v.n (topL v.n) (off v.n (topL v.n + 1))) d).1.uw = d.uw := (gtM_disk v.key v.n (dnL v.n _ (topL v.n)) (d, 0, F0 v.n v.top, fun _ => zn)).1
  have hc := updC_updM v ok M hne hlen htk d
  rw [e] at hc
  unfold updC at hc
  split at hc
  · rw [← hg]; exact (congrArg (fun x => x.1.uw) hc).symm
  · rw [if_pos (by unfold wnb; simpa using hw)] at hc
    rw [← hg]; exact (congrArg (fun x => x.1.uw) hc).symm
end Go.Proofs.YthbbijaikcmaeaaGreatDoor
namespace Go.Proofs.YthbbijaikcmaeaaGreatDoor.Rec.Plain
set_option maxRecDepth 100000
end Go.Proofs.YthbbijaikcmaeaaGreatDoor.Rec.Plain
namespace Go.Proofs.YthbbijaikcmaeaaGreatDoor.Rec
set_option maxRecDepth 100000
set_option linter.unusedVariables false
open Go.RowKit Go.Proofs.YthbbijaikcmaeaaGreatDoor.Plain Go.Proofs.YthbbijaikcmaeaaGreatDoor.Rec.Plain
/-- An operation whose value and world are known. -/
theorem wpList_run {ops : Array Oper} {rest : List Oper} {o : Oper} {a : Act} {w : World} {Q : Exit → Act → World → Prop} (hg : o.guard = none) (v : Value) (w' : World) (hr : (execOp a.eval o).run Tryz.prog w = .ok (.value v) w') (h : wpList Tryz.prog ops Q rest (a.put o.dst v) w') : wpList Tryz.prog ops Q (o :: rest) a w :=
  wpList_plain hg fun _ hK => by unfold Oper.wp; rw [hr]; exact hK _ _ h
theorem exec_alloc {o : Oper} {ρ : Operand → Value} {w : World} (t : TypeId) (ho : o.op = .alloc t) (Z : Array Value) (hz : (Tryz.prog.info? t).map (·.zero) = some (some (.agg Z))) :
    (execOp ρ o).run Tryz.prog w = .ok (.value (.pointer (some ⟨w.heap.size, 0, none⟩))) (w.alloc (.cells Z t)) := by
  cases hq : Tryz.prog.info? t with
  | none => simp [hq] at hz
  | some i =>
    have hs : i.zero = some (.agg Z) := by simpa [hq] using hz
    unfold execOp
    simp [ho, Instr.alloc, zeroValue, typeInfo, hq, hs, newVar, newRow, Value.cells, Sem.run_bind]
/-- A struct built out of parts. -/
theorem exec_built {o : Oper} {ρ : Operand → Value} {w : World} (t : TypeId) (parts : List (Nat × Operand)) (ho : o.op = .build t parts.toArray) (ps : List (Nat × Value)) (hp : parts.map (fun x => (x.1, ρ x.2)) = ps) (cells : Array Value) (h : Tryz.prog.built t ps = some cells) :
    (execOp ρ o).run Tryz.prog w = .ok (.value (.agg cells)) w := by
  have h' : Tryz.prog.built t (parts.toArray.map fun (i, x) => (i, ρ x)).toList = some cells := by
    rw [← h, ← hp]; simp
  unfold execOp
  simp only [ho, Sem.run_bind, run_build w t _ cells h', Result.andThen_ok]
  rfl
theorem But.setCells {G : Nat} : ∀ (cs : List Value) (o : Nat) {w w' : World}, But G w w' → But G w (w'.setCells G o cs)
  | [], _, _, _, h => h
  | v :: r, o, _, _, h => But.setCells r (o + 1) (h.setCell o v)
theorem setCells_row (g : Nat) (t : TypeId) : ∀ (cs : List Value) (o : Nat) (cur : List Value) (w : World), w.heap[g]? = some (.cells cur.toArray t (0, 0)) → o + cs.length ≤ cur.length → (w.setCells g o cs).heap[g]? = some (.cells (splice cur o cs).toArray t (0, 0))
  | [], o, cur, w, h, _ => by rw [splice_nil]; exact h
  | v :: r, o, cur, w, h, hl => by
    rw [World.setCells]
    have h1 := heap_setCell_same w g o _ t v h
    rw [List.setIfInBounds_toArray] at h1
    simp only [List.length_cons] at hl
    rw [setCells_row g t r (o + 1) _ _ h1 (by simp; omega)]
    congr 2
    have ho : o < cur.length := by omega
    simp only [splice, List.length_cons]
    rw [List.take_set, List.drop_set_of_lt (by omega), List.take_add_one, List.set_append]
    have hm : min o cur.length = o := by omega
    simp [ho, hm, Nat.add_assoc, Nat.add_comm 1]
theorem there_row {w : World} {g o n : Nat} {cs : Array Value} {t : TypeId} (hg : w.heap[g]? = some (.cells cs t (0, 0))) (h : o + n ≤ cs.size) : w.there g o n := by
  intro j hj
  refine ⟨?_, frozen_of_row w g _ cs t hg⟩
  rw [cell_of_row _ _ _ _ _ _ hg]
  have : o + j < cs.size := by omega
  simp [this]
theorem range_arr {w : World} {g o : Nat} {cs : Array Value} {t : TypeId} {fr : Nat × Nat} (hg : w.heap[g]? = some (.cells cs t fr)) (L : List Value) (h : ∀ j v, L[j]? = some v → cs[o + j]? = some v) : w.rangeAt g o L := by
  intro j v hv
  rw [cell_of_row _ _ _ _ _ _ hg]
  exact h j v hv
theorem range_bytes {w : World} {b o len : Nat} {L : List Int} (h : Bytes w (some ⟨b, o, none⟩) len L) : w.rangeAt b o (L.map (Value.int .u8)) := fun j v hv => by
  have := h.news j v hv
  rwa [Addr.add_lit] at this
theorem exec_load_mid {P : Program} {o : Oper} {ρ : Operand → Value} {w' : World} (t : TypeId) (d : TypeDesc) (x : Operand) (ho : o.op = .load t x) (hu : P.underlying t = some d) (hd : d.isRow = true) (b off : Nat) (hx : ρ x = .pointer (some ⟨b, off, none⟩)) (cs : List Value) (hi : (P.info? t).map (·.size) = some cs.length) (hc : w'.rangeAt b off cs) :
    (execOp ρ o).run P w' = .ok (.value (.agg cs.toArray)) w' := by
  unfold execOp
  simp only [ho, hx, Instr.loadAt, Instr.sureAddr, Sem.run_bind, Sem.run_pure, Result.andThen_ok, run_loadVar_mid w' b off t cs d hc hu hd hi]
theorem splice_set (cs : List Value) (o : Nat) (v : Value) (r : List Value) (h : o + (r.length + 1) ≤ cs.length) : splice (cs.set o v) (o + 1) r = splice cs o (v :: r) := by
  simp only [splice, List.length_cons] at *
  have ho : o < cs.length := by omega
  have hm : min o cs.length = o := by omega
  rw [List.take_set, List.drop_set_of_lt (by omega), List.take_add_one, List.set_append]
  simp [ho, hm, Nat.add_assoc, Nat.add_comm 1]
theorem fold_splice : ∀ (l : List Value) (k off : Nat) (cs : Array Value), off + k + l.length ≤ cs.size → (l.zipIdx k).foldl (fun cs x => cs.setIfInBounds (off + x.2) x.1) cs = (splice cs.toList (off + k) l).toArray
  | [], k, off, cs, h => by simp [splice]
  | v :: r, k, off, cs, h => by
    simp only [List.length_cons] at h
    rw [List.zipIdx_cons, List.foldl_cons]
    have ih := fold_splice r (k + 1) off (cs.setIfInBounds (off + k) v) (by simp; omega)
    simp only at ih ⊢
    rw [ih]
    congr 1
    have e : (cs.setIfInBounds (off + k) v).toList = cs.toList.set (off + k) v := by simp
    rw [e, show off + (k + 1) = off + k + 1 by omega]
    exact splice_set _ _ _ _ (by simp; omega)
theorem fill_step (place : Nat → Option (Nat × Nat)) (cells : Array Value) (i off size : Nat) (A : Array Value) (rest : List (Nat × Value)) (hp : place i = some (off, size)) (hA : A.size = size) (hf : off + size ≤ cells.size) :
    Instr.fill place cells ((i, .agg A) :: rest) = Instr.fill place (splice cells.toList off A.toList).toArray rest := by
  have hc : (Value.agg A).cells = A := rfl
  have h1 : ¬ (A.size ≠ size || off + A.size > cells.size) = true := by simp; omega
  rw [Instr.fill, hp]
  simp only [hc]
  rw [if_neg h1]
  congr 1
  rw [← Array.foldl_toList, Array.toList_zipIdx]
  have := fold_splice A.toList 0 off cells (by simp; omega)
  rw [Nat.add_zero] at this
  rw [← this]
theorem eqF_cons (d : Nat) (xs ys : Array Value) (f : Field) (fs : List Field) (hf : (f.name != "_") = true) : Op.eqFields d xs ys (f :: fs) = (do
      let a ← part f.type xs f.offset
      let b ← part f.type ys f.offset
      let r ← Op.equalIn d f.type a b
      if (!r) = true then pure false else Op.eqFields d xs ys fs) := by
  have h : f.name ≠ "_" := by simpa using hf
  rw [Op.eqFields, if_pos h]
theorem eqF_step (d : Nat) (xs ys : Array Value) (f : Field) (fs : List Field) (t : TypeId) (o : Nat) (hf : (f.name != "_") = true) (ht : f.type = t) (ho : f.offset = o) (x y : Value) (w : World) (hx : (part t xs o).run Tryz.prog w = .ok x w) (hy : (part t ys o).run Tryz.prog w = .ok y w) (b c : Bool) (he : (Op.equalIn d t x y).run Tryz.prog w = .ok b w) (hr : (Op.eqFields d xs ys fs).run Tryz.prog w = .ok c w) :
    (Op.eqFields d xs ys (f :: fs)).run Tryz.prog w = .ok (b && c) w := by
  subst ht ho
  rw [eqF_cons d xs ys f fs hf]
  simp only [Sem.run_bind, hx, hy, he, Result.andThen_ok]
  cases b
  · simp
  · simpa using hr
/-- Which operation comes next: nothing is done, so that an arm of a walk fails at once where another one comes. -/
theorem atStore {P : Program} {ops : Array Oper} {Q : Exit → Act → World → Prop} {rest : List Oper} {a : Act} {w : World} (t : TypeId) {x y : Operand} {d : Option Tmp} {ty : TypeId} {p : String} {af : Array Edge} {g : Option (Nat × Bool)} (h : wpList P ops Q ({ dst := d, op := .store t x y, type := ty, pos := p, after := af, guard := g } :: rest) a w) : wpList P ops Q ({ dst := d, op := .store t x y, type := ty, pos := p, after := af, guard := g } :: rest) a w := h
theorem atLoad {P : Program} {ops : Array Oper} {Q : Exit → Act → World → Prop} {rest : List Oper} {a : Act} {w : World} (t : TypeId) {x : Operand} {d : Option Tmp} {ty : TypeId} {p : String} {af : Array Edge} {g : Option (Nat × Bool)} (h : wpList P ops Q ({ dst := d, op := .load t x, type := ty, pos := p, after := af, guard := g } :: rest) a w) : wpList P ops Q ({ dst := d, op := .load t x, type := ty, pos := p, after := af, guard := g } :: rest) a w := h
theorem atSlice {P : Program} {ops : Array Oper} {Q : Exit → Act → World → Prop} {rest : List Oper} {a : Act} {w : World} (t : TypeId) {x : Operand} {lo hi mx : Option Operand} {d : Option Tmp} {ty : TypeId} {p : String} {af : Array Edge} {g : Option (Nat × Bool)} (h : wpList P ops Q ({ dst := d, op := .slice t x lo hi mx, type := ty, pos := p, after := af, guard := g } :: rest) a w) : wpList P ops Q ({ dst := d, op := .slice t x lo hi mx, type := ty, pos := p, after := af, guard := g } :: rest) a w := h
theorem atBuild {P : Program} {ops : Array Oper} {Q : Exit → Act → World → Prop} {rest : List Oper} {a : Act} {w : World} (t : TypeId) {x : Array (Nat × Operand)} {d : Option Tmp} {ty : TypeId} {p : String} {af : Array Edge} {g : Option (Nat × Bool)} (h : wpList P ops Q ({ dst := d, op := .build t x, type := ty, pos := p, after := af, guard := g } :: rest) a w) : wpList P ops Q ({ dst := d, op := .build t x, type := ty, pos := p, after := af, guard := g } :: rest) a w := h
theorem atConv {P : Program} {ops : Array Oper} {Q : Exit → Act → World → Prop} {rest : List Oper} {a : Act} {w : World} (t u : TypeId) {x : Operand} {d : Option Tmp} {ty : TypeId} {p : String} {af : Array Edge} {g : Option (Nat × Bool)} (h : wpList P ops Q ({ dst := d, op := .convert t u x, type := ty, pos := p, after := af, guard := g } :: rest) a w) : wpList P ops Q ({ dst := d, op := .convert t u x, type := ty, pos := p, after := af, guard := g } :: rest) a w := h
theorem atBin {P : Program} {ops : Array Oper} {Q : Exit → Act → World → Prop} {rest : List Oper} {a : Act} {w : World} (b : BinOp) (t : TypeId) {x y : Operand} {u : TypeId} {d : Option Tmp} {ty : TypeId} {p : String} {af : Array Edge} {g : Option (Nat × Bool)} (h : wpList P ops Q ({ dst := d, op := .binOp b t x y u, type := ty, pos := p, after := af, guard := g } :: rest) a w) : wpList P ops Q ({ dst := d, op := .binOp b t x y u, type := ty, pos := p, after := af, guard := g } :: rest) a w := h
/-- An operation that is guarded, and wanted. -/
theorem wpList_runG {ops : Array Oper} {rest : List Oper} {o : Oper} {a : Act} {w : World} {Q : Exit → Act → World → Prop} (hw : Region.wanted o (yielded ops a.tmps) = true) (v : Value) (w' : World) (hr : (execOp a.eval o).run Tryz.prog w = .ok (.value v) w') (h : wpList Tryz.prog ops Q rest (a.put o.dst v) w') : wpList Tryz.prog ops Q (o :: rest) a w :=
  BigFrame.wpList_want hw fun _ hK => by unfold Oper.wp; rw [hr]; exact hK _ _ h
/-- A row loaded from the midst of a block. -/
theorem wpList_ldMid {ops : Array Oper} {rest : List Oper} {o : Oper} {a : Act} {w : World} {Q : Exit → Act → World → Prop} (hg : o.guard = none) (t : TypeId) (d : TypeDesc) (x : Operand) (ho : o.op = .load t x) (hu : Tryz.prog.underlying t = some d) (hd : d.isRow = true) (b off : Nat) (hx : a.eval x = .pointer (some ⟨b, off, none⟩)) (cs : List Value) (hi : (Tryz.prog.info? t).map (·.size) = some cs.length) (hc : w.rangeAt b off cs)
    (h : wpList Tryz.prog ops Q rest (a.put o.dst (.agg cs.toArray)) w) : wpList Tryz.prog ops Q (o :: rest) a w := wpList_run hg _ _ (exec_load_mid t d x ho hu hd b off hx cs hi hc) h
theorem atAlloc {P : Program} {ops : Array Oper} {Q : Exit → Act → World → Prop} {rest : List Oper} {a : Act} {w : World} (t : TypeId) {d : Option Tmp} {ty : TypeId} {p : String} {af : Array Edge} {g : Option (Nat × Bool)} (h : wpList P ops Q ({ dst := d, op := .alloc t, type := ty, pos := p, after := af, guard := g } :: rest) a w) : wpList P ops Q ({ dst := d, op := .alloc t, type := ty, pos := p, after := af, guard := g } :: rest) a w := h
theorem atIdx {P : Program} {ops : Array Oper} {Q : Exit → Act → World → Prop} {rest : List Oper} {a : Act} {w : World} (t : TypeId) {x y : Operand} {d : Option Tmp} {ty : TypeId} {p : String} {af : Array Edge} {g : Option (Nat × Bool)} (h : wpList P ops Q ({ dst := d, op := .indexAddr t x y, type := ty, pos := p, after := af, guard := g } :: rest) a w) : wpList P ops Q ({ dst := d, op := .indexAddr t x y, type := ty, pos := p, after := af, guard := g } :: rest) a w := h
theorem below_drewN {B : Nat} {w x : World} (h : Below B w x) (n : Nat) : Below B w (x.drewN n) := ⟨h.os, h.tape, h.output, h.size, h.block⟩
/-- A row laid into a new block. -/
theorem wpList_newRow {ops : Array Oper} {rest : List Oper} {o : Oper} {a : Act} {v : World} {Q : Exit → Act → World → Prop} {u : TypeId} (w : World) (Z C : Array Value) (hi : (Tryz.prog.info? u).map (·.size) = some C.size) (hZ : Z.size = C.size) (h1 : C.all (·.oneCell') = true) (hgd : o.guard = none) (x y : Operand) (ho : o.op = .store u x y)
    (hx : a.eval x = .pointer (some ⟨w.heap.size, 0, none⟩)) (hy : a.eval y = .agg C) (hv : v = w.alloc (.cells Z u))
    (h : ∀ z, z.heap[w.heap.size]? = some (.cells C u (0, 0)) → Below w.heap.size w z → wpList Tryz.prog ops Q rest (a.put o.dst undef) z) : wpList Tryz.prog ops Q (o :: rest) a v := by
  subst hv
  exact wpList_store_row hgd u x y ho w.heap.size C hx hy u Z (al_at rfl) hi hZ h1 (h _ (setRow_heap _ _ _ _ _ _ (al_at rfl)) (below_setRow ((Below.refl _ _).alloc (Nat.le_refl _) _) (Nat.le_refl _) _))
theorem flat_at (L : List (List Value)) (sz : Nat) (hL : ∀ x ∈ L, x.length = sz) (k : Nat) (hk : k < L.length) (j : Nat) (hj : j < sz) : L.flatten[sz * k + j]? = (L[k])[j]? := by
  induction L generalizing k with
  | nil => simp at hk
  | cons x L ih =>
    have hx : x.length = sz := hL x (by simp)
    cases k with
    | zero => simp [List.getElem?_append, hx, hj]
    | succ k =>
      have h1 : sz * (k + 1) + j - x.length = sz * k + j := by rw [hx, Nat.mul_succ]; omega
      rw [List.flatten_cons, List.getElem?_append_right (by rw [hx, Nat.mul_succ]; omega), h1, ih (fun y hy => hL y (by simp [hy])) k (by simpa using hk)]
      simp
theorem own_same {w w' : World} {base n : Nat} {e : TypeId} {sz : Nat} {v : Value} {xs : List Value} (h : w.ownsRow base e sz v n xs) (hs : ∀ k, v.ownBlock = some k → w'.heap[k]? = w.heap[k]?) : w'.ownsRow base e sz v n xs := by
  refine ⟨h.1, ?_⟩
  rcases h.2 with hn | ⟨g, cap, cur, rfl, hb, hgg, rest⟩
  · exact .inl hn
  · exact .inr ⟨g, cap, cur, rfl, hb, by rw [hs g rfl]; exact hgg, rest⟩
theorem own_form2 {w : World} {base n : Nat} {e : TypeId} {sz : Nat} {v : Value} {xs : List Value} (h : w.ownsRow base e sz v n xs) : ∃ a cap, v = .slice a n cap := by
  rcases h.2 with ⟨rfl, rfl⟩ | ⟨g, cap, cur, rfl, _⟩
  · exact ⟨_, _, rfl⟩
  · exact ⟨_, _, rfl⟩
theorem news_new (w : World) (cs : List Value) (e : TypeId) : ∀ j u, cs[j]? = some u → (w.alloc (.cells cs.toArray e)).cell? ((⟨w.heap.size, 0, none⟩ : Addr).add j) = some u := by
  intro j u hj
  rw [Addr.add_lit, Nat.zero_add, cell_of_row _ _ _ _ _ _ (al_at rfl)]
  simpa using hj
theorem exec_load1 {P : Program} {o : Oper} {ρ : Operand → Value} {w' : World} (t : TypeId) (d : TypeDesc) (x : Operand) (ho : o.op = .load t x) (hu : P.underlying t = some d) (hd : d.isRow = false) (ad : Addr) (hx : ρ x = .pointer (some ad)) (v : Value) (hc : w'.cell? ad = some v) :
    (execOp ρ o).run P w' = .ok (.value v) w' := by
  have hagg : (isAgg t).run P w' = .ok false w' := by
    unfold isAgg
    rw [Sem.run_bind, run_underlying hu w']
    cases d <;> simp_all
  unfold execOp
  simp [ho, hx, Instr.loadAt, Instr.sureAddr, loadVar, Sem.run_bind, hagg, load, Sem.run, hc]
theorem cell_al {w : World} {a : Addr} {v : Value} (o : Obj) (h : w.cell? a = some v) : (w.alloc o).cell? a = some v := by
  rw [World.cell?_alloc_lt _ _ _ (World.block_lt_of_cell? w _ h)]
  exact h
theorem results_cell {fn : Func} {t : Tmp} {ty : TypeId} (h : fn.results = #[.cell t ty]) (tmps : Array Value) (w : World) (b : Nat) (cs : List Value) (d : TypeDesc) (ht : tmps.getD t undef = .pointer (some ⟨b, 0, none⟩)) (hc : w.rangeAt b 0 cs) (hu : Tryz.prog.underlying ty = some d) (hd : d.isRow = true) (hi : (Tryz.prog.info? ty).map (·.size) = some cs.length) :
    (results fn tmps).run Tryz.prog w = .ok (.agg cs.toArray) w := by
  have hl := run_loadVar_mid (P := Tryz.prog) w b 0 ty cs d hc hu hd hi
  simp only [Array.getD_eq_getD_getElem?] at ht
  simp [results, h, ht, hl, asAddr]
section keep
variable {P : Program} {md : Region.Mode} {ops : Array Oper} {Q : Exit → Act → World → Prop} {S : World → Prop}
theorem keep_step {i : Nat} {o : Oper} {K : Act → World → Prop} {a : Act} {w : World} (ho : ops[i]? = some o) (hw : Region.wanted o (yielded ops a.tmps) = true) (h : Oper.wp P o a w K Q) : wpOp P ops Q i K a w := by
  unfold wpOp
  simp only [ho, hw, if_true]
  exact .inl h
theorem one_keep {i : Nat} {fuel : Nat} {listed : Array Bool} {a : Act} {w : World} (hr : Region.ready md ops listed = [i]) (h : wpOp P ops Q i (fun a' w' => S w' ∧ wpAnyH P md ops Q S fuel (listed.setIfInBounds i true) a' w') a w) : wpAnyH P md ops Q S (fuel + 1) listed a w := by
  refine wpAnyH_all hr (by simp) (fun j hj => ?_)
  simp only [List.mem_cons, List.not_mem_nil, or_false] at hj
  subst hj
  exact h
theorem two_keep {i j : Nat} {fuel : Nat} {listed : Array Bool} {a : Act} {w : World} (hr : Region.ready md ops listed = [i, j]) (h : wpOp P ops Q i (fun a' w' => S w' ∧ wpAnyH P md ops Q S fuel (listed.setIfInBounds i true) a' w') a w)
    (h2 : wpOp P ops Q j (fun a' w' => S w' ∧ wpAnyH P md ops Q S fuel (listed.setIfInBounds j true) a' w') a w) : wpAnyH P md ops Q S (fuel + 1) listed a w := by
  refine wpAnyH_all hr (by simp) (fun k hk => ?_)
  simp only [List.mem_cons, List.not_mem_nil, or_false] at hk
  rcases hk with rfl | rfl
  · exact h
  · exact h2
theorem begin_keep {id : Nat} {a : Act} {w : World} (hm : P.follows .mixedOrders = true) (h : ∀ wd, wd = w.drew → wpAnyH P .any ops Q S ops.size (Array.replicate ops.size false) a wd) : (Code.region id ops true).wp P Q a w :=
  wp_region_held (S := S) hm (h _ rfl)
theorem wp_store_one {o : Oper} {a : Act} {w : World} {K : Act → World → Prop} (t : TypeId) (x y : Operand) (ho : o.op = .store t x y) (hi : (P.info? t).map (·.size) = some 1) (v : Value) (hv : v.cells = #[v]) (h1 : v.oneCell' = true) (hy : a.eval y = v) {D k : Nat} (hx : a.eval x = .pointer (some ⟨D, k, none⟩)) (hc : (w.cell? ⟨D, k, none⟩).isSome = true) (hf : w.frozen? ⟨D, k, none⟩ = false) (h : K (a.put o.dst undef) (w.setCell ⟨D, k, none⟩ v)) : Oper.wp P o a w K Q := by
  have hs := run_storeCells_cells (P := P) D k [v] 0 w (fun j hj => by simp only [List.length_cons, List.length_nil] at hj; rw [show j = 0 by omega]; exact hc) (fun j hj => by simp only [List.length_cons, List.length_nil] at hj; rw [show j = 0 by omega]; exact hf) (fun u hu => by simp at hu; subst hu; exact h1)
  simp only [Nat.add_zero] at hs
  cases hq : P.info? t with
  | none => simp [hq] at hi
  | some i =>
    have hsz : i.size = 1 := by simpa [hq] using hi
    have hr : (storeVar t ⟨D, k, none⟩ v).run P w = .ok () (w.setCell ⟨D, k, none⟩ v) := by
      simp [storeVar, sizeOf, typeInfo, hq, hv, hsz, hs]
      rfl
    unfold Oper.wp execOp
    simp only [ho, hx, hy, Instr.storeAt, Instr.sureAddr, Sem.run_bind, Sem.run_pure, Result.andThen_ok, hr]
    exact h
/-- What is read may be read first, if it reads the same in every world that may come. -/
theorem take_s {i : Nat} {oi : Oper} {v : Value} {fuel : Nat} {listed : Array Bool} {a : Act} {w : World} (hi : ops[i]? = some oi)
    (hs : Region.noSelect ops = true) (hf : Region.free md ops listed i = true) (hr : (Region.ready md ops listed).contains i = true)
    (hQ : ∀ c a w, Q (.panic c) (a.put oi.dst v) w → Q (.panic c) a w) (hw : Region.wanted oi (yielded ops a.tmps) = true)
    (hv : ∀ w', S w' → (execOp a.eval oi).run P w' = .ok (.value v) w') (hS : S w)
    (h : wpAnyH P md ops Q S fuel (listed.setIfInBounds i true) (a.put oi.dst v) w) : wpAnyH P md ops Q S (fuel + 1) listed a w :=
  wpAnyH_take hi hs hf hr hQ (Or.inl ⟨hw, hv⟩) hS h
end keep
end Go.Proofs.YthbbijaikcmaeaaGreatDoor.Rec
namespace Go.Proofs.YthbbijaikcmaeaaGreatDoor.Rec.Plain
set_option maxRecDepth 100000
end Go.Proofs.YthbbijaikcmaeaaGreatDoor.Rec.Plain
namespace Go.Proofs.YthbbijaikcmaeaaGreatDoor.Rec
set_option maxRecDepth 100000
set_option linter.unusedVariables false
open Go.RowKit Go.Proofs.YthbbijaikcmaeaaGreatDoor.Plain Go.Proofs.YthbbijaikcmaeaaGreatDoor.Rec.Plain
/-- An image: its number, and where its bytes lie. -/
structure Im where
  blk : Int
  ba : Option Addr
  bl : Nat
  bc : Nat
  bs : List Int
def imc (m : Im) : List Value := [.int .u64 m.blk, .slice m.ba m.bl m.bc]
/-- The reference's image, and its record. -/
def ic (x : Int × List Int) : List Value := [.int .u64 x.1, .string (strOfNums x.2)]
/-- What is told of an image, and of a record. -/
def pl (m : Im) : Int × List Int := (m.blk, m.bs)
def N64 (x : Int) : Prop := 0 ≤ x ∧ x ≤ 18446744073709551615
/-- Things in memory, one behind the other, each of sz cells. -/
def Tb {α : Type} (w : World) (a : Option Addr) (sz : Nat) (f : α → List Value) (M : List α) : Prop :=
  0 < M.length → ∃ b o, a = some ⟨b, o, none⟩ ∧ b < w.heap.size ∧ ∀ i (h : i < M.length), w.rangeAt b (o + i * sz) (f M[i])
theorem range_below {w w' : World} {b o B : Nat} {cs : List Value} (hb : Below B w w') (h : w.rangeAt b o cs) (hlt : b < B) : w'.rangeAt b o cs := fun j v hv => (hb.cell hlt).trans (h j v hv)
theorem Tb.below {α : Type} {w w' : World} {a : Option Addr} {sz : Nat} {f : α → List Value} {M : List α} (h : Tb w a sz f M) (hb : Below w.heap.size w w') : Tb w' a sz f M := fun hp => by
  obtain ⟨b, o, e, hlt, hr⟩ := h hp
  exact ⟨b, o, e, Nat.lt_of_lt_of_le hlt hb.size, fun i hi => range_below hb (hr i hi) hlt⟩
theorem flat_get {α : Type} (f : α → List Value) (sz : Nat) (hf : ∀ x, (f x).length = sz) (M : List α) (i : Nat) (hi : i < M.length) (j : Nat) (hj : j < sz) : (M.map f).flatten[i * sz + j]? = (f M[i])[j]? := by
  have := flat_at (M.map f) sz (fun x hx => by obtain ⟨y, _, rfl⟩ := List.mem_map.1 hx; exact hf y) i (by simpa using hi) j hj
  rw [Nat.mul_comm i sz, this]
  simp
theorem own_tb {α : Type} {w : World} {B n c : Nat} {e : TypeId} {sz : Nat} {a : Option Addr} {f : α → List Value} {M : List α} (hf : ∀ x, (f x).length = sz) (h : w.ownsRow B e sz (.slice a n c) n (M.map f).flatten) (hn : M.length = n) : Tb w a sz f M := fun hp => by
  have h' := h
  rcases h.2 with ⟨_, h0⟩ | ⟨g, cap, cur, h3, _, hg, _⟩
  · omega
  · simp only [Value.slice.injEq, true_and] at h3
    obtain ⟨rfl, rfl⟩ := h3
    refine ⟨g, 0, rfl, (Array.getElem?_eq_some_iff.1 hg).1, fun i hi j v hv => ?_⟩
    have hj : j < sz := by
      have := (List.getElem?_eq_some_iff.1 hv).1
      rw [hf] at this
      exact this
    have h4 := h'.cells (g := g) rfl (i * sz + j) v (by rw [flat_get f sz hf M i hi j hj]; exact hv)
    rw [Addr.add_lit] at h4
    rw [show 0 + i * sz + j = 0 + (i * sz + j) by omega]
    exact h4
theorem own_to {w w' : World} {base n : Nat} {e : TypeId} {sz : Nat} {v : Value} {xs : List Value} (h : w.ownsRow base e sz v n xs) (hb : Below w.heap.size w w') : w'.ownsRow base e sz v n xs := own_same h (fun k hk => hb.block k (h.lt k hk).2)
/-- The block of a row of one's own. -/
theorem own_blk {w : World} {base n : Nat} {e : TypeId} {sz : Nat} {v : Value} {xs : List Value} (h : w.ownsRow base e sz v n xs) : ∀ k, v.ownBlock = some k → base ≤ k ∧ ∃ cur, w.heap[k]? = some (.cells cur e (0, 0)) := by
  intro k hk
  rcases h.2 with ⟨rfl, _⟩ | ⟨g, cap, cur, rfl, hb, hg, _⟩
  · cases hk
  · cases hk
    exact ⟨hb, cur, hg⟩
/-- Rows of other types lie in other blocks. -/
theorem own_ne {w : World} {base n base' n' : Nat} {e e' : TypeId} {sz sz' : Nat} {v v' : Value} {xs xs' : List Value} (h : w.ownsRow base e sz v n xs) (h' : w.ownsRow base' e' sz' v' n' xs') (hne : e ≠ e') : ∀ k, v.ownBlock = some k → v'.ownBlock ≠ some k := fun k hk hk' => by
  obtain ⟨_, c1, h1⟩ := own_blk h k hk
  obtain ⟨_, c2, h2⟩ := own_blk h' k hk'
  rw [h1] at h2
  simp only [Option.some.injEq, Obj.cells.injEq] at h2
  exact hne h2.2.1
/-- Images in memory, to be read. -/
structure Imgs (w : World) (a : Option Addr) (M : List Im) : Prop where
  tb : Tb w a 2 imc M
  byt : ∀ m ∈ M, Bytes w m.ba m.bl m.bs ∧ N64 m.blk ∧ m.bl ≤ m.bc ∧ m.bc ≤ maxLen
theorem Imgs.below {w w' : World} {a : Option Addr} {M : List Im} (h : Imgs w a M) (hb : Below w.heap.size w w') : Imgs w' a M :=
  ⟨h.tb.below hb, fun m hm => ⟨(h.byt m hm).1.below hb, (h.byt m hm).2⟩⟩
/-- An image whose bytes are in new memory. -/
structure OIm (w : World) (B : Nat) (m : Im) : Prop where
  own : w.ownsRow B 5 1 (.slice m.ba m.bl m.bc) m.bl (m.bs.map (Value.int .u8))
  byt : Byt m.bs
  num : N64 m.blk
theorem OIm.to {w w' : World} {B : Nat} {m : Im} (h : OIm w B m) (hb : Below w.heap.size w w') : OIm w' B m := ⟨own_to h.own hb, h.byt, h.num⟩
theorem OIm.byi {w : World} {B : Nat} {m : Im} (h : OIm w B m) : Bytes w m.ba m.bl m.bs ∧ N64 m.blk ∧ m.bl ≤ m.bc ∧ m.bc ≤ maxLen :=
  ⟨own_bytes h.own h.byt, h.num, own_cap h.own⟩
/-- It stays where a row of another type turns. -/
theorem OIm.grown {w w' : World} {B B' n : Nat} {e : TypeId} {sz : Nat} {v : Value} {xs : List Value} {m : Im} (h : OIm w B m) (hv : w.ownsRow B' e sz v n xs) (he : e ≠ 5) (hg : w.grownBy w' v.ownBlock) : OIm w' B m :=
  ⟨own_same h.own (fun k hk => hg.block k (h.own.lt k hk).2 (fun e' => own_ne hv h.own he k e'.symm hk)), h.byt, h.num⟩
/-- Images in a row of one's own, their bytes too. -/
structure OImgs (w : World) (B : Nat) (v : Value) (M : List Im) : Prop where
  row : w.ownsRow B 41 2 v M.length (M.map imc).flatten
  byt : ∀ m ∈ M, OIm w B m
theorem OImgs.to {w w' : World} {B : Nat} {v : Value} {M : List Im} (h : OImgs w B v M) (hb : Below w.heap.size w w') : OImgs w' B v M := ⟨own_to h.row hb, fun m hm => (h.byt m hm).to hb⟩
theorem OImgs.imgs {w : World} {B c : Nat} {a : Option Addr} {M : List Im} (h : OImgs w B (.slice a M.length c) M) : Imgs w a M := ⟨own_tb (fun _ => rfl) h.row rfl, fun m hm => (h.byt m hm).byi⟩
theorem zeroIm : (Tryz.prog.info? 41).map (·.zero) = some (some (.agg #[.int .u64 0, .slice none 0 0])) := by kernel_rfl
theorem infoIm : (Tryz.prog.info? 41).map (·.size) = some 2 := by kernel_rfl
theorem infIm : (Tryz.prog.info? 41).map (fun i => (i.zero, i.size, i.bytes)) = some (some (.agg #[.int .u64 0, .slice none 0 0]), 2, 32) := by kernel_rfl
theorem exec_idxT {op : Oper} {ρ : Operand → Value} {w' : World} (t e : TypeId) (hu : Tryz.prog.underlying t = some (.slice e)) (sz : Nat) (hi : (Tryz.prog.info? e).map (·.size) = some sz) (x y : Operand) (ho : op.op = .indexAddr t x y) (b o len cap j : Nat) (hx : ρ x = .slice (some ⟨b, o, none⟩) len cap) (hy : ρ y = .int .i64 (j : Int)) (hj : j < len) :
    (execOp ρ op).run Tryz.prog w' = .ok (.value (.pointer (some ⟨b, o + j * sz, none⟩))) w' := by
  have hc : (0 : Int) ≤ (j : Int) ∧ (j : Int) < (len : Int) := by omega
  have hs : (sizeOf e).run Tryz.prog w' = .ok sz w' := by
    cases hq : Tryz.prog.info? e with
    | none => simp [hq] at hi
    | some i =>
      have h1 : i.size = sz := by simpa [hq] using hi
      simp [sizeOf, typeInfo, hq, h1]
  unfold execOp
  simp [ho, hx, hy, Instr.indexAt, asIntOf, Sem.run_bind, run_underlying hu, hc, Addr.add_mid, hs]
  intro hh; omega
end Go.Proofs.YthbbijaikcmaeaaGreatDoor.Rec
