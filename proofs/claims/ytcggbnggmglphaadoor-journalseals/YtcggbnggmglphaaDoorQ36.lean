/-
  Two states, or two digests, are held against each other: what Go's == says of them. And what follows it.
-/
import Derived.Laws.StructEq
import Derived.ChangeKeysEq
import Derived.Test.YtcggbnggmglphaaDoorQ35
import Derived.Test.YtcggbnggmglphaaDoorQ31
namespace Go.Proofs.YtcggbnggmglphaaDoor
set_option maxRecDepth 100000
set_option linter.unusedVariables false
open Go.RowKit Plain
theorem part5 (X : List Int) (i : Nat) (h : i < X.length) (w : World) : (part 5 (u8s X) (i * Tryd.prog.cellsOf 5)).run Tryd.prog w = .ok (.int .u8 (X.getD i 0)) w := by
  have hc : Tryd.prog.cellsOf 5 = 1 := by kernel_rfl
  have hagg : (isAgg 5).run Tryd.prog w = .ok false w := by kernel_rfl
  have hv : (u8s X)[i]? = some (.int .u8 (X.getD i 0)) := by simp [u8s, h]
  rw [hc, Nat.mul_one]
  simp [part, Sem.run_bind, hagg, hv]
theorem eq_items (d n : Nat) (X Y : List Int) (w : World) (hX : X.length = n) (hY : Y.length = n) : ∀ is : List Nat, (∀ i ∈ is, i < n) → (Op.eqItems (d + 1) 5 (Tryd.prog.cellsOf 5) (u8s X) (u8s Y) is).run Tryd.prog w = .ok (is.all fun i => X.getD i 0 == Y.getD i 0) w
  | [], _ => by simp [Op.eqItems]
  | i :: is, h => by
    have ih := eq_items d n X Y w hX hY is (fun j hj => h j (List.mem_cons_of_mem _ hj))
    have hi := h i List.mem_cons_self
    have e := run_equalIn_int (P := Tryd.prog) w d 5 .u8 .u8 (X.getD i 0) (Y.getD i 0) Tryd.underlying5
    simp only [Op.eqItems, Sem.run_bind, part5 X i (by omega), part5 Y i (by omega), Result.andThen_ok, e, List.all_cons]
    cases hq : (X.getD i 0 == Y.getD i 0)
    · simp
    · simpa using ih
theorem all_eq (n : Nat) (X Y : List Int) (hX : X.length = n) (hY : Y.length = n) : ((List.range n).all fun i => X.getD i 0 == Y.getD i 0) = decide (X = Y) := by
  rw [Bool.eq_iff_iff, List.all_eq_true, decide_eq_true_iff]
  constructor
  · intro h
    apply List.ext_getElem (by omega)
    intro i h1 h2
    have := h i (by simp; omega)
    simpa [List.getD, h1, h2] using this
  · rintro rfl i _
    simp
theorem eq_sumIn (d : Nat) (X Y : List Int) (hX : X.length = 32) (hY : Y.length = 32) (w : World) : (Op.equalIn (d + 1 + 1) 23 (.agg (u8s X)) (.agg (u8s Y))).run Tryd.prog w = .ok (decide (X = Y)) w := by
  obtain ⟨i0, hi, _⟩ := info_parts info5
  rw [run_equalIn_array w (d + 1) (u8s X) (u8s Y) Tryd.underlying23 hi, eq_items d 32 X Y w hX hY _ (by simp), all_eq 32 X Y hX hY]
theorem guardSum : Tryd.prog.eqGuardType Tryd.prog.depth 23 = false := by kernel_rfl
theorem exec_neSum {o : Oper} {ρ : Operand → Value} {w' : World} (x y : Operand) (ty : TypeId) (ho : o.op = .binOp .neq 23 x y ty) (X Y : List Int) (hX : X.length = 32) (hY : Y.length = 32) (b : Bool) (hb : (!decide (X = Y)) = b) (hx : ρ x = .agg (u8s X)) (hy : ρ y = .agg (u8s Y)) :
    (execOp ρ o).run Tryd.prog w' = .ok (.value (.bool b)) w' := by
  have e : (binOp .neq 23 (.agg (u8s X)) (.agg (u8s Y))).run Tryd.prog w' = .ok (.bool (!decide (X = Y))) w' := by
    rw [run_neq_struct, eq_sumIn 9998 X Y hX hY]; rfl
  unfold execOp
  simp only [ho, hx, hy, Sem.run_bind, run_eqGuard_agg w' .neq 23 x y _ _ guardSum, e, Result.andThen_ok, hb]
  rfl
/-- Go's == on states. -/
def eqS (s t : Jst) : Bool := ((s.start : Int) == (t.start : Int)) && (((s.count : Int) == (t.count : Int)) && (decide (s.tag = t.tag) && true))
theorem eqS_iff (s t : Jst) : eqS s t = true ↔ s = t := by
  obtain ⟨a, b, c⟩ := s
  obtain ⟨a', b', c'⟩ := t
  simp only [eqS, Bool.and_true, Bool.and_eq_true, beq_iff_eq, decide_eq_true_eq, Jst.mk.injEq]
  constructor
  · rintro ⟨h1, h2, h3⟩
    exact ⟨by omega, by omega, h3⟩
  · rintro ⟨rfl, rfl, rfl⟩
    exact ⟨rfl, rfl, rfl⟩
theorem eqS_self (s : Jst) : eqS s s = true := (eqS_iff s s).2 rfl
theorem part_S0 (s : Jst) (w : World) : (part 37 (sa s) 0).run Tryd.prog w = .ok (.int .u64 (s.start : Int)) w := by
  have hagg : (isAgg 37).run Tryd.prog w = .ok false w := by kernel_rfl
  simp only [part, Sem.run_bind, hagg, Result.andThen_ok, Bool.false_eq_true, if_false]
  rfl
theorem part_S1 (s : Jst) (w : World) : (part 37 (sa s) 1).run Tryd.prog w = .ok (.int .u64 (s.count : Int)) w := by
  have hagg : (isAgg 37).run Tryd.prog w = .ok false w := by kernel_rfl
  simp only [part, Sem.run_bind, hagg, Result.andThen_ok, Bool.false_eq_true, if_false]
  rfl
theorem part_S2 {s : Jst} (h : OkS s) (w : World) : (part 23 (sa s) 2).run Tryd.prog w = .ok (.agg (u8s s.tag)) w := by
  have hagg : (isAgg 23).run Tryd.prog w = .ok true w := by kernel_rfl
  have hsz : (sizeOf 23).run Tryd.prog w = .ok 32 w := by kernel_rfl
  have hl := h.lt
  have e : (sa s).extract 2 34 = u8s s.tag := by
    apply Array.toList_inj.1
    simp [sa, scs, u8s, hl, List.take_of_length_le]
  simp [part, Sem.run_bind, hagg, e]
theorem eqS_fields (d : Nat) (s t : Jst) (hs : OkS s) (ht : OkS t) (w : World) (fs : List Field) (hF : fs.map (fun f => (f.name != "_", f.type, f.offset)) = [(true, 37, 0), (true, 37, 1), (true, 23, 2)]) : (Op.eqFields (d + 1 + 1) (sa s) (sa t) fs).run Tryd.prog w = .ok (eqS s t) w := by
  have hl : fs.length = 3 := by simpa using congrArg List.length hF
  match fs, hl, hF with
  | [f0, f1, f2], _, hF =>
    simp only [List.map_cons, List.map_nil, List.cons.injEq, Prod.mk.injEq, and_true] at hF
    obtain ⟨⟨a0, b0, c0⟩, ⟨a1, b1, c1⟩, ⟨a2, b2, c2⟩⟩ := hF
    have i0 := run_equalIn_int (P := Tryd.prog) w (d + 1) 37 .u64 .u64 (s.start : Int) (t.start : Int) Tryd.underlying37
    have i1 := run_equalIn_int (P := Tryd.prog) w (d + 1) 37 .u64 .u64 (s.count : Int) (t.count : Int) Tryd.underlying37
    refine eqF_step (d + 1 + 1) _ _ f0 _ _ _ a0 b0 c0 _ _ w (part_S0 s w) (part_S0 t w) _ _ (by simpa using i0)
      (eqF_step (d + 1 + 1) _ _ f1 _ _ _ a1 b1 c1 _ _ w (part_S1 s w) (part_S1 t w) _ _ (by simpa using i1)
        (eqF_step (d + 1 + 1) _ _ f2 _ _ _ a2 b2 c2 _ _ w (part_S2 hs w) (part_S2 ht w) _ true (eq_sumIn d _ _ hs.lt ht.lt w) (by simp [Op.eqFields])))
theorem fieldsSt : (Tryd.prog.fieldsOf 42).toList.map (fun f => (f.name != "_", f.type, f.offset)) = [(true, 37, 0), (true, 37, 1), (true, 23, 2)] := by kernel_rfl
theorem fieldsS13 : (Tryd.prog.fieldsOf 43).toList.map (fun f => (f.name != "_", f.type, f.offset)) = [(true, 37, 0), (true, 37, 1), (true, 23, 2)] := by kernel_rfl
theorem guardSt : Tryd.prog.eqGuardType Tryd.prog.depth 42 = false := by kernel_rfl
theorem guardS13 : Tryd.prog.eqGuardType Tryd.prog.depth 43 = false := by kernel_rfl
theorem equalIn_St (d : Nat) (s t : Jst) (hs : OkS s) (ht : OkS t) (w : World) : (Op.equalIn (d + 1 + 1 + 1) 42 (.agg (sa s)) (.agg (sa t))).run Tryd.prog w = .ok (eqS s t) w := by
  rw [run_equalIn_struct w (d + 1 + 1) 42 _ _ (by kernel_rfl) (by kernel_rfl)]
  exact eqS_fields d s t hs ht w _ fieldsSt
theorem equalIn_S13 (d : Nat) (s t : Jst) (hs : OkS s) (ht : OkS t) (w : World) : (Op.equalIn (d + 1 + 1 + 1) 43 (.agg (sa s)) (.agg (sa t))).run Tryd.prog w = .ok (eqS s t) w := by
  rw [run_equalIn_struct w (d + 1 + 1) 43 _ _ (by kernel_rfl) (by kernel_rfl)]
  exact eqS_fields d s t hs ht w _ fieldsS13
theorem exec_eqSt {o : Oper} {ρ : Operand → Value} {w' : World} (x y : Operand) (ty : TypeId) (ho : o.op = .binOp .eql 42 x y ty) (s t : Jst) (hs : OkS s) (ht : OkS t) (b : Bool) (hb : eqS s t = b) (hx : ρ x = .agg (sa s)) (hy : ρ y = .agg (sa t)) :
    (execOp ρ o).run Tryd.prog w' = .ok (.value (.bool b)) w' := by
  have e : (binOp .eql 42 (.agg (sa s)) (.agg (sa t))).run Tryd.prog w' = .ok (.bool b) w' := by
    rw [run_eql_struct, equalIn_St 9997 s t hs ht, hb]; rfl
  unfold execOp
  simp only [ho, hx, hy, Sem.run_bind, run_eqGuard_agg w' .eql 42 x y _ _ guardSt, e, Result.andThen_ok]
  rfl
theorem exec_eqS13 {o : Oper} {ρ : Operand → Value} {w' : World} (x y : Operand) (ty : TypeId) (ho : o.op = .binOp .eql 43 x y ty) (s t : Jst) (hs : OkS s) (ht : OkS t) (b : Bool) (hb : eqS s t = b) (hx : ρ x = .agg (sa s)) (hy : ρ y = .agg (sa t)) :
    (execOp ρ o).run Tryd.prog w' = .ok (.value (.bool b)) w' := by
  have e : (binOp .eql 43 (.agg (sa s)) (.agg (sa t))).run Tryd.prog w' = .ok (.bool b) w' := by
    rw [run_eql_struct, equalIn_S13 9997 s t hs ht, hb]; rfl
  unfold execOp
  simp only [ho, hx, hy, Sem.run_bind, run_eqGuard_agg w' .eql 43 x y _ _ guardS13, e, Result.andThen_ok]
  rfl
/-- A field of a state by value. -/
theorem exec_fieldS0 {o : Oper} {ρ : Operand → Value} {w : World} (x : Operand) (ho : o.op = .field 42 x 0) (s : Jst) (hx : ρ x = .agg (sa s)) : (execOp ρ o).run Tryd.prog w = .ok (.value (.int .u64 (s.start : Int))) w := by
  have h : (Instr.field 42 (.agg (sa s)) 0).run Tryd.prog w = .ok (.int .u64 (s.start : Int)) w := by
    unfold Instr.field
    simp only [Sem.run_bind, run_underlying Tryd.underlying42, Result.andThen_ok]
    exact part_S0 s w
  unfold execOp
  simp only [ho, hx, Sem.run_bind, h]
  rfl
theorem atField {P : Program} {ops : Array Oper} {Q : Exit → Act → World → Prop} {rest : List Oper} {a : Act} {w : World} (t : TypeId) {x : Operand} {k : Nat} {d : Option Tmp} {ty : TypeId} {p : String} {af : Array Edge} {g : Option (Nat × Bool)} (h : wpList P ops Q ({ dst := d, op := .field t x k, type := ty, pos := p, after := af, guard := g } :: rest) a w) : wpList P ops Q ({ dst := d, op := .field t x k, type := ty, pos := p, after := af, guard := g } :: rest) a w := h
theorem link_zero : lnk z32 0 [] ≠ z32 := by decide +kernel
end Go.Proofs.YtcggbnggmglphaaDoor
namespace Go.Proofs.YtcggbnggmglphaaDoor
set_option maxRecDepth 100000
set_option linter.unusedVariables false
open Go.RowKit Plain
attribute [local go_sem] Oper.semAt_some
def k1 : List Int := 1 :: List.replicate 31 0
theorem len_k1 : k1.length = 32 := by simp [k1]
theorem byt_k1 : Byt k1 := fun i => by
  cases i with
  | zero => decide
  | succ i => simpa [k1] using byt_zeros 31 i
theorem built_K : Tryd.prog.built 23 [(0, .int .u8 1)] = some (u8s k1) := by kernel_rfl
theorem built_Z : Tryd.prog.built 23 [] = some (u8s z32) := by kernel_rfl
theorem exec_make160 {o : Oper} {ρ : Operand → Value} {w : World} (l c : Operand) (ho : o.op = .makeSlice 58 l c) (hl : ρ l = .int .i64 160) (hc : ρ c = .int .i64 160) :
    (execOp ρ o).run Tryd.prog w = .ok (.value (.slice (some ⟨w.heap.size, 0, none⟩) 160 160)) (w.alloc (.cells (u8s z160) 5)) := by
  have := Disk.exec_make (P := Tryd.prog) (o := o) (ρ := ρ) (w := w) 58 5 l c ho (.int .u8 0) 1 1 Tryd.underlying58 info5 160 hl hc (by decide) (by decide)
  have e : madeCells (Value.int .u8 0).cells (160 * 1) = u8s z160 := Disk.made_bytes 160
  rw [e] at this
  exact this
/-- Images laid down in a block. -/
theorem imgs_of_row {w : World} {g : Nat} {M : List Im} {t : TypeId} {fr : Nat × Nat} (h : w.heap[g]? = some (.cells ((M.map imc).flatten).toArray t fr)) (hb : ∀ m ∈ M, Bytes w m.ba m.bl m.bs ∧ N64 m.blk ∧ m.bl ≤ m.bc ∧ m.bc ≤ maxLen) : Imgs w (some ⟨g, 0, none⟩) M := by
  refine ⟨fun _ => ⟨g, 0, rfl, (Array.getElem?_eq_some_iff.1 h).1, fun i hi j v hv => ?_⟩, hb⟩
  have hj : j < 2 := by have := (List.getElem?_eq_some_iff.1 hv).1; simpa [imc] using this
  rw [cell_of_row _ _ _ _ _ _ h, Nat.zero_add, List.getElem?_toArray, flat_get imc 2 (fun _ => rfl) M i hi j hj]
  exact hv
theorem ap_one (j : Jt) (d : Disk.Dk) (x : Int × List Int) (hx : x.2.length = 160) (h1 : j.st.count + 1 ≤ j.size) (h2 : j.nx + 1 ≤ j.lim) (hd : d.down = false) (hs : d.st = false) :
    appM j d [x] = (Disk.wrOk d (plc j (j.st.start + j.st.count)) (slt j.key (plc j (j.st.start + j.st.count) : Int) j.nx (x, true)), j.nx + 1, 0, nxS j j.st (plc j (j.st.start + j.st.count)) (slt j.key (plc j (j.st.start + j.st.count) : Int) j.nx (x, true))) := by
  have hb : bad [x] = false := by simp [bad, hx]
  have ht : tke j [x].length = 0 := by
    unfold tke
    rw [if_neg (by simp; omega), if_neg (by simp; omega)]
  have ho : ofP [x] = [(x, true)] := by simp [ofP]
  have hw : ∀ p S, dwr d p S = (Disk.wrOk d p S, 0) := fun p S => by simp [dwr, hd, hs]
  have ha : apL j (d, j.nx, 0, j.st) [(x, true)] = (Disk.wrOk d (plc j (j.st.start + j.st.count)) (slt j.key (plc j (j.st.start + j.st.count) : Int) j.nx (x, true)), j.nx + 1, 0, nxS j j.st (plc j (j.st.start + j.st.count)) (slt j.key (plc j (j.st.start + j.st.count) : Int) j.nx (x, true))) := by
    show apS j (d, j.nx, 0, j.st) (x, true) = _
    unfold apS apT apP
    simp [hw]
  unfold appM
  rw [if_neg (by rw [hb]; simp), if_neg (fun h => h ht), ho, ha]
  simp
def j1 : Jt := ⟨k1, 1, 2, zs, 1, 100⟩
def x3 : Int × List Int := (3, z160)
theorem aw_three (d : Disk.Dk) : appM j1 d [x3, x3, x3] = (d, 1, 17, zs) := by
  have hb : bad [x3, x3, x3] = false := by simp [bad, x3, len_z160]
  have ht : tke j1 [x3, x3, x3].length = 17 := by decide
  unfold appM
  rw [if_neg (by rw [hb]; simp), if_pos (by rw [ht]; decide), ht]
  rfl
end Go.Proofs.YtcggbnggmglphaaDoor
