/-
  Pieces for Get of package cell: arrays out of slices, a cell built out of two arrays, a number laid into a cell.
-/
import Derived.Test.YtejpbbgnammgkaaX5
import Derived.Test.YtejpbbgnammgkaaSeq
namespace Go.Proofs.Ytejpbbgnammgkaa
set_option linter.unusedVariables false
open Go.RowKit Plain

theorem range_bytes {w : World} {b o len : Nat} {L : List Int} (h : Bytes w (some ⟨b, o, none⟩) len L) : w.rangeAt b o (L.map (Value.int .u8)) := fun j v hv => by
  have := h.news j v hv
  rwa [Addr.add_lit] at this
theorem exec_arr {o : Oper} {ρ : Operand → Value} {w' : World} (x : Operand) (ho : o.op = .sliceToArrayPointer 23 x) (a : Option Addr) (cap : Nat) (hx : ρ x = .slice a 32 cap) :
    (execOp ρ o).run Try.prog w' = .ok (.value (.pointer a)) w' := by
  unfold execOp
  simp [ho, hx, Instr.arrayAt, run_underlying Try.underlying23]
theorem infoS : (Try.prog.info? 23).map (·.size) = some 32 := by kernel_rfl
theorem exec_load_mid {P : Program} {o : Oper} {ρ : Operand → Value} {w' : World} (t : TypeId) (d : TypeDesc) (x : Operand) (ho : o.op = .load t x) (hu : P.underlying t = some d) (hd : d.isRow = true) (b off : Nat) (hx : ρ x = .pointer (some ⟨b, off, none⟩)) (cs : List Value) (hi : (P.info? t).map (·.size) = some cs.length) (hc : w'.rangeAt b off cs) :
    (execOp ρ o).run P w' = .ok (.value (.agg cs.toArray)) w' := by
  unfold execOp
  simp only [ho, hx, Instr.loadAt, Instr.sureAddr, Sem.run_bind, Sem.run_pure, Result.andThen_ok, run_loadVar_mid w' b off t cs d hc hu hd hi]
/-- A digest's bytes are read. -/
theorem exec_sum {o : Oper} {ρ : Operand → Value} {w' : World} (x : Operand) (ho : o.op = .load 23 x) (b off : Nat) (hx : ρ x = .pointer (some ⟨b, off, none⟩)) (L : List Int) (h : Bytes w' (some ⟨b, off, none⟩) 32 L) :
    (execOp ρ o).run Try.prog w' = .ok (.value (.agg (u8s L))) w' :=
  exec_load_mid 23 _ x ho Try.underlying23 rfl b off hx (L.map (Value.int .u8)) (by rw [List.length_map, h.1]; exact infoS) (range_bytes h)
/-- A whole cell is read. -/
theorem exec_cell {o : Oper} {ρ : Operand → Value} {w' : World} (x : Operand) (ho : o.op = .load 26 x) (g : Nat) (hx : ρ x = .pointer (some ⟨g, 0, none⟩)) (C : Cl) (hC : Ok C) (h : Lies w' g C) :
    (execOp ρ o).run Try.prog w' = .ok (.value (.agg (av C))) w' :=
  exec_load_mid 26 _ x ho Try.underlying26 rfl g 0 hx (vs C) (by rw [len_vs hC]; exact infoC) (range_vs h)
theorem splice_set (cs : List Value) (o : Nat) (v : Value) (r : List Value) (h : o + (r.length + 1) ≤ cs.length) : splice (cs.set o v) (o + 1) r = splice cs o (v :: r) := by
  simp only [splice, List.length_cons] at *
  have ho : o < cs.length := by omega
  have hm : min o cs.length = o := by omega
  rw [List.take_set, List.drop_set_of_lt (by omega), List.take_add_one, List.set_append]
  simp [ho, hm, Nat.add_assoc, Nat.add_comm 1]
theorem fold_splice : ∀ (l : List Value) (k off : Nat) (cs : Array Value), off + k + l.length ≤ cs.size → (l.zipIdx k).foldl (fun cs x => cs.setIfInBounds (off + x.2) x.1) cs = (splice cs.toList (off + k) l).toArray
  | [], k, off, cs, h => by simp [splice]
  | v :: r, k, off, cs, h => by
    simp only [List.length_cons] at h
    rw [List.zipIdx_cons, List.foldl_cons]
    have ih := fold_splice r (k + 1) off (cs.setIfInBounds (off + k) v) (by simp; omega)
    simp only at ih ⊢
    rw [ih]
    congr 1
    have e : (cs.setIfInBounds (off + k) v).toList = cs.toList.set (off + k) v := by simp
    rw [e, show off + (k + 1) = off + k + 1 by omega]
    exact splice_set _ _ _ _ (by simp; omega)
theorem fill_step (place : Nat → Option (Nat × Nat)) (cells : Array Value) (i off size : Nat) (A : Array Value) (rest : List (Nat × Value)) (hp : place i = some (off, size)) (hA : A.size = size) (hf : off + size ≤ cells.size) :
    Instr.fill place cells ((i, .agg A) :: rest) = Instr.fill place (splice cells.toList off A.toList).toArray rest := by
  have hc : (Value.agg A).cells = A := rfl
  have h1 : ¬ (A.size ≠ size || off + A.size > cells.size) = true := by simp; omega
  rw [Instr.fill, hp]
  simp only [hc]
  rw [if_neg h1]
  congr 1
  rw [← Array.foldl_toList, Array.toList_zipIdx]
  have := fold_splice A.toList 0 off cells (by simp; omega)
  rw [Nat.add_zero] at this
  rw [← this]
theorem builtC (parts : List (Nat × Value)) : Try.prog.built 26 parts = Instr.fill (fun i => #[(0, 32), (32, 1), (33, 1), (34, 1), (35, 1), (36, 32)][i]?) (av zc) parts := by kernel_rfl
theorem built_rt (R T : List Int) (hR : R.length = 32) (hT : T.length = 32) : Try.prog.built 26 [(0, .agg (u8s R)), (5, .agg (u8s T))] = some (av ⟨R, 0, 0, 0, 0, T⟩) := by
  have hz := size_av ok_zc
  rw [builtC, fill_step _ _ 0 0 32 _ _ rfl (by rw [size_u8s, hR]) (by omega), fill_step _ _ 5 36 32 _ _ rfl (by rw [size_u8s, hT]) (by simp [splice, size_u8s, hR, hz]), Instr.fill]
  simp only [av, vs, zc, splice, u8s, List.length_map, hR, hT]
  simp [hR, List.take_append, List.drop_append]
  rw [List.take_of_length_le (by simp [hR]), List.drop_of_length_le (by simp [hR]), List.append_nil]
/-- A cell with another number at place k. -/
def setN (C : Cl) (k : Nat) (x : Int) : Cl :=
  match k with
  | 0 => { C with v := x }
  | 1 => { C with c := x }
  | 2 => { C with s := x }
  | _ => { C with n := x }
theorem av_setN {C : Cl} (h : Ok C) (k : Nat) (hk : k < 4) (x : Int) : (av C).setIfInBounds (32 + k) (.int .u64 x) = av (setN C k x) := by
  have hr := h.lr
  have key : (vs C).set (32 + k) (.int .u64 x) = vs (setN C k x) := by
    have hrr : (setN C k x).r = C.r ∧ (setN C k x).t = C.t := by
      unfold setN; split <;> exact ⟨rfl, rfl⟩
    unfold vs
    rw [List.set_append_right _ _ (by simp [hr]), List.length_map, hr, Nat.add_sub_cancel_left, List.set_append_left _ _ (by simpa using hk), hrr.1, hrr.2]
    congr 2
    match k, hk with
    | 0, _ => rfl
    | 1, _ => rfl
    | 2, _ => rfl
    | 3, _ => rfl
  simp [av, key]
theorem Lies.set {w : World} {g : Nat} {C : Cl} (h : Lies w g C) (hC : Ok C) (k : Nat) (hk : k < 4) (x : Int) : Lies (w.setCell ⟨g, 32 + k, none⟩ (.int .u64 x)) g (setN C k x) := by
  unfold Lies
  rw [heap_setCell_same w g (32 + k) _ _ _ h, av_setN hC k hk x]
theorem ok_setN {C : Cl} (h : Ok C) (k : Nat) (x : Int) (hx : U64 x) : Ok (setN C k x) := by
  unfold setN
  split
  · exact ⟨h.lr, h.br, hx, h.hc, h.hs, h.hn, h.lt, h.bt⟩
  · exact ⟨h.lr, h.br, h.hv, hx, h.hs, h.hn, h.lt, h.bt⟩
  · exact ⟨h.lr, h.br, h.hv, h.hc, hx, h.hn, h.lt, h.bt⟩
  · exact ⟨h.lr, h.br, h.hv, h.hc, h.hs, hx, h.lt, h.bt⟩
/-- The cell of 96 bytes, as far as its first k numbers. -/
def upto (L : List Int) (k : Nat) : Cl := ⟨L.take 32, if 0 < k then num L 32 8 else 0, if 1 < k then num L 40 8 else 0, if 2 < k then num L 48 8 else 0, if 3 < k then num L 56 8 else 0, (L.drop 64).take 32⟩
theorem upto_zero (L : List Int) : upto L 0 = ⟨L.take 32, 0, 0, 0, 0, (L.drop 64).take 32⟩ := rfl
theorem upto_four (L : List Int) : upto L 4 = ofB L := rfl
theorem upto_succ (L : List Int) (k : Nat) (hk : k < 4) : setN (upto L k) k (num L (32 + 8 * k) 8) = upto L (k + 1) := by
  match k, hk with
  | 0, _ => rfl
  | 1, _ => rfl
  | 2, _ => rfl
  | 3, _ => rfl
theorem ok_upto (L : List Int) (hL : Byt L) (hl : L.length = 96) (k : Nat) : Ok (upto L k) := by
  have z : U64 0 := ⟨by decide, by decide⟩
  have key : ∀ (p : Prop) [Decidable p] (q : Nat), U64 (if p then num L q 8 else 0) := fun p _ q => by
    split
    · exact u64_num L hL q
    · exact z
  exact ⟨by simp [upto, hl], byt_take _ _ hL, key _ _, key _ _, key _ _, key _ _, by simp [upto, hl], byt_take _ _ (byt_drop _ _ hL)⟩
section
variable {md : Region.Mode} {ops : Array Oper} {Q : Exit → Act → World → Prop}
/-- A block is made, in a region whose reads were all taken. -/
theorem alloc_lat {w0 : World} {i : Nat} {o : Oper} {fuel : Nat} {listed : Array Bool} {a : Act} {w : World} (ho : ops[i]? = some o) (hr : Region.ready md ops listed = [i]) (hw : Region.wanted o (yielded ops a.tmps) = true) (t : TypeId) (hop : o.op = .alloc t) (Z : Array Value) (hz : (Try.prog.info? t).map (·.zero) = some (some (.agg Z))) (hb : Below w0.heap.size w0 w)
    (h : wpAnyH Try.prog md ops Q (Seq.Lat w0) fuel (listed.setIfInBounds i true) (a.put o.dst (.pointer (some ⟨w.heap.size, 0, none⟩))) (w.alloc (.cells Z t))) : wpAnyH Try.prog md ops Q (Seq.Lat w0) (fuel + 1) listed a w := by
  refine wpAnyH_all hr (by simp) (fun j hj => ?_)
  simp only [List.mem_cons, List.not_mem_nil, or_false] at hj
  subst hj
  unfold wpOp
  simp only [ho, hw, if_true]
  refine .inl ?_
  unfold Oper.wp
  rw [exec_alloc t hop Z hz]
  exact ⟨hb.alloc hb.size _, h⟩
/-- A whole row is stored at the end, into a new block. -/
theorem store_lat {w0 : World} {i : Nat} {o : Oper} {fuel : Nat} {listed : Array Bool} {a : Act} {w : World} (ho : ops[i]? = some o) (hr : Region.ready md ops listed = [i]) (hw : Region.wanted o (yielded ops a.tmps) = true) (hd : Region.ready md ops (listed.setIfInBounds i true) = [])
    (ty : TypeId) (x y : Operand) (hop : o.op = .store ty x y) (g : Nat) (cells : Array Value) (hx : a.eval x = .pointer (some ⟨g, 0, none⟩)) (hy : a.eval y = .agg cells) (t : TypeId) (old : Array Value) (hg : w.heap[g]? = some (.cells old t (0, 0))) (hi : (Try.prog.info? ty).map (·.size) = some cells.size) (hold : old.size = cells.size) (h1 : cells.all (·.oneCell') = true)
    (hb : Below w0.heap.size w0 w) (hgw : w0.heap.size ≤ g)
    (h : Q .normal (a.put o.dst undef) (w.setRow g cells)) : wpAnyH Try.prog md ops Q (Seq.Lat w0) (fuel + 1) listed a w := by
  refine wpAnyH_all hr (by simp) (fun j hj => ?_)
  simp only [List.mem_cons, List.not_mem_nil, or_false] at hj
  subst hj
  unfold wpOp
  simp only [ho, hw, if_true]
  exact .inl (wp_store_row ty x y hop g cells hx hy t old hg hi hold h1 ⟨below_setRow hb hgw _, wpAnyH_done hd h _⟩)
end
theorem get_k (a : Option Addr) (cap : Nat) (L : List Int) (p : Nat) (p' : Int) (w : World) (hb : Bytes w a 96 L) (hp : p + 8 ≤ 96) (he : p' = (p : Int)) :
    Calls Try.prog 18 #[.slice a 96 cap, .int .i64 p', .int .i64 8] w fun e w' => e = .returned (.tuple #[.int .u64 (num L p 8), .int .i64 0]) ∧ w = w' := by
  subst he
  exact get_ok a 96 cap L p 8 w hb (by decide) (by omega) (by omega) hp
theorem rget_k (a : Option Addr) (cap : Nat) (L : List Int) (p : Nat) (p' : Int) (w : World) (hb : Bytes w a 96 L) (hp : p + 8 ≤ 96) (he : p' = (p : Int)) :
    Calls Try.prog 19 #[.slice a 96 cap, .int .i64 p', .int .i64 8] w fun e w' => e = .returned (.tuple #[.int .u64 (num L p 8), .int .i64 0]) ∧ w = w' := by
  subst he
  exact rget_ok a 96 cap L p 8 w hb (by decide) (by omega) (by omega) hp
theorem results_C2 {fn : Func} {t u : Tmp} (h : fn.results = #[.cell t 26, .tmp u]) (tmps : Array Value) (w : World) (b : Nat) (C : Cl) (hC : Ok C) (ht : tmps.getD t undef = .pointer (some ⟨b, 0, none⟩)) (hg : Lies w b C) :
    (results fn tmps).run Try.prog w = .ok (.tuple #[.agg (av C), tmps.getD u undef]) w := by
  have hl := run_loadVar_row (P := Try.prog) w b _ 26 _ _ _ hg Try.underlying26 rfl (by rw [size_av hC]; exact infoC)
  rw [results_cell_tmp h, ht]
  simp [asAddr, hl]
end Go.Proofs.Ytejpbbgnammgkaa
