/-
  What node of package vault answers, of a vault in memory: a node, and what is known behind it. And what follows it.
-/
import Derived.Test.YthbbijaikcmaeaaGreatDoorX23
namespace Go.Proofs.YthbbijaikcmaeaaGreatDoor
set_option maxRecDepth 100000
set_option linter.unusedVariables false
set_option maxRecDepth 100000
open Go.RowKit Go.Shelf Plain Go.Proofs.YthbbijaikcmaeaaGreatDoor.Shap.Plain
attribute [local go_sem] Oper.semAt_some
def isDefer : Op → Bool
  | .defer _ => true
  | _ => false
theorem nodef (ops : Array Oper) (h : ops.toList.all (fun o => !isDefer o.op) = true) : ∀ o ∈ ops.toList, ∀ c, o.op ≠ .defer c := fun o ho c e => by
  have := List.all_eq_true.1 h o ho
  rw [e] at this
  cases this
theorem exec_idxN6 {op : Oper} {ρ : Operand → Value} {w' : World} (x y : Operand) (ho : op.op = .indexAddr 107 x y) (S j : Nat) (hx : ρ x = .pointer (some ⟨S, 0, none⟩)) (hy : ρ y = .int .i64 (j : Int)) (hj : j < 4) :
    (execOp ρ op).run Tryz.prog w' = .ok (.value (.pointer (some ⟨S, j * 33, none⟩))) w' := by
  have hc : (0 : Int) ≤ (j : Int) ∧ (j : Int) < 4 := by omega
  have hs : (sizeOf 36).run Tryz.prog w' = .ok 33 w' := by kernel_rfl
  unfold execOp
  simp [ho, hx, hy, Instr.indexAt, asIntOf, Sem.run_bind, run_underlying Tryz.underlying107, hc, Addr.add_mid, Instr.sureAddr]
  intro hh; omega
def NodeV (w0 w : World) (V D : Nat) (fp : Nat → Prop) (v : Vt) (sa : Option Addr) (sc : Nat) (kb : Nat) (f : Int → Option Value) (l i : Nat) (q : Disk.Dk × Int × List Int) (e : Ending) (w' : World) : Prop :=
  ∃ fp', VC w0 w' V D fp' v q.1 sa sc ∧ Fw (fun k => k = kb) w w' fp fp' ∧
    ((q.2.1 ≠ 0 ∧ e = .returned (.tuple #[.agg (na zn), .int .i64 q.2.1]) ∧ Mp w' kb f) ∨
     (q.2.1 = 0 ∧ e = .returned (.tuple #[.agg (na (ofN q.2.2 4)), .int .i64 0]) ∧ Mp w' kb (fputs v.n l i (ofN q.2.2 4) f (fr (chn v.n l i))) ∧ OkN (ofN q.2.2 4)))
theorem atAlloc {P : Program} {ops : Array Oper} {Q : Exit → Act → World → Prop} {rest : List Oper} {a : Act} {w : World} (t : TypeId) {d : Option Tmp} {ty : TypeId} {p : String} {af : Array Edge} {g : Option (Nat × Bool)} (h : wpList P ops Q ({ dst := d, op := .alloc t, type := ty, pos := p, after := af, guard := g } :: rest) a w) : wpList P ops Q ({ dst := d, op := .alloc t, type := ty, pos := p, after := af, guard := g } :: rest) a w := h
theorem atLook {P : Program} {ops : Array Oper} {Q : Exit → Act → World → Prop} {rest : List Oper} {a : Act} {w : World} (t : TypeId) {x y : Operand} {c : Bool} {d : Option Tmp} {ty : TypeId} {p : String} {af : Array Edge} {g : Option (Nat × Bool)} (h : wpList P ops Q ({ dst := d, op := .lookup t x y c, type := ty, pos := p, after := af, guard := g } :: rest) a w) : wpList P ops Q ({ dst := d, op := .lookup t x y c, type := ty, pos := p, after := af, guard := g } :: rest) a w := h
theorem exec_look1 {P : Program} {t k e : TypeId} {o : Oper} {ρ : Operand → Value} {w : World} (m x : Operand) (ho : o.op = .lookup t m x false) (ht : P.underlying t = some (.map k e)) (hk : P.underlying k = some (.int .i64)) (z : Value) (hz : ∀ w : World, (zeroValue e).run P w = .ok z w) (b : Nat) (f : Int → Option Value) (hm : ρ m = .map (some b)) (hM : Mp w b f) (i : Nat) (hx : ρ x = .int .i64 (i : Int)) (u : Value) (hu : (f (i : Int)).getD z = u) :
    (execOp ρ o).run P w = .ok (.value u) w := by
  rw [exec_look m x ho ht hk z hz b f hm hM i hx, hu]
theorem ret_none {n : Nat} {fn : Func} {R : Ending → World → Prop} {a : Act} {w : World} (hd : a.defers = []) (v : Value) (hr : (results fn a.tmps).run Tryz.prog w = .ok v w) (h : R (.returned v) w) : bodyPostM Fence.wide n Tryz.prog fn R .ret a w := by
  show LeavesInM Fence.wide n Tryz.prog fn a.tmps R a.defers .returning w
  rw [hd]
  exact ⟨v, hr, h⟩
theorem ret_mark {n : Nat} {fn : Func} {R : Ending → World → Prop} {a : Act} {w : World} (Dd : Nat) (hd : a.defers = [{ target := .collected Dd, args := #[] }]) (hK : w.heap[Dd]? = some (.deferred (some []))) (v : Value) (hr : (results fn a.tmps).run Tryz.prog (w.putObj Dd (.deferred none)) = .ok v (w.putObj Dd (.deferred none))) (h : R (.returned v) (w.putObj Dd (.deferred none))) : bodyPostM Fence.wide n Tryz.prog fn R .ret a w := by
  show LeavesInM Fence.wide n Tryz.prog fn a.tmps R a.defers .returning w
  rw [hd]
  exact ⟨by simp, .inl ⟨_, _, rfl, run_takeDeferred hK, ⟨v, hr, h⟩⟩⟩
theorem but_setRow (w : World) (g : Nat) (cs : Array Value) : But g w (w.setRow g cs) := ⟨rfl, rfl, rfl, by simp [World.setRow], fun k _ hn => setRow_other w g k cs hn⟩
theorem Fw.but {S : Nat → Prop} {w x y : World} {fp fp' : Nat → Prop} {G : Nat} (h : Fw S w x fp fp') (hb : But G x y) (hG : w.heap.size ≤ G) : Fw S w y fp fp' :=
  ⟨⟨hb.os.trans h.t.os, hb.tape.trans h.t.tape, hb.output.trans h.t.output, Nat.le_trans h.t.size hb.size, fun i hi hn => (hb.block i (Nat.lt_of_lt_of_le hi h.t.size) (by omega)).trans (h.t.block i hi hn)⟩, h.k⟩
theorem but_putObj (w : World) (g : Nat) (o : Obj) : But g w (w.putObj g o) := ⟨rfl, rfl, rfl, by simp, fun k _ hn => World.putObj_heap_other hn⟩
theorem shp_nb {w0 w : World} {V D : Nat} {fp : Nat → Prop} {v : Vt} {d : Disk.Dk} {sa : Option Addr} {sc : Nat} (C : VC w0 w V D fp v d sa sc) : ∀ ad, sa = some ad → ad.block < w.heap.size := ints_lt C.ints (wid_pos _)
theorem VC.nomap {w0 w : World} {V D : Nat} {fp : Nat → Prop} {v : Vt} {d : Disk.Dk} {sa : Option Addr} {sc : Nat} (C : VC w0 w V D fp v d sa sc) {kb : Nat} {f : Int → Option Value} (hM : Mp w kb f) : ¬ fp kb ∧ kb ≠ V ∧ ∀ ad, sa = some ad → ad.block ≠ kb := by
  obtain ⟨es, ck, m, h1, _⟩ := hM
  refine ⟨fun hf => ?_, fun e => ?_, fun ad e e2 => ?_⟩
  · obtain ⟨cs, t, h2⟩ := C.cells kb hf
    rw [h1] at h2
    cases h2
  · have := C.row
    rw [← e, h1] at this
    cases this
  · obtain ⟨b, off, e', hlt, hcell⟩ := C.ints.2 (wid_pos _)
    rw [e] at e'
    cases e'
    have := hcell 0 (wid_pos _)
    simp only at e2
    subst e2
    unfold World.cell? at this
    rw [h1] at this
    simp at this
set_option maxHeartbeats 2000000 in
theorem node_err {w0 w : World} {V D : Nat} {fp : Nat → Prop} {v : Vt} {d : Disk.Dk} {sa : Option Addr} {sc : Nat} (C : VC w0 w V D fp v d sa sc) (kb : Nat) (f : Int → Option Value) (hM : Mp w kb f) (it l i : Nat) (r : Rf) (hf : (f (it : Int)).getD (.agg (ra zr)) = .agg (ra r)) (q : Disk.Dk × Int × List Int) (hq0 : q.2.1 ≠ 0)
    (CG0 : ∀ w1, Below w.heap.size w w1 → Calls Tryz.prog 43 #[.pointer (some ⟨V, 0, none⟩), .int .i64 (it : Int), .agg (ra r)] w1 fun e w' => GetV w0 w1 V D fp v sa sc q e w') :
    Calls Tryz.prog 42 #[.pointer (some ⟨V, 0, none⟩), .map (some kb), .int .i64 (it : Int)] w fun e w' => NodeV w0 w V D fp v sa sc kb f l i q e w' := by
  refine (callsIn_wide (n := 3)).1 ?_
  obtain ⟨Z, HZ⟩ : ∃ Z, Box (na zn = Z ∧ Z.size = 132 ∧ Z.all (·.oneCell') = true) := ⟨_, rfl, size_na okN_zn rfl, all_na _⟩
  have hz := zeroN
  have hbz := built_N
  rw [HZ.out.1] at hz hbz
  obtain ⟨S, hS⟩ : ∃ S, w.heap.size = S := ⟨_, rfl⟩
  obtain ⟨w1, hw1⟩ : ∃ w1, (w.alloc (.cells #[.map (some kb)] 88)).alloc (.cells Z 107) = w1 := ⟨_, rfl⟩
  have hb1 : Below w.heap.size w w1 := by rw [← hw1]; exact ((Below.refl _ _).alloc (Nat.le_refl _) _).alloc (by simp) _
  have hk1 : w1.heap[S]? = some (.cells #[.map (some kb)] 88 (0, 0)) := by rw [← hw1]; exact al_old (al_at hS)
  have hz1 : w1.heap[S + 1]? = some (.cells Z 107 (0, 0)) := by rw [← hw1]; exact al_at (by simp [hS])
  have hsz : w1.heap.size = S + 2 := by rw [← hw1]; simp [hS]
  have M1 : Box (Mp w1 kb f) := ⟨hM.same (hb1.block kb hM.lt)⟩
  have CG : Box _ := ⟨CG0 w1 hb1⟩
  have f1 : w1.cell? ⟨S, 0, none⟩ = some (.map (some kb)) := by rw [cell_of_row _ _ _ _ _ _ hk1]; rfl
  have HE : Box (∀ x fp', VC w0 x V D fp' v q.1 sa sc → Fw No w1 x fp fp' → x.heap[S + 1]? = some (.cells Z 107 (0, 0)) ∧ NodeV w0 w V D fp v sa sc kb f l i q (.returned (.tuple #[.agg (na zn), .int .i64 q.2.1])) (x.setRow (S + 1) Z)) := ⟨fun x fp' c1 c2 => by
    have hnf : ∀ k, S ≤ k → ¬ fp k := fun k hk hf => by have := C.cx.hi k hf; omega
    have hS1 : x.heap[S + 1]? = some (.cells Z 107 (0, 0)) := (c2.block (by omega) (hnf _ (by omega)) id).trans hz1
    refine ⟨hS1, fp', ?_, ?_, .inl ⟨hq0, rfl, ?_⟩⟩
    · have hV := C.lt
      have hsh := shp_nb C
      exact c1.set (S + 1) (but_setRow _ _ _) (c2.k (S + 1) (by omega) (hnf _ (by omega))) (by omega) (fun ad e => by have := hsh ad e; omega) (by have := C.lo; omega)
    · exact ((Fw.below _ fp hb1).trans (c2.wider (fun k _ h => h.elim))).but (but_setRow x (S + 1) Z) (by omega)
    · have hk := hM.lt
      have hnk := (C.nomap hM).1
      exact (hM.same ((setRow_other x (S + 1) kb Z (by omega)).trans ((c2.block (by omega) hnk id).trans (hb1.block kb hk))))⟩
  have hq2 : (q.2.1 == 0) = false := by simpa using hq0
  have HN : Box (w.heap.size = S) := ⟨hS⟩
  have HZI : Box ((Tryz.prog.info? 107).map (·.size) = some Z.size) := ⟨by rw [HZ.out.2.1]; exact infoN⟩
  have HLK : Box _ := ⟨hf⟩
  clear hS hq0 CG0 hM C hb1 hk1 hz1 hsz hf
  obtain ⟨qd, qe, qb⟩ := q
  simp only at hq2 ⊢
  refine callsIn_of_wp_marks Tryz.func42 rfl trivial ?_ rfl
  simp only [Tryz.ntmps42, List.size_toArray, List.length_cons, List.length_nil, Nat.reduceAdd, Nat.reduceSub, Array.replicate_succ, Array.replicate_zero, List.push_toArray, List.append_toArray, List.nil_append, List.cons_append]
  refine wpIn_wide.2 ?_
  go_upto_region 1 with (refine atAlloc _ ?_; refine wpList_run rfl _ _ (exec_alloc 107 rfl _ hz) ?_)
  simp only [HN.out]
  go_wp2_with (first
    | (refine atLook _ ?_; refine wpList_run rfl (.agg (ra r)) _ (exec_look1 (.tmp 16) (.tmp 17) rfl Tryz.underlying88 Tryz.underlying3 (.agg (ra zr)) zeroRef kb f rfl M1.out it rfl _ HLK.out) ?_)
    | (go_at_call 43; refine CG.out.mono ?_; rintro e x ⟨fp', a, c1, c2, rfl, hB⟩; have H2 : Box _ := ⟨HE.out x fp' c1 c2⟩; clear c1 c2 hB)
    | (refine atBuild _ ?_; refine wpList_run rfl _ _ (exec_built 107 [] rfl [] rfl _ hbz) ?_)
    | (refine atStore _ ?_; refine wpList_store_row rfl 107 _ _ rfl (S + 1) Z rfl rfl 107 Z H2.out.1 HZI.out rfl HZ.out.2.2 ?_))
  refine ret_none rfl _ (results_N2 rfl Tryz.underlying107 infoN _ _ (S + 1) zn okN_zn rfl rfl (by unfold LiesN; rw [HZ.out.1]; exact setRow_heap _ _ _ _ _ _ H2.out.1)) ?_
  exact H2.out.2
theorem below_v (V it : Nat) (x : World) : Calls Tryz.prog 63 #[.pointer (some ⟨V, 0, none⟩), .int .i64 (it : Int)] x fun e w' =>
    e = .returned (.func (.func 86) #[] #[.pointer (some ⟨x.heap.size, 0, none⟩), .pointer (some ⟨x.heap.size + 1, 0, none⟩)]) ∧ w' = (x.alloc (.cells #[.pointer (some ⟨V, 0, none⟩)] 31)).alloc (.cells #[.int .i64 (it : Int)] 3) := by
  go_enter Tryz.func63, Tryz.ntmps63
  go_wp2
  go_ret
  simp
theorem liesN_ref {w : World} {g : Nat} {t : TypeId} {N : List Rf} (h : w.heap[g]? = some (.cells (na N) t (0, 0))) (hN : OkN N) (k : Nat) (hk : k < N.length) : w.rangeAt g (k * 33) (rc (N.getD k zr)) := by
  have e : N.getD k zr = N[k] := by simp [hk]
  rw [e]
  intro j x hx
  have hr := hN N[k] (List.getElem_mem hk)
  have hj : j < 33 := by
    have := (List.getElem?_eq_some_iff.1 hx).1
    simpa [rc, hr.ld] using this
  rw [LiesN.cell (t := t) h, Nat.mul_comm, nc_at hN k hk j hj]
  exact hx
theorem rc_len {r : Rf} (h : OkR r) : (rc r).length = 33 := by simp [rc, h.ld]
theorem getD_ok {N : List Rf} (hN : OkN N) (k : Nat) : OkR (N.getD k zr) := by
  by_cases hk : k < N.length
  · have e : N.getD k zr = N[k] := by simp [hk]
    rw [e]
    exact hN _ (List.getElem_mem hk)
  · have e : N.getD k zr = zr := by simp [hk]
    rw [e]
    exact ⟨rfl, byt_zeros 32, by constructor <;> decide⟩
structure NdI (w0 w W0 : World) (V D : Nat) (fp : Nat → Prop) (v : Vt) (d : Disk.Dk) (sa : Option Addr) (sc kb S Sn : Nat) (N : List Rf) (g : Int → Option Value) (W : World) : Prop where
  vc : VC w0 W V D fp v d sa sc
  mp : Mp W kb g
  box : W.heap[S]? = some (.cells #[.map (some kb)] 88 (0, 0))
  res : W.heap[S + 1]? = some (.cells (na zn) 107 (0, 0))
  nod : W.heap[Sn]? = some (.cells (na N) 107 (0, 0))
  fw : Fw (fun k => k = kb) W0 W fp fp
theorem NdI.grown {w0 w W0 W W' : World} {V D : Nat} {fp : Nat → Prop} {v : Vt} {d : Disk.Dk} {sa : Option Addr} {sc kb S Sn : Nat} {N : List Rf} {g : Int → Option Value} {row : Option Nat} (h : NdI w0 w W0 V D fp v d sa sc kb S Sn N g W) (hkb : kb < W0.heap.size) (h0 : w0.heap.size ≤ W0.heap.size) (hg : W.grownBy W' row) (hr : ∀ r, row = some r → W0.heap.size ≤ r ∧ ∃ o : Obj, W.heap[r]? = some o ∧ o.isCells = false) : NdI w0 w W0 V D fp v d sa sc kb S Sn N g W' := by
  have hc : ∀ (k : Nat) (cs : Array Value) (t : TypeId) (f : Nat × Nat), W.heap[k]? = some (.cells cs t f) → W'.heap[k]? = some (.cells cs t f) := fun k cs t f e => by
    refine (hg.block k (Array.getElem?_eq_some_iff.1 e).1 (fun e2 => ?_)).trans e
    obtain ⟨_, o, ho, hoc⟩ := hr k e2.symm
    rw [e] at ho
    cases ho
    cases hoc
  refine ⟨h.vc.grown hg (fun k e => ⟨by have := (hr k e).1; omega, (hr k e).2⟩), h.mp.same (hg.block kb h.mp.lt (fun e => by have := (hr kb e.symm).1; omega)), hc _ _ _ _ h.box, hc _ _ _ _ h.res, hc _ _ _ _ h.nod, ⟨⟨hg.os.trans h.fw.t.os, hg.tape.trans h.fw.t.tape, hg.output.trans h.fw.t.output, Nat.le_trans h.fw.t.size hg.size, fun k hk hn => ?_⟩, h.fw.k⟩⟩
  exact (hg.block k (Nat.lt_of_lt_of_le hk h.fw.t.size) (fun e => by have := (hr k e.symm).1; omega)).trans (h.fw.t.block k hk hn)
set_option maxHeartbeats 4000000 in
theorem node_ok {w0 w : World} {V D : Nat} {fp : Nat → Prop} {v : Vt} {d : Disk.Dk} {sa : Option Addr} {sc : Nat} (C : VC w0 w V D fp v d sa sc) (kb : Nat) (f : Int → Option Value) (hM : Mp w kb f) (hkb : w0.heap.size ≤ kb) (l i : Nat) (hl : l + 1 ≤ topL v.n) (hi : i < wd v.n (l + 1)) (r : Rf) (hf : (f (itm v.n (l + 1) i : Nat)).getD (.agg (ra zr)) = .agg (ra r)) (q : Disk.Dk × Int × List Int) (hq0 : q.2.1 = 0) (hql : q.2.2.length = 160)
    (CG0 : ∀ w1, Below w.heap.size w w1 → Calls Tryz.prog 43 #[.pointer (some ⟨V, 0, none⟩), .int .i64 (itm v.n (l + 1) i : Nat), .agg (ra r)] w1 fun e w' => GetV w0 w1 V D fp v sa sc q e w') :
    Calls Tryz.prog 42 #[.pointer (some ⟨V, 0, none⟩), .map (some kb), .int .i64 (itm v.n (l + 1) i : Nat)] w fun e w' => NodeV w0 w V D fp v sa sc kb f l i q e w' := by
  refine (callsIn_wide (n := 3)).1 ?_
  obtain ⟨qd, qe, B⟩ := q
  simp only at hq0 hql
  subst hq0
  obtain ⟨N, hN⟩ : ∃ N, ofN B 4 = N := ⟨_, rfl⟩
  obtain ⟨it, hit⟩ : ∃ it, itm v.n (l + 1) i = it := ⟨_, rfl⟩
  rw [hit] at hf CG0 ⊢
  obtain ⟨Z, HZ⟩ : ∃ Z, Box (na zn = Z ∧ Z.size = 132 ∧ Z.all (·.oneCell') = true) := ⟨_, rfl, size_na okN_zn rfl, all_na _⟩
  have hz := zeroN
  rw [HZ.out.1] at hz
  obtain ⟨S, hS⟩ : ∃ S, w.heap.size = S := ⟨_, rfl⟩
  obtain ⟨w1, hw1⟩ : ∃ w1, (w.alloc (.cells #[.map (some kb)] 88)).alloc (.cells Z 107) = w1 := ⟨_, rfl⟩
  have hb1 : Below w.heap.size w w1 := by rw [← hw1]; exact ((Below.refl _ _).alloc (Nat.le_refl _) _).alloc (by simp) _
  have hk1 : w1.heap[S]? = some (.cells #[.map (some kb)] 88 (0, 0)) := by rw [← hw1]; exact al_old (al_at hS)
  have hz1 : w1.heap[S + 1]? = some (.cells (na zn) 107 (0, 0)) := by rw [← hw1, HZ.out.1]; exact al_at (by simp [hS])
  have hsz : w1.heap.size = S + 2 := by rw [← hw1]; simp [hS]
  have M1 : Box (Mp w1 kb f) := ⟨hM.same (hb1.block kb hM.lt)⟩
  have CG : Box _ := ⟨CG0 w1 hb1⟩
  have f1 : w1.cell? ⟨S, 0, none⟩ = some (.map (some kb)) := by rw [cell_of_row _ _ _ _ _ _ hk1]; rfl
  have hnf : ∀ k, S ≤ k → ¬ fp k := fun k hk hf => by have := C.cx.hi k hf; omega
  have hnk := C.nomap hM
  have hkl := hM.lt
  have HE : Box (∀ x fp' a, VC w0 x V D fp' v qd sa sc → Fw No w1 x fp fp' → Bytes x a 160 B → NdI w0 w x V D fp' v qd sa sc kb S S zn f x ∨ True) := ⟨fun _ _ _ _ _ _ => .inr trivial⟩
  have HX : Box (∀ x fp', VC w0 x V D fp' v qd sa sc → Fw No w1 x fp fp' → ∀ y, Below x.heap.size x y → VC w0 y V D fp' v qd sa sc ∧ Mp y kb f ∧ y.heap[S]? = some (.cells #[.map (some kb)] 88 (0, 0)) ∧ y.heap[S + 1]? = some (.cells (na zn) 107 (0, 0)) ∧ Fw (fun k => k = kb) w y fp fp' ∧ S + 2 ≤ y.heap.size ∧ ¬ fp' (S + 1)) := ⟨fun x fp' c1 c2 y hy => by
    have h1 := c2.size
    have hS0 := (c2.block (by omega) (hnf S (by omega)) id).trans hk1
    have hS1 := (c2.block (by omega) (hnf (S + 1) (by omega)) id).trans hz1
    have hK := c2.block (show kb < w1.heap.size by omega) hnk.1 id
    have h2 := hy.size
    exact ⟨c1.below hy, hM.same ((hy.block kb (by omega)).trans (hK.trans (hb1.block kb hkl))), (hy.block S (by omega)).trans hS0, (hy.block (S + 1) (by omega)).trans hS1, ((Fw.below _ fp hb1).trans (c2.wider (fun k _ h => h.elim))).trans (Fw.below _ fp' hy), by omega, c2.k (S + 1) (by omega) (hnf _ (by omega))⟩⟩
  have HNN : Box (∀ x a, Bytes x a 160 B → OkN N ∧ N.length = 4) := ⟨fun x a hB => by
    rw [← hN]
    have h1 := ok_upN B hB.2.1 hB.1 4 (Nat.le_refl _)
    have e : upN B 4 = ofN B 4 := by simp [upN]
    rw [e] at h1
    exact ⟨h1, by rw [← e]; exact len_upN B 4 (Nat.le_refl _)⟩⟩
  have HT : Box (∀ x a, Bytes x a 160 B → Calls Tryz.prog 62 #[.slice a 160 160] x fun e w' => e = .returned (.tuple #[.agg (na N), .int .i64 0]) ∧ Below x.heap.size x w') := ⟨fun x a hB => by
    rw [← hN]; exact tget_ok a 160 B x hB (by omega) (by omega)⟩
  have HN : Box (w.heap.size = S) := ⟨hS⟩
  have HLK : Box _ := ⟨hf⟩
  have HC : Box (VC w0 w V D fp v d sa sc ∧ w0.heap.size ≤ kb ∧ kb < S ∧ l + 1 ≤ topL v.n ∧ i < wd v.n (l + 1)) := ⟨C, hkb, by omega, hl, hi⟩
  have HIT : Box (itm v.n (l + 1) i = it) := ⟨hit⟩
  have HNB : Box (ofN B 4 = N) := ⟨hN⟩
  have HQL : Box (B.length = 160) := ⟨hql⟩
  clear hS CG0 hM C hb1 hk1 hz1 hsz hf hit hN hkb hl hi hnf hnk hkl HE
  refine callsIn_of_wp_marks Tryz.func42 rfl trivial ?_ rfl
  simp only [Tryz.ntmps42, List.size_toArray, List.length_cons, List.length_nil, Nat.reduceAdd, Nat.reduceSub, Array.replicate_succ, Array.replicate_zero, List.push_toArray, List.append_toArray, List.nil_append, List.cons_append]
  refine wpIn_wide.2 ?_
  go_upto_region 1 with (refine atAlloc _ ?_; refine wpList_run rfl _ _ (exec_alloc 107 rfl _ hz) ?_)
  simp only [HN.out]
  go_wp2_with (first
    | (refine atLook _ ?_; refine wpList_run rfl (.agg (ra r)) _ (exec_look1 (.tmp 16) (.tmp 17) rfl Tryz.underlying88 Tryz.underlying3 (.agg (ra zr)) zeroRef kb f rfl M1.out it rfl _ HLK.out) ?_)
    | (go_at_call 43; refine CG.out.mono ?_; rintro e x1 ⟨fp', a, c1, c2, rfl, hB⟩; simp only [hql] at hB ⊢; have H1 : Box (VC w0 x1 V D fp' v qd sa sc ∧ Fw No w1 x1 fp fp' ∧ Bytes x1 a 160 B) := ⟨c1, c2, hB⟩; clear c1 c2 hB)
    | (go_at_call 62; refine (HT.out x1 a H1.out.2.2).mono ?_; rintro e x2 ⟨rfl, hb⟩; have H2 : Box (Below x1.heap.size x1 x2) := ⟨hb⟩; clear hb)
    | (refine atAlloc _ ?_; refine wpList_run rfl _ _ (exec_alloc 107 rfl _ zeroN) ?_)
    | (refine atStore _ ?_; refine wpList_newN infoN x2 N (HNN.out x1 a H1.out.2.2).1 (HNN.out x1 a H1.out.2.2).2 rfl _ _ rfl rfl rfl rfl ?_; intro x3 hl3 hb3; have H3 : Box (Below x1.heap.size x1 x3 ∧ LiesN x3 x2.heap.size 107 N) := ⟨below_to H2.out hb3, hl3⟩; clear hl3 hb3)
    | (go_at_call 63; refine (below_v V it x3).mono ?_; rintro e x4 ⟨rfl, hx4⟩))
  refine (wpIn_wide (n := 3)).1 ?_
  obtain ⟨Sn, hSn⟩ : ∃ Sn, x2.heap.size = Sn := ⟨_, rfl⟩
  obtain ⟨Bv, hBv⟩ : ∃ Bv, x3.heap.size = Bv := ⟨_, rfl⟩
  have hb4 : Below x3.heap.size x3 x4 := by rw [hx4]; exact ((Below.refl _ _).alloc (Nat.le_refl _) _).alloc (by simp) _
  obtain ⟨g1, g2, g3, g4, g5, g6, g7⟩ := HX.out x1 fp' H1.out.1 H1.out.2.1 x4 (below_to H3.out.1 hb4)
  obtain ⟨hN1, hN2⟩ := HNN.out x1 a H1.out.2.2
  have hln : x4.heap[Sn]? = some (.cells (na N) 107 (0, 0)) := by
    have := H3.out.2
    unfold LiesN at this
    rw [hSn] at this
    exact (hb4.block Sn (Array.getElem?_eq_some_iff.1 this).1).trans this
  have hbel : Bel x4 Bv (Bv + 1) V D v sa sc (itm v.n (l + 1) i) := by
    rw [HIT.out]
    exact ⟨by rw [hx4]; exact al_old (al_at hBv), by rw [hx4]; exact al_at (by simp [hBv]), g1.row, g1.ints⟩
  have hSk : S + 2 ≤ Sn := by
    have := H1.out.2.1.size
    have := H2.out.size
    have h5 := (HX.out x1 fp' H1.out.1 H1.out.2.1 x2 H2.out).2.2.2.2.2.1
    omega
  have hszs : Bv + 2 = x4.heap.size ∧ Sn < x4.heap.size := ⟨by rw [hx4, ← hBv]; simp, (Array.getElem?_eq_some_iff.1 hln).1⟩
  obtain ⟨hC, hkb, hkS, hl, hi⟩ := HC.out
  have h0x : w0.heap.size ≤ x4.heap.size := g1.cx.bel.size
  have HI0 : Box (NdI w0 w x4 V D fp' v qd sa sc kb S Sn N f x4) := ⟨⟨g1, g2, g3, g4, hln, Fw.refl _ _ _⟩⟩
  have HK : Box (kb < S ∧ S + 2 ≤ Sn ∧ Sn < x4.heap.size ∧ w0.heap.size ≤ kb ∧ Bv + 2 = x4.heap.size) := ⟨hkS, hSk, hszs.2, hkb, hszs.1⟩
  have HFW : Box (Fw (fun k => k = kb) w x4 fp fp') := ⟨g5⟩
  have HNO : Box (OkN N ∧ N.length = 4) := ⟨hN1, hN2⟩
  have HNF : Box (¬ fp' (S + 1)) := ⟨g7⟩
  have hok := hC.ok
  have hSH : Box (∀ ad, sa = some ad → ad.block < S) := ⟨fun ad e => by have := shp_nb hC ad e; rw [HN.out] at this; exact this⟩
  rw [← hx4, hBv, hSn]
  clear H1 H2 H3 HX CG M1 f1 HT HNN g1 g2 g3 g4 g5 g6 g7 hln hSk hszs hN1 hN2 hb4 hx4 hC hkb hkS HC hw1 hz hSn hBv HLK
  refine range_simple (belS Bv (Bv + 1) V sa) (by decide) (gf := 86) (lb := #[.pointer (some ⟨Bv, 0, none⟩), .pointer (some ⟨Bv + 1, 0, none⟩)]) rfl (enters_of Tryz.func86 (by kernel_rfl) rfl)
    (below_stops 2 (by decide) Bv (Bv + 1) V D v hok sa sc l i hl hi _ (fun _ h => h) x4 hbel) (fun _ => rfl)
    (fun pre W => NdI w0 w x4 V D fp' v qd sa sc kb S Sn N (fputs v.n l i N f pre) W) (fun _ _ _ => False)
    (fun pre X Y row hs hg hr => hs.grown (by have := HK.out; omega) h0x hg hr) (fun _ _ _ _ _ h _ _ => h.elim) HI0.out
    (fun a x => { tmps := (((a.tmps.setIfInBounds 37 (.int .i64 (x.val : Int))).setIfInBounds 38 (.int .i64 (itm v.n l (4 * i + x.val) : Nat))).setIfInBounds 11 (.int .i64 (x.val : Int))).setIfInBounds 12 (.int .i64 (itm v.n l (4 * i + x.val) : Nat)), defers := [] })
    ?assign ?body ?done ?stop
  case assign =>
    intro lp x W K hK
    simp only [encB, List.zip_toArray, List.zip_cons_cons, List.zip_nil_right, List.foldl_toArray, List.foldl_cons, List.foldl_nil, List.setIfInBounds_toArray, List.set_cons_succ, List.set_cons_zero] at hK ⊢
    gi_wp2
    exact hK
  case body =>
    intro lp pre x W hlp hr hIp hlt
    simp only [List.setIfInBounds_toArray, List.set_cons_succ, List.set_cons_zero]
    obtain ⟨x, hx⟩ := x
    have HX4 : Box (x < 4) := ⟨hx⟩
    have GK : Box (W.drew.cell? ⟨S, 0, none⟩ = some (.map (some kb))) := ⟨by show W.cell? _ = _; rw [cell_of_row _ _ _ _ _ _ hIp.box]; rfl⟩
    have GN : Box (W.drew.rangeAt Sn (x * 33) (rc (N.getD x zr))) := ⟨liesN_ref (w := W) hIp.nod HNO.out.1 x (by rw [HNO.out.2]; exact hx)⟩
    have GM : Box (Mp W.drew kb (fputs v.n l i N f pre)) := ⟨hIp.mp.same rfl⟩
    have HRL : Box ((Tryz.prog.info? 36).map (·.size) = some (rc (N.getD x zr)).length) := ⟨by rw [rc_len (getD_ok HNO.out.1 x)]; exact infoRef⟩
    have HNE : Box (S ≠ kb ∧ Sn ≠ kb) := ⟨by have := HK.out; omega⟩
    have HIP : Box _ := ⟨hIp⟩
    clear hIp hr hlp hlt hbel HI0
    gi_wp2
    refine begin_in (But kb) (by kernel_rfl) (nodef _ (by kernel_rfl)) (fun ⟨_, _, h⟩ => h) (fun wd hwd => ?_)
    subst hwd
    refine Disk.take_but (i := 0) (v := .map (some kb)) rfl (by kernel_rfl) (by kernel_rfl) (by kernel_rfl) (fun _ _ _ h => h) (by rfl) (fun w' hB => Disk.exec_load1 88 _ _ rfl Tryz.underlying88 rfl _ rfl _ (Disk.but_cell hB GK.out (by show S ≠ kb; exact HNE.out.1))) ?_
    try simp only [Act.put, List.setIfInBounds_toArray, List.set_cons_zero, List.set_cons_succ, List.getElem_toArray, List.getElem_cons_zero]
    refine Disk.take_but (i := 1) (v := ?_) rfl (by kernel_rfl) (by kernel_rfl) (by kernel_rfl) (fun _ _ _ h => h) (by rfl) ?_ ?_
    rotate_left
    · intro w' hB; clear hB; go_simp <;> with_reducible rfl
    try simp only [Act.put, List.setIfInBounds_toArray, List.set_cons_zero, List.set_cons_succ, List.getElem_toArray, List.getElem_cons_zero, List.getElem_cons_succ]
    refine Disk.take_but (i := 2) (v := ?_) rfl (by kernel_rfl) (by kernel_rfl) (by kernel_rfl) (fun _ _ _ h => h) (by rfl) ?_ ?_
    rotate_left
    · intro w' hB; clear hB; go_simp <;> with_reducible rfl
    try simp only [Act.put, List.setIfInBounds_toArray, List.set_cons_zero, List.set_cons_succ, List.getElem_toArray, List.getElem_cons_zero, List.getElem_cons_succ]
    refine Disk.take_but (i := 3) (v := .pointer (some ⟨Sn, x * 33, none⟩)) rfl (by kernel_rfl) (by kernel_rfl) (by kernel_rfl) (fun _ _ _ h => h) (by rfl) (fun w' hB => exec_idxN6 (.tmp 10) (.tmp 41) rfl Sn x rfl rfl HX4.out) ?_
    try simp only [Act.put, List.setIfInBounds_toArray, List.set_cons_zero, List.set_cons_succ, List.getElem_toArray, List.getElem_cons_zero, List.getElem_cons_succ]
    refine Disk.take_but (i := 4) (v := .agg (ra (N.getD x zr))) rfl (by kernel_rfl) (by kernel_rfl) (by kernel_rfl) (fun _ _ _ h => h) (by rfl) (fun w' hB => exec_load_mid 36 _ _ rfl Tryz.underlying36 rfl Sn (x * 33) rfl (rc (N.getD x zr)) HRL.out (Disk.but_range hB GN.out (by show Sn ≠ kb; exact HNE.out.2))) ?_
    try simp only [Act.put, List.setIfInBounds_toArray, List.set_cons_zero, List.set_cons_succ, List.getElem_toArray, List.getElem_cons_zero, List.getElem_cons_succ]
    refine last_map (i := 5) rfl (by kernel_rfl) (by rfl) (by kernel_rfl) (.tmp 39) (.tmp 40) (.tmp 43) (.inl rfl) Tryz.underlying88 Tryz.underlying3 _ rfl GM.out _ rfl _ rfl (fun w' hM' hB' hz' => ?_)
    have hI := HIP.out
    have hnm := hI.vc.nomap hI.mp
    have hb' : But kb W w' := ⟨hB'.os, hB'.tape, hB'.output, hB'.size, hB'.block⟩
    have hkne : ∀ (k : Nat) (cs : Array Value) (t : TypeId) (f : Nat × Nat), W.heap[k]? = some (.cells cs t f) → w'.heap[k]? = some (.cells cs t f) := fun k cs t f e => by
      refine (hb'.block k (Array.getElem?_eq_some_iff.1 e).1 (fun e2 => ?_)).trans e
      obtain ⟨es, ck, m, h1, _⟩ := hI.mp
      rw [e2, h1] at e
      cases e
    refine ⟨⟨hb'.size, fun k o hBk hk ho => (hb'.block k (Array.getElem?_eq_some_iff.1 hk).1 (by have := HK.out; omega)).trans hk⟩, ⟨hb'.size, fun k _ cs t f e => hkne k cs t f e⟩, ?_⟩
    refine ⟨hI.vc.set kb hb' hnm.1 hnm.2.1 hnm.2.2 HK.out.2.2.2.1, by rw [fputs_snoc]; exact hM', hkne _ _ _ _ hI.box, hkne _ _ _ _ hI.res, hkne _ _ _ _ hI.nod, ?_⟩
    exact hI.fw.trans (Fw.of_but hb' fp')
  case done =>
    rintro Dd ys W hD rfl hIp hK
    rename_i KK ax
    clear hbel HI0
    have HIP : Box _ := ⟨hIp⟩
    have HKD : Box (W.heap[Dd]? = some (.deferred (some [])) ∧ x4.heap.size ≤ Dd) := ⟨hK, hD⟩
    clear hIp hK hD
    show KK _ _
    refine ax _ _ ?_
    clear ax
    have HB2 : Box (W.heap[S + 1]? = some (.cells (na zn) 107 (0, 0))) := ⟨HIP.out.res⟩
    have HSZ : Box ((Tryz.prog.info? 107).map (·.size) = some (na N).size ∧ (na N).size = (na zn).size) := ⟨by rw [size_na HNO.out.1 HNO.out.2, size_na okN_zn rfl]; exact ⟨infoN, rfl⟩⟩
    have HNL : Box (LiesN W Sn 107 N) := ⟨HIP.out.nod⟩
    go_wp2_with (first
      | (refine atLoad _ ?_; refine wpList_run rfl _ _ (exec_node Tryz.underlying107 infoN (.tmp 10) rfl Sn rfl N HNO.out.1 HNO.out.2 HNL.out) ?_)
      | (refine atStore _ ?_; refine wpList_store_row rfl 107 _ _ rfl (S + 1) (na N) rfl rfl 107 (na zn) HB2.out HSZ.out.1 (by first | exact HSZ.out.2 | exact HSZ.out.2.symm) (all_na N) ?_))
    have hI := HIP.out
    have hk := HK.out
    have hDn : Dd ≠ S + 1 := by have := HKD.out.2; omega
    have hKD' : (W.setRow (S + 1) (na N)).heap[Dd]? = some (.deferred (some [])) := (setRow_other W (S + 1) Dd _ hDn).trans HKD.out.1
    have hl1 : ((W.setRow (S + 1) (na N)).putObj Dd (.deferred none)).heap[S + 1]? = some (.cells (na N) 107 (0, 0)) := (World.putObj_heap_other (fun e => hDn e.symm)).trans (setRow_heap _ _ _ _ _ _ HB2.out)
    have hV := hI.vc.lt
    have hfw := HFW.out.size
    have hw := HN.out
    have hVS : V ≠ S + 1 := fun e => by
      have h1 := hI.vc.row
      rw [e, HB2.out] at h1
      simp at h1
    have hsh : ∀ ad, sa = some ad → ad.block ≠ S + 1 := fun ad e => by
      have := hSH.out ad e
      omega
    have c1 := hI.vc.set (S + 1) (but_setRow W (S + 1) (na N)) HNF.out (fun e => hVS e.symm) hsh (by omega)
    have c2 : VC w0 ((W.setRow (S + 1) (na N)).putObj Dd (.deferred none)) V D fp' v qd sa sc := c1.grown (grownBy_putObj' _ Dd _) (fun k e => by cases e; exact ⟨by have := HKD.out.2; omega, _, hKD', rfl⟩)
    refine ret_mark Dd ?_ hKD' (.tuple #[.agg (na N), .int .i64 0]) ?_ ?_
    · rfl
    · exact results_N2 (t := 6) (u := 7) rfl Tryz.underlying107 infoN _ _ (S + 1) N HNO.out.1 HNO.out.2 (by rfl) hl1
    refine ⟨fp', c2, ?_, .inr ⟨rfl, ?_, ?_, by simp only [HNB.out]; exact HNO.out.1⟩⟩
    · exact ((HFW.out.trans hI.fw).but (but_setRow W (S + 1) (na N)) (by omega)).but (but_putObj _ Dd _) (by have := HKD.out.2; omega)
    · simp only [HNB.out]
    · simp only [HNB.out]
      refine hI.mp.same ?_
      exact (World.putObj_heap_other (by have := HKD.out.2; omega)).trans (setRow_other W (S + 1) kb _ (by omega))
  case stop =>
    intro Dd c pre W hD hTp hF hK
    exact hF.elim
theorem node_v {w0 w : World} {V D : Nat} {fp : Nat → Prop} {v : Vt} {d : Disk.Dk} {sa : Option Addr} {sc : Nat} (C : VC w0 w V D fp v d sa sc) (l i : Nat) (hl : l + 1 ≤ topL v.n) (hi : i < wd v.n (l + 1)) (kb : Nat) (f : Int → Option Value) (hM : Mp w kb f) (hkb : w0.heap.size ≤ kb) (r : Rf) (hr : OkR r) (hf : (f (itm v.n (l + 1) i : Nat)).getD (.agg (ra zr)) = .agg (ra r)) (hop : d.ops.length < 1000000) (hup : d.uw.length < 1000000) :
    Calls Tryz.prog 42 #[.pointer (some ⟨V, 0, none⟩), .map (some kb), .int .i64 (itm v.n (l + 1) i : Nat)] w fun e w' => NodeV w0 w V D fp v sa sc kb f l i (getM (Yk v.key) Xd v.n d (l + 1) i r) e w' := by
  by_cases hq : (getM (Yk v.key) Xd v.n d (l + 1) i r).2.1 = 0
  · exact node_ok C kb f hM hkb l i hl hi r hf _ hq (getM_len _ _ _ _ _ _ hq) (fun w1 hb => get_v (C.below hb) (l + 1) i hl hi r hr hop hup)
  · exact node_err C kb f hM (itm v.n (l + 1) i) l i r hf _ hq (fun w1 hb => get_v (C.below hb) (l + 1) i hl hi r hr hop hup)
end Go.Proofs.YthbbijaikcmaeaaGreatDoor
namespace Go.Proofs.YthbbijaikcmaeaaGreatDoor
set_option maxRecDepth 100000
set_option linter.unusedVariables false
open Go.RowKit Go.Shelf Plain Go.Proofs.YthbbijaikcmaeaaGreatDoor.Shap.Plain
section
variable {P : Program} {md : Region.Mode} {ops : Array Oper} {Q : Exit → Act → World → Prop} {S : World → Prop}
theorem take_s {i : Nat} {oi : Oper} {v : Value} {fuel : Nat} {listed : Array Bool} {a : Act} {w : World} (hi : ops[i]? = some oi)
    (hs : Region.noSelect ops = true) (hf : Region.free md ops listed i = true) (hr : (Region.ready md ops listed).contains i = true)
    (hQ : ∀ c a w, Q (.panic c) (a.put oi.dst v) w → Q (.panic c) a w) (hw : Region.wanted oi (yielded ops a.tmps) = true)
    (hv : ∀ w', S w' → (execOp a.eval oi).run P w' = .ok (.value v) w') (hS : S w)
    (h : wpAnyH P md ops Q S fuel (listed.setIfInBounds i true) (a.put oi.dst v) w) : wpAnyH P md ops Q S (fuel + 1) listed a w :=
  wpAnyH_take hi hs hf hr hQ (Or.inl ⟨hw, hv⟩) hS h
theorem wp_put {t k e : TypeId} {o : Oper} {a : Act} {w : World} {K : Act → World → Prop} (m x y : Operand) (ho : o.op = .mapUpdate t m x y ∨ o.op = .insert t m x y) (ht : P.underlying t = some (.map k e)) (hk : P.underlying k = some (.int .i64)) (b : Nat) (f : Int → Option Value) (hm : a.eval m = .map (some b)) (hM : Mp w b f) (i : Int) (hx : a.eval x = .int .i64 i) (u : Value) (hy : a.eval y = u)
    (h : ∀ w', Mp w' b (fput f i u) → But b w w' → w'.heap.size = w.heap.size → K (a.put o.dst undef) w') : Oper.wp P o a w K Q := by
  obtain ⟨w', h1, h2, h3, h4⟩ := exec_put (ρ := a.eval) m x y ho ht hk b f hm hM i hx
  unfold Oper.wp
  rw [h1]
  rw [hy] at h2
  exact h w' h2 h3 h4
theorem exec_mkmap {o : Oper} {ρ : Operand → Value} {w : World} {t : TypeId} (ho : o.op = .makeMap t none) : (execOp ρ o).run P w = .ok (.value (.map (some w.heap.size))) (w.alloc (.map #[] 0)) := by
  unfold execOp
  simp [ho, Instr.makeMap]
end
set_option maxHeartbeats 2000000 in
theorem known_v {w0 w : World} {V D : Nat} {fp : Nat → Prop} {v : Vt} {d : Disk.Dk} {sa : Option Addr} {sc : Nat} (C : VC w0 w V D fp v d sa sc) :
    Calls Tryz.prog 40 #[.pointer (some ⟨V, 0, none⟩)] w fun e w' => ∃ kb, e = .returned (.map (some kb)) ∧ Mp w' kb (fput (fun _ => none) (itm v.n (topL v.n) 0 : Nat) (.agg (ra v.top))) ∧ Below w.heap.size w w' ∧ w.heap.size ≤ kb := by
  have CT : Box (∀ x, Below w.heap.size w x → Calls Tryz.prog 31 #[.pointer (some ⟨V, 0, none⟩)] x fun e w' => e = .returned (.int .i64 (itm v.n (topL v.n) 0 : Nat)) ∧ Below x.heap.size x w') := ⟨fun x hx => topItem_v (C.below hx)⟩
  have HTP : Box (∀ x, Below w.heap.size w x → x.rangeAt V 35 (rc v.top)) := ⟨fun x hx => (C.below hx).rd.top⟩
  have HTL : Box ((Tryz.prog.info? 36).map (·.size) = some (rc v.top).length) := ⟨by rw [rc_len C.ok.top]; exact infoRef⟩
  have HAL : Box (∀ (x : World) (o : Obj), Below w.heap.size w x → Below w.heap.size w (x.alloc o)) := ⟨fun x o hx => hx.alloc hx.size o⟩
  have HBT : Box (∀ (x y : World) (G : Nat), Below w.heap.size w x → But G x y → w.heap.size ≤ G → Below w.heap.size w y) := ⟨fun x y G hx hb hG => ⟨hb.os.trans hx.os, hb.tape.trans hx.tape, hb.output.trans hx.output, Nat.le_trans hx.size hb.size, fun k hk => (hb.block k (Nat.lt_of_lt_of_le hk hx.size) (by omega)).trans (hx.block k hk)⟩⟩
  clear C
  generalize itm v.n (topL v.n) 0 = tp at *
  go_enter Tryz.func40, Tryz.ntmps40
  go_upto_region 1 with fail
  refine Disk.begin_keep (S := fun x => Below w.heap.size w x) (by kernel_rfl) (fun wd hwd => ?_)
  have hS : Below w.heap.size w wd := by rw [hwd]; exact (Below.refl _ _).drew
  clear hwd
  refine take_s (i := 1) (v := ?_) rfl (by kernel_rfl) (by kernel_rfl) (by kernel_rfl) (fun _ _ _ h => h) (by rfl) ?_ hS ?_
  rotate_left
  · intro w' hLat; clear hLat; go_simp <;> with_reducible rfl
  try simp only [Act.put, List.setIfInBounds_toArray, List.set_cons_zero, List.set_cons_succ, List.getElem_toArray, List.getElem_cons_zero, List.getElem_cons_succ]
  refine take_s (i := 3) (v := ?_) rfl (by kernel_rfl) (by kernel_rfl) (by kernel_rfl) (fun _ _ _ h => h) (by rfl) ?_ hS ?_
  rotate_left
  · intro w' hLat; clear hLat; go_simp <;> with_reducible rfl
  try simp only [Act.put, List.setIfInBounds_toArray, List.set_cons_zero, List.set_cons_succ, List.getElem_toArray, List.getElem_cons_zero, List.getElem_cons_succ]
  refine take_s (i := 4) (v := ?_) rfl (by kernel_rfl) (by kernel_rfl) (by kernel_rfl) (fun _ _ _ h => h) (by rfl) ?_ hS ?_
  rotate_left
  · intro w' hLat; clear hLat; go_simp <;> with_reducible rfl
  try simp only [Act.put, List.setIfInBounds_toArray, List.set_cons_zero, List.set_cons_succ, List.getElem_toArray, List.getElem_cons_zero, List.getElem_cons_succ]
  refine take_s (i := 5) (v := ?_) rfl (by kernel_rfl) (by kernel_rfl) (by kernel_rfl) (fun _ _ _ h => h) (by rfl) ?_ hS ?_
  rotate_left
  · intro w' hLat; clear hLat; go_simp <;> with_reducible rfl
  try simp only [Act.put, List.setIfInBounds_toArray, List.set_cons_zero, List.set_cons_succ, List.getElem_toArray, List.getElem_cons_zero, List.getElem_cons_succ]
  refine take_s (i := 6) (v := .agg (ra v.top)) rfl (by kernel_rfl) (by kernel_rfl) (by kernel_rfl) (fun _ _ _ h => h) (by rfl) (fun w' hLat => exec_load_mid 36 _ _ rfl Tryz.underlying36 rfl V 35 rfl (rc v.top) HTL.out (HTP.out w' hLat)) hS ?_
  try simp only [Act.put, List.setIfInBounds_toArray, List.set_cons_zero, List.set_cons_succ, List.getElem_toArray, List.getElem_cons_zero, List.getElem_cons_succ]
  refine Disk.two_keep (i := 0) (j := 2) (by kernel_rfl) ?_ ?_
  · refine Disk.keep_step rfl (by rfl) ?_
    unfold Oper.wp
    rw [exec_mkmap (w := wd) rfl]
    refine ⟨HAL.out _ _ hS, ?_⟩
    try simp only [Act.put, List.setIfInBounds_toArray, List.set_cons_zero, List.set_cons_succ, List.getElem_toArray, List.getElem_cons_zero]
    have hkb : w.heap.size ≤ wd.heap.size := hS.size
    refine Disk.one_keep (i := 2) (by kernel_rfl) ?_
    refine Disk.keep_step rfl (by rfl) ?_
    go_simp
    refine Calls.mono (CT.out (wd.alloc (.map #[] 0)) (HAL.out _ _ hS)) ?_
    rintro e x2 ⟨rfl, hb⟩
    have hS2 : Below w.heap.size w x2 := below_to (HAL.out _ _ hS) hb
    have hM : Mp x2 wd.heap.size (fun _ => none) := (mp_new wd).same (hb.block _ (by simp))
    refine ⟨hS2, ?_⟩
    try simp only [Act.put, List.setIfInBounds_toArray, List.set_cons_zero, List.set_cons_succ, List.getElem_toArray, List.getElem_cons_zero, List.getElem_cons_succ]
    refine Disk.one_keep (i := 7) (by kernel_rfl) ?_
    refine Disk.keep_step rfl (by rfl) ?_
    refine wp_put (.tmp 3) (.tmp 5) (.tmp 9) (.inr rfl) Tryz.underlying88 Tryz.underlying3 (wd.heap.size) _ rfl hM _ rfl _ rfl (fun x3 m3 b3 z3 => ?_)
    have hS3 : Below w.heap.size w x3 := HBT.out _ _ wd.heap.size hS2 b3 hkb
    refine ⟨hS3, ?_⟩
    try simp only [Act.put, List.getElem_toArray, List.getElem_cons_zero, List.getElem_cons_succ]
    refine take_s (i := 8) (v := ?_) rfl (by kernel_rfl) (by kernel_rfl) (by kernel_rfl) (fun _ _ _ h => h) (by rfl) ?_ hS3 ?_
    rotate_left
    · intro w' hLat; clear hLat; go_simp <;> with_reducible rfl
    try simp only [Act.put, List.setIfInBounds_toArray, List.set_cons_zero, List.set_cons_succ, List.getElem_toArray, List.getElem_cons_zero, List.getElem_cons_succ]
    refine take_s (i := 9) (v := ?_) rfl (by kernel_rfl) (by kernel_rfl) (by kernel_rfl) (fun _ _ _ h => h) (by rfl) ?_ hS3 ?_
    rotate_left
    · intro w' hLat; clear hLat; go_simp <;> with_reducible rfl
    try simp only [Act.put, List.setIfInBounds_toArray, List.set_cons_zero, List.set_cons_succ, List.getElem_toArray, List.getElem_cons_zero, List.getElem_cons_succ]
    refine wpAnyH_done (by kernel_rfl) ?_ _
    go_wp2
    go_ret
    exact ⟨wd.heap.size, rfl, m3, hS3, hkb⟩
  · refine Disk.keep_step rfl (by rfl) ?_
    go_simp
    refine Calls.mono (CT.out wd hS) ?_
    rintro e x1 ⟨rfl, hb⟩
    have hS1 : Below w.heap.size w x1 := below_to hS hb
    refine ⟨hS1, ?_⟩
    try simp only [Act.put, List.setIfInBounds_toArray, List.set_cons_zero, List.set_cons_succ, List.getElem_toArray, List.getElem_cons_zero, List.getElem_cons_succ]
    refine Disk.one_keep (i := 0) (by kernel_rfl) ?_
    refine Disk.keep_step rfl (by rfl) ?_
    unfold Oper.wp
    rw [exec_mkmap (w := x1) rfl]
    refine ⟨HAL.out _ _ hS1, ?_⟩
    try simp only [Act.put, List.setIfInBounds_toArray, List.set_cons_zero, List.set_cons_succ, List.getElem_toArray, List.getElem_cons_zero]
    have hkb : w.heap.size ≤ x1.heap.size := hS1.size
    obtain ⟨x2, hx2⟩ : ∃ x2, x1.alloc (.map #[] 0) = x2 := ⟨_, rfl⟩
    have hM : Mp x2 x1.heap.size (fun _ => none) := by rw [← hx2]; exact mp_new x1
    have hS2 : Below w.heap.size w x2 := by rw [← hx2]; exact HAL.out _ _ hS1
    rw [hx2]
    refine Disk.one_keep (i := 7) (by kernel_rfl) ?_
    refine Disk.keep_step rfl (by rfl) ?_
    refine wp_put (.tmp 3) (.tmp 5) (.tmp 9) (.inr rfl) Tryz.underlying88 Tryz.underlying3 (x1.heap.size) _ rfl hM _ rfl _ rfl (fun x3 m3 b3 z3 => ?_)
    have hS3 : Below w.heap.size w x3 := HBT.out _ _ x1.heap.size hS2 b3 hkb
    refine ⟨hS3, ?_⟩
    try simp only [Act.put, List.getElem_toArray, List.getElem_cons_zero, List.getElem_cons_succ]
    refine take_s (i := 8) (v := ?_) rfl (by kernel_rfl) (by kernel_rfl) (by kernel_rfl) (fun _ _ _ h => h) (by rfl) ?_ hS3 ?_
    rotate_left
    · intro w' hLat; clear hLat; go_simp <;> with_reducible rfl
    try simp only [Act.put, List.setIfInBounds_toArray, List.set_cons_zero, List.set_cons_succ, List.getElem_toArray, List.getElem_cons_zero, List.getElem_cons_succ]
    refine take_s (i := 9) (v := ?_) rfl (by kernel_rfl) (by kernel_rfl) (by kernel_rfl) (fun _ _ _ h => h) (by rfl) ?_ hS3 ?_
    rotate_left
    · intro w' hLat; clear hLat; go_simp <;> with_reducible rfl
    try simp only [Act.put, List.setIfInBounds_toArray, List.set_cons_zero, List.set_cons_succ, List.getElem_toArray, List.getElem_cons_zero, List.getElem_cons_succ]
    refine wpAnyH_done (by kernel_rfl) ?_ _
    go_wp2
    go_ret
    exact ⟨x1.heap.size, rfl, m3, hS3, hkb⟩
end Go.Proofs.YthbbijaikcmaeaaGreatDoor
