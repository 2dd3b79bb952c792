/-
  What content of package vault answers: a leaf's block, or a node's refs as they are now.
-/
import Derived.Test.YthbbijaikcmaeaaGreatDoorX30
namespace Go.Proofs.YthbbijaikcmaeaaGreatDoor
set_option maxRecDepth 100000
set_option linter.unusedVariables false
set_option maxRecDepth 100000
open Go.RowKit Go.Shelf Plain Go.Proofs.YthbbijaikcmaeaaGreatDoor.Shap.Plain
attribute [local go_sem] Oper.semAt_some
theorem atLookIn {F : Fence} {n : Nat} {P : Program} {ops : Array Oper} {Q : Exit → Act → World → Prop} {rest : List Oper} {a : Act} {w : World} (t : TypeId) {x y : Operand} {c : Bool} {d : Option Tmp} {ty : TypeId} {p : String} {af : Array Edge} {g : Option (Nat × Bool)} (h : wpListIn F n P ops Q ({ dst := d, op := .lookup t x y c, type := ty, pos := p, after := af, guard := g } :: rest) a w) : wpListIn F n P ops Q ({ dst := d, op := .lookup t x y c, type := ty, pos := p, after := af, guard := g } :: rest) a w := h
theorem atIdxIn {F : Fence} {n : Nat} {P : Program} {ops : Array Oper} {Q : Exit → Act → World → Prop} {rest : List Oper} {a : Act} {w : World} (t : TypeId) {x y : Operand} {d : Option Tmp} {ty : TypeId} {p : String} {af : Array Edge} {g : Option (Nat × Bool)} (h : wpListIn F n P ops Q ({ dst := d, op := .indexAddr t x y, type := ty, pos := p, after := af, guard := g } :: rest) a w) : wpListIn F n P ops Q ({ dst := d, op := .indexAddr t x y, type := ty, pos := p, after := af, guard := g } :: rest) a w := h
theorem wpListIn_look {F : Fence} {n : Nat} {ops : Array Oper} {rest : List Oper} {o : Oper} {a : Act} {w : World} {Q : Exit → Act → World → Prop} (hg : o.guard = none) (t : TypeId) {k e : TypeId} (m x : Operand) (ho : o.op = .lookup t m x false) (ht : Tryz.prog.underlying t = some (.map k e)) (hk : Tryz.prog.underlying k = some (.int .i64)) (z : Value) (hz : ∀ w : World, (zeroValue e).run Tryz.prog w = .ok z w) (b : Nat) (f : Int → Option Value) (hm : a.eval m = .map (some b)) (hM : Mp w b f) (i : Nat) (hx : a.eval x = .int .i64 (i : Int)) (u : Value) (hu : (f (i : Int)).getD z = u)
    (h : wpListIn F n Tryz.prog ops Q rest (a.put o.dst u) w) : wpListIn F n Tryz.prog ops Q (o :: rest) a w := by
  refine wpListIn_plain hg fun K hK' => ?_
  unfold Oper.wpIn
  refine ⟨?_, ?_⟩
  · simp [Oper.about, ho]
  · rw [Oper.semAt_plain F _ _ (by rw [ho]; intro c hc'; cases hc'), exec_look1 m x ho ht hk z hz b f hm hM i hx u hu]
    exact hK' _ _ h
theorem wpListIn_idxN {F : Fence} {n : Nat} {ops : Array Oper} {rest : List Oper} {o : Oper} {a : Act} {w : World} {Q : Exit → Act → World → Prop} (hg : o.guard = none) (x y : Operand) (ho : o.op = .indexAddr 107 x y) (S j : Nat) (hx : a.eval x = .pointer (some ⟨S, 0, none⟩)) (hy : a.eval y = .int .i64 (j : Int)) (hj : j < 4)
    (h : wpListIn F n Tryz.prog ops Q rest (a.put o.dst (.pointer (some ⟨S, j * 33, none⟩))) w) : wpListIn F n Tryz.prog ops Q (o :: rest) a w := by
  refine wpListIn_plain hg fun K hK' => ?_
  unfold Oper.wpIn
  refine ⟨?_, ?_⟩
  · simp [Oper.about, ho]
  · rw [Oper.semAt_plain F _ _ (by rw [ho]; intro c hc'; cases hc'), exec_idxN6 x y ho S j hx hy hj]
    exact hK' _ _ h
theorem nc_put_ref {N : List Rf} (h : OkN N) (k : Nat) (hk : k < N.length) {r : Rf} (hr : OkR r) : splice (nc N) (k * 33) (rc r) = nc (N.set k r) := by
  have hl := len_nc (okN_take h k)
  have h1 := len_rc (h.get k hk)
  have h2 := len_rc hr
  rw [List.length_take, Nat.min_eq_left (Nat.le_of_lt hk)] at hl
  rw [nc_set k hk, nc_split k hk]
  simp only [splice, h2]
  rw [List.take_append_of_le_length (by omega), List.take_of_length_le (by omega), List.drop_append, List.drop_of_length_le (by omega), List.nil_append, show k * 33 + 33 - (nc (N.take k)).length = 33 by omega, List.drop_append, List.drop_of_length_le (by omega), List.nil_append, h1]
  simp
theorem LiesN.putRef {w : World} {g : Nat} {t : TypeId} {N : List Rf} (h : LiesN w g t N) (hN : OkN N) (k : Nat) (hk : k < N.length) {r : Rf} (hr : OkR r) : LiesN (w.setCells g (k * 33) (ra r).toList) g t (N.set k r) := by
  have hl := len_nc hN
  have := setCells_row g t (rc r) (k * 33) (nc N) w h (by rw [len_rc hr, hl]; omega)
  unfold LiesN na
  rw [show (ra r).toList = rc r by simp [ra], this, nc_put_ref hN k hk hr]
theorem results_T1 {fn : Func} {t : Tmp} (h : fn.results = #[.tmp t]) (tmps : Array Value) (w : World) (x : Value) (ht : tmps.getD t undef = x) : (results fn tmps).run Tryz.prog w = .ok x w := by
  simp only [Array.getD_eq_getD_getElem?] at ht
  simp [results, h, ht]
theorem bytes_def {w : World} {a : Option Addr} {len : Nat} {L : List Int} {k : Nat} {o : Obj} {ds : Option (List Deferred)} (h : Bytes w a len L) (hk : w.heap[k]? = some (.deferred ds)) : Bytes (w.putObj k o) a len L := by
  refine ⟨h.1, h.2.1, fun hp => ?_⟩
  obtain ⟨b, off, e, hlt, hc⟩ := h.2.2 hp
  have hne : b ≠ k := fun e2 => by
    have := hc 0 hp
    subst e2
    unfold World.cell? at this
    rw [hk] at this
    simp at this
  exact ⟨b, off, e, Nat.lt_of_lt_of_le hlt (but_putObj w k o).size, fun i hi => (World.cell?_of_block (show (w.putObj k o).heap[(⟨b, off + i, none⟩ : Addr).block]? = _ from World.putObj_heap_other hne)).trans (hc i hi)⟩
def cnN (n l i : Nat) (F : Nat → Rf) (N : List Rf) (ks : List (Fin 4)) : List Rf := ks.foldl (fun N k => N.set k.val (F (itm n l (4 * i + k.val)))) N
theorem cnN_snoc (n l i : Nat) (F : Nat → Rf) (N : List Rf) (ks : List (Fin 4)) (k : Fin 4) : cnN n l i F N (ks ++ [k]) = (cnN n l i F N ks).set k.val (F (itm n l (4 * i + k.val))) := by simp [cnN]
theorem okN_set {N : List Rf} (h : OkN N) (k : Nat) {r : Rf} (hr : OkR r) : OkN (N.set k r) := fun x hx => by
  rcases List.mem_or_eq_of_mem_set hx with h1 | h1
  · exact h x h1
  · rw [h1]; exact hr
theorem cnN_ok (n l i : Nat) (F : Nat → Rf) (hF : ∀ j, OkR (F j)) : ∀ (ks : List (Fin 4)) (N : List Rf), OkN N → N.length = 4 → OkN (cnN n l i F N ks) ∧ (cnN n l i F N ks).length = 4
  | [], N, h, h4 => ⟨h, h4⟩
  | k :: ks, N, h, h4 => cnN_ok n l i F hF ks (N.set k.val (F (itm n l (4 * i + k.val)))) (okN_set h _ (hF _)) (by simpa using h4)
theorem exec_lookS {P : Program} {t k e : TypeId} {o : Oper} {ρ : Operand → Value} {w : World} (m x : Operand) (ho : o.op = .lookup t m x true) (ht : P.underlying t = some (.map k e)) (hk : P.underlying k = some (.int .i64)) (z : Value) (hz : ∀ w : World, (zeroValue e).run P w = .ok z w) (b : Nat) (f : Int → Option Value) (hm : ρ m = .map (some b)) (hM : Mp w b f) (i : Nat) (hx : ρ x = .int .i64 (i : Int)) (u : Value) (hu : f (i : Int) = some u) :
    (execOp ρ o).run P w = .ok (.value (.tuple #[u, .bool true])) w := by
  rw [exec_lookOk m x ho ht hk z hz b f hm hM i hx, hu]; rfl
theorem exec_lookN {P : Program} {t k e : TypeId} {o : Oper} {ρ : Operand → Value} {w : World} (m x : Operand) (ho : o.op = .lookup t m x true) (ht : P.underlying t = some (.map k e)) (hk : P.underlying k = some (.int .i64)) (z : Value) (hz : ∀ w : World, (zeroValue e).run P w = .ok z w) (b : Nat) (f : Int → Option Value) (hm : ρ m = .map (some b)) (hM : Mp w b f) (i : Nat) (hx : ρ x = .int .i64 (i : Int)) (hu : f (i : Int) = none) :
    (execOp ρ o).run P w = .ok (.value (.tuple #[z, .bool false])) w := by
  rw [exec_lookOk m x ho ht hk z hz b f hm hM i hx, hu]; rfl
set_option maxHeartbeats 2000000 in
theorem content_leaf {w : World} {U bb nb kb base : Nat} {iv : Value} {cnt : Nat} {A : List Int} {fb gn gk : Int → Option Value} (V it : Nat) (hU : Upd w U bb nb kb base iv cnt A fb gn gk) (u : Value) (hb : fb (it : Int) = some u) :
    Calls Tryz.prog 54 #[.pointer (some ⟨V, 0, none⟩), .pointer (some ⟨U, 0, none⟩), .int .i64 (it : Int)] w fun e w' => e = .returned u ∧ Below w.heap.size w w' := by
  refine (callsIn_wide (n := 3)).1 ?_
  obtain ⟨S, hS⟩ : ∃ S, w.heap.size = S := ⟨_, rfl⟩
  obtain ⟨w1, hw1⟩ : ∃ w1, w.alloc (.cells #[.pointer (some ⟨U, 0, none⟩)] 81) = w1 := ⟨_, rfl⟩
  have hb1 : Below w.heap.size w w1 := by rw [← hw1]; exact (Below.refl _ _).alloc (Nat.le_refl _) _
  have h1 : w1.heap[S]? = some (.cells #[.pointer (some ⟨U, 0, none⟩)] 81 (0, 0)) := by rw [← hw1]; exact al_at hS
  have hU1 : w1.heap[U]? = some (.cells #[iv, .map (some bb), .map (some nb), .map (some kb)] 90 (0, 0)) := (hb1.block U (Array.getElem?_eq_some_iff.1 hU.un).1).trans hU.un
  have M1 : Box (Mp w1 bb fb) := ⟨hU.mb.same (hb1.block bb hU.mb.lt)⟩
  have c1 : w1.cell? ⟨S, 0, none⟩ = some (.pointer (some ⟨U, 0, none⟩)) := by rw [cell_of_row _ _ _ _ _ _ h1]; rfl
  have c2 : w1.cell? ⟨U, 1, none⟩ = some (.map (some bb)) := by rw [cell_of_row _ _ _ _ _ _ hU1]; rfl
  have HB1 : Box (Below w.heap.size w w1) := ⟨hb1⟩
  have HN : Box (w.heap.size = S) := ⟨hS⟩
  have HFB : Box (fb (it : Int) = some u) := ⟨hb⟩
  clear hS hb1 h1 hU1 hU hb
  refine callsIn_of_wp_marks Tryz.func54 rfl trivial ?_ rfl
  simp only [Tryz.ntmps54, List.size_toArray, List.length_cons, List.length_nil, Nat.reduceAdd, Nat.reduceSub, Array.replicate_succ, Array.replicate_zero, List.push_toArray, List.append_toArray, List.nil_append, List.cons_append]
  refine wpIn_wide.2 ?_
  go_upto_region 1 with fail
  simp only [HN.out]
  go_wp2_with (first
    | (refine atLook _ ?_; refine wpList_run rfl _ _ (exec_lookS (.tmp 16) (.tmp 17) rfl Tryz.underlying85 Tryz.underlying3 (.slice none 0 0) zeroBytes bb fb rfl M1.out it rfl u HFB.out) ?_))
  refine ret_none rfl u (results_T1 (t := 6) rfl _ _ _ (by rfl)) ⟨rfl, HB1.out⟩
structure CtI (w : World) (U S Sn : Nat) (N : List Rf) (W : World) : Prop where
  be : Below w.heap.size w W
  box : W.heap[S]? = some (.cells #[.pointer (some ⟨U, 0, none⟩)] 81 (0, 0))
  nod : W.heap[Sn]? = some (.cells (na N) 107 (0, 0))
theorem CtI.grown {w W0 W W' : World} {U S Sn : Nat} {N : List Rf} {row : Option Nat} (h : CtI w U S Sn N W) (h0 : w.heap.size ≤ W0.heap.size) (hg : W.grownBy W' row) (hr : ∀ r, row = some r → W0.heap.size ≤ r ∧ ∃ o : Obj, W.heap[r]? = some o ∧ o.isCells = false) : CtI w U S Sn N W' := by
  have hc : ∀ (k : Nat) (cs : Array Value) (t : TypeId) (f : Nat × Nat), W.heap[k]? = some (.cells cs t f) → W'.heap[k]? = some (.cells cs t f) := fun k cs t f e => by
    refine (hg.block k (Array.getElem?_eq_some_iff.1 e).1 (fun e2 => ?_)).trans e
    obtain ⟨_, o, ho, hoc⟩ := hr k e2.symm
    rw [e] at ho
    cases ho
    cases hoc
  refine ⟨⟨hg.os.trans h.be.os, hg.tape.trans h.be.tape, hg.output.trans h.be.output, Nat.le_trans h.be.size hg.size, fun k hk => ?_⟩, hc _ _ _ _ h.box, hc _ _ _ _ h.nod⟩
  exact (hg.block k (Nat.lt_of_lt_of_le hk h.be.size) (fun e => by have := (hr k e.symm).1; omega)).trans (h.be.block k hk)
theorem below_but {w x y : World} {G : Nat} (h : Below w.heap.size w x) (hb : But G x y) (hG : w.heap.size ≤ G) : Below w.heap.size w y :=
  ⟨hb.os.trans h.os, hb.tape.trans h.tape, hb.output.trans h.output, Nat.le_trans h.size hb.size, fun k hk => (hb.block k (Nat.lt_of_lt_of_le hk h.size) (by omega)).trans (h.block k hk)⟩
set_option maxHeartbeats 4000000 in
theorem content_node {w0 w : World} {V D : Nat} {fp : Nat → Prop} {v : Vt} {d : Disk.Dk} {sa : Option Addr} {sc : Nat} (C : VC w0 w V D fp v d sa sc) {U bb nb kb base : Nat} {iv : Value} {cnt : Nat} {A : List Int} {fb gn gk : Int → Option Value} (hU : Upd w U bb nb kb base iv cnt A fb gn gk) (l i : Nat) (hl : l + 1 ≤ topL v.n) (hi : i < wd v.n (l + 1)) (F : Nat → Rf) (G : Nat → List Rf) (hF : RelF gk F) (hokF : ∀ j, OkR (F j)) (hG : RelG gn G) (hokG : OkG G) (hb : fb (itm v.n (l + 1) i : Nat) = none) :
    Calls Tryz.prog 54 #[.pointer (some ⟨V, 0, none⟩), .pointer (some ⟨U, 0, none⟩), .int .i64 (itm v.n (l + 1) i : Nat)] w fun e w' => ∃ a cap, e = .returned (.slice a 160 cap) ∧ Bytes w' a 160 (Plain.nb (cnN v.n l i F (G (itm v.n (l + 1) i)) (fr (chn v.n l i)))) ∧ 160 ≤ cap ∧ cap ≤ maxLen ∧ Below w.heap.size w w' := by
  refine (callsIn_wide (n := 3)).1 ?_
  obtain ⟨N, hN⟩ : ∃ N, G (itm v.n (l + 1) i) = N := ⟨_, rfl⟩
  have HNO : Box (OkN N ∧ N.length = 4) := ⟨by rw [← hN]; exact hokG _⟩
  have hgN : (gn ((itm v.n (l + 1) i : Nat) : Int)).getD (.agg (na zn)) = .agg (na N) := by rw [hG, hN]
  rw [hN]
  obtain ⟨it, hit⟩ : ∃ it, itm v.n (l + 1) i = it := ⟨_, rfl⟩
  rw [hit] at hb hgN ⊢
  obtain ⟨S, hS⟩ : ∃ S, w.heap.size = S := ⟨_, rfl⟩
  obtain ⟨w1, hw1⟩ : ∃ w1, w.alloc (.cells #[.pointer (some ⟨U, 0, none⟩)] 81) = w1 := ⟨_, rfl⟩
  have hb1 : Below w.heap.size w w1 := by rw [← hw1]; exact (Below.refl _ _).alloc (Nat.le_refl _) _
  have h1 : w1.heap[S]? = some (.cells #[.pointer (some ⟨U, 0, none⟩)] 81 (0, 0)) := by rw [← hw1]; exact al_at hS
  have hsz1 : w1.heap.size = S + 1 := by rw [← hw1]; simp [hS]
  have hUl := (Array.getElem?_eq_some_iff.1 hU.un).1
  have hU1 : w1.heap[U]? = some (.cells #[iv, .map (some bb), .map (some nb), .map (some kb)] 90 (0, 0)) := (hb1.block U hUl).trans hU.un
  have M1 : Box (Mp w1 bb fb) := ⟨hU.mb.same (hb1.block bb hU.mb.lt)⟩
  have M2 : Box (Mp w1 nb gn) := ⟨hU.mn.same (hb1.block nb hU.mn.lt)⟩
  have c1 : w1.cell? ⟨S, 0, none⟩ = some (.pointer (some ⟨U, 0, none⟩)) := by rw [cell_of_row _ _ _ _ _ _ h1]; rfl
  have c2 : w1.cell? ⟨U, 1, none⟩ = some (.map (some bb)) := by rw [cell_of_row _ _ _ _ _ _ hU1]; rfl
  have c3 : w1.cell? ⟨U, 2, none⟩ = some (.map (some nb)) := by rw [cell_of_row _ _ _ _ _ _ hU1]; rfl
  have HB1 : Box (Below w.heap.size w w1 ∧ w1.heap.size = S + 1 ∧ w1.heap[S]? = some (.cells #[.pointer (some ⟨U, 0, none⟩)] 81 (0, 0))) := ⟨hb1, hsz1, h1⟩
  have HN : Box (w.heap.size = S) := ⟨hS⟩
  have HFB : Box (fb (it : Int) = none) := ⟨hb⟩
  have HGN : Box _ := ⟨hgN⟩
  have HIT : Box (itm v.n (l + 1) i = it) := ⟨hit⟩
  have HC : Box (VC w0 w V D fp v d sa sc ∧ Upd w U bb nb kb base iv cnt A fb gn gk ∧ l + 1 ≤ topL v.n ∧ i < wd v.n (l + 1) ∧ RelF gk F ∧ ∀ j, OkR (F j)) := ⟨C, hU, hl, hi, hF, hokF⟩
  clear hS hb1 h1 hU1 hU hb hsz1 hUl C hl hi hF hokF hG hokG hN hgN hit
  refine callsIn_of_wp_marks Tryz.func54 rfl trivial ?_ rfl
  simp only [Tryz.ntmps54, List.size_toArray, List.length_cons, List.length_nil, Nat.reduceAdd, Nat.reduceSub, Array.replicate_succ, Array.replicate_zero, List.push_toArray, List.append_toArray, List.nil_append, List.cons_append]
  refine wpIn_wide.2 ?_
  go_upto_region 1 with fail
  simp only [HN.out]
  go_wp2_with (first
    | (refine atLook 85 ?_; refine wpList_run rfl _ _ (exec_lookN (.tmp 16) (.tmp 17) rfl Tryz.underlying85 Tryz.underlying3 (.slice none 0 0) zeroBytes bb fb rfl M1.out it rfl HFB.out) ?_)
    | (refine atLook 86 ?_; refine wpList_run rfl (.agg (na N)) _ (exec_look1 (.tmp 26) (.tmp 27) rfl Tryz.underlying86 Tryz.underlying3 (.agg (na zn)) zeroNode nb gn rfl M2.out it rfl _ HGN.out) ?_)
    | (refine atAlloc _ ?_; refine wpList_run rfl _ _ (exec_alloc 107 rfl _ zeroN) ?_)
    | (refine atStore _ ?_; refine wpList_newN infoN w1 N HNO.out.1 HNO.out.2 rfl _ _ rfl rfl rfl rfl ?_; intro x3 hl3 hb3; have H3 : Box (Below w1.heap.size w1 x3 ∧ LiesN x3 w1.heap.size 107 N) := ⟨hb3, hl3⟩; clear hl3 hb3)
    | (go_at_call 63; refine (below_v V it x3).mono ?_; rintro e x4 ⟨rfl, hx4⟩))
  refine (wpIn_wide (n := 3)).1 ?_
  obtain ⟨Sn, hSn⟩ : ∃ Sn, w1.heap.size = Sn := ⟨_, rfl⟩
  obtain ⟨Bv, hBv⟩ : ∃ Bv, x3.heap.size = Bv := ⟨_, rfl⟩
  have hb4 : Below x3.heap.size x3 x4 := by rw [hx4]; exact ((Below.refl _ _).alloc (Nat.le_refl _) _).alloc (by simp) _
  have b14 : Below w1.heap.size w1 x4 := below_to H3.out.1 hb4
  have b04 : Below w.heap.size w x4 := below_to HB1.out.1 b14
  obtain ⟨hC, hU, hl, hi, hF, hokF⟩ := HC.out
  have hln : x4.heap[Sn]? = some (.cells (na N) 107 (0, 0)) := by
    have := H3.out.2
    unfold LiesN at this
    rw [hSn] at this
    exact (hb4.block Sn (Array.getElem?_eq_some_iff.1 this).1).trans this
  have hC4 := hC.below b04
  have hbel : Bel x4 Bv (Bv + 1) V D v sa sc (itm v.n (l + 1) i) := by
    rw [HIT.out]
    exact ⟨by rw [hx4]; exact al_old (al_at hBv), by rw [hx4]; exact al_at (by simp [hBv]), hC4.row, hC4.ints⟩
  have hz1 := HB1.out.2.1
  have HK : Box (S + 1 = Sn ∧ Sn < x4.heap.size ∧ w.heap.size = S ∧ Bv + 2 = x4.heap.size ∧ Sn < Bv) := ⟨by omega, (Array.getElem?_eq_some_iff.1 hln).1, HN.out, by rw [hx4, ← hBv]; simp, by rw [← hBv, ← hSn]; exact (Array.getElem?_eq_some_iff.1 H3.out.2).1⟩
  have HI0 : Box (CtI w U S Sn N x4) := ⟨⟨b04, (b14.block S (by omega)).trans HB1.out.2.2, hln⟩⟩
  have hok := hC.ok
  have h0x : w.heap.size ≤ x4.heap.size := b04.size
  have HUL : Box (U < w.heap.size ∧ kb < w.heap.size ∧ V < w.heap.size ∧ ∀ ad, sa = some ad → ad.block < w.heap.size) := ⟨(Array.getElem?_eq_some_iff.1 hU.un).1, hU.mkn.lt, hC.lt, shp_nb hC⟩
  rw [← hx4, hBv, hSn]
  clear H3 M1 M2 c1 c2 c3 HB1 hln hz1 hb4 b14 b04 hx4 hC hU hF hokF hC4 hw1 hSn hBv HFB HGN
  refine range_simple (belS Bv (Bv + 1) V sa) (by decide) (gf := 86) (lb := #[.pointer (some ⟨Bv, 0, none⟩), .pointer (some ⟨Bv + 1, 0, none⟩)]) rfl (enters_of Tryz.func86 (by kernel_rfl) rfl)
    (below_stops 2 (by decide) Bv (Bv + 1) V D v hok sa sc l i hl hi _ (fun _ h => h) x4 hbel) (fun _ => rfl)
    (fun pre W => CtI w U S Sn (cnN v.n l i F N pre) W) (fun _ _ _ => False)
    (fun pre X Y row hs hg hr => hs.grown h0x hg hr) (fun _ _ _ _ _ h _ _ => h.elim) HI0.out
    (fun a x => { tmps := (((a.tmps.setIfInBounds 32 (.int .i64 (x.val : Int))).setIfInBounds 33 (.int .i64 (itm v.n l (4 * i + x.val) : Nat))).setIfInBounds 10 (.int .i64 (x.val : Int))).setIfInBounds 11 (.int .i64 (itm v.n l (4 * i + x.val) : Nat)), defers := [] })
    ?assign ?body ?done ?stop
  case assign =>
    intro lp x W K hK
    simp only [encB, List.zip_toArray, List.zip_cons_cons, List.zip_nil_right, List.foldl_toArray, List.foldl_cons, List.foldl_nil, List.setIfInBounds_toArray, List.set_cons_succ, List.set_cons_zero] at hK ⊢
    gi_wp2
    exact hK
  case body =>
    intro lp pre x W hlp hr hIp hlt
    simp only [List.setIfInBounds_toArray, List.set_cons_succ, List.set_cons_zero]
    obtain ⟨x, hx⟩ := x
    obtain ⟨hC, hU, hl, hi, hF, hokF⟩ := HC.out
    have hUL := HUL.out
    have HX4 : Box (x < 4) := ⟨hx⟩
    obtain ⟨bt, hbt⟩ : ∃ bt, itm v.n l (4 * i + x) = bt := ⟨_, rfl⟩
    obtain ⟨r, hrr⟩ : ∃ r, F bt = r := ⟨_, rfl⟩
    have hok2 := cnN_ok v.n l i F hokF pre N HNO.out.1 HNO.out.2
    have c1 : W.cell? ⟨S, 0, none⟩ = some (.pointer (some ⟨U, 0, none⟩)) := by rw [cell_of_row _ _ _ _ _ _ hIp.box]; rfl
    have c2 : W.cell? ⟨U, 3, none⟩ = some (.map (some kb)) := by rw [cell_of_row _ _ _ _ _ _ ((hIp.be.block U hUL.1).trans hU.un)]; rfl
    have GM : Box (Mp W kb gk) := ⟨hU.mkn.same (hIp.be.block kb hUL.2.1)⟩
    have HLK : Box ((gk (bt : Int)).getD (.agg (ra zr)) = .agg (ra r)) := ⟨by rw [hF, hrr]⟩
    have hrr2 : OkR r := by rw [← hrr]; exact hokF _
    have HTH : Box (W.there Sn (x * 33) (ra r).size) := ⟨there_row hIp.nod (by rw [size_ra hrr2, size_na hok2.1 hok2.2]; omega)⟩
    have HSR : Box ((Tryz.prog.info? 36).map (·.size) = some (ra r).size) := ⟨by rw [size_ra hrr2]; exact infoR⟩
    have HFO : Box (KeepsFrom x4.heap.size W (W.setCells Sn (x * 33) (ra r).toList) ∧ Kps (belS Bv (Bv + 1) V sa) W (W.setCells Sn (x * 33) (ra r).toList) ∧ CtI w U S Sn (cnN v.n l i F N (pre ++ [⟨x, hx⟩])) (W.setCells Sn (x * 33) (ra r).toList)) := ⟨by
      have hk := HK.out
      obtain ⟨W', hW'⟩ : ∃ W', W.setCells Sn (x * 33) (ra r).toList = W' := ⟨_, rfl⟩
      have hb : But Sn W W' := by rw [← hW']; exact Disk.but_setCells Sn _ _ _ _ (But.refl _ _)
      have hlies : LiesN W' Sn 107 ((cnN v.n l i F N pre).set x r) := by rw [← hW']; exact LiesN.putRef hIp.nod hok2.1 x (by rw [hok2.2]; exact hx) hrr2
      rw [hW']
      refine ⟨⟨hb.size, fun k o hBk hk1 ho => (hb.block k (Array.getElem?_eq_some_iff.1 hk1).1 (by omega)).trans hk1⟩, ⟨hb.size, fun k hS cs t f e => (hb.block k (Array.getElem?_eq_some_iff.1 e).1 ?_).trans e⟩, below_but hIp.be hb (by omega), (hb.block S (by have := hIp.be.size; have := (Array.getElem?_eq_some_iff.1 hIp.box).1; omega) (by omega)).trans hIp.box, ?_⟩
      · rcases hS with rfl | rfl | rfl | ⟨ad, e1, rfl⟩
        · omega
        · omega
        · have := hUL.2.2.1; omega
        · have := hUL.2.2.2 ad e1; omega
      · rw [cnN_snoc]
        simp only [hbt, hrr]
        exact hlies⟩
    clear hIp hr hlp hlt hbel HI0 hC hU hl hi hF hokF hUL hok2 hrr2
    simp only [hbt]
    clear hbt hrr
    gi_wp2_with (first
      | (refine atLookIn 88 ?_; refine wpListIn_look rfl 88 (.tmp 38) (.tmp 39) rfl Tryz.underlying88 Tryz.underlying3 (.agg (ra zr)) zeroRef kb gk rfl GM.out bt rfl (.agg (ra r)) HLK.out ?_)
      | (refine atIdxIn 107 ?_; refine wpListIn_idxN rfl (.tmp 9) (.tmp 34) rfl Sn x rfl rfl HX4.out ?_)
      | (refine atStoreIn 36 ?_; refine Disk.wpListIn_put rfl 36 _ _ rfl Sn (x * 33) (ra r) rfl rfl HTH.out HSR.out (all_ra r) ?_))
    exact HFO.out
  case done =>
    rintro Dd ys W hD rfl hIp hK
    rename_i KK ax
    clear hbel HI0
    obtain ⟨N2, hN2⟩ : ∃ N2, cnN v.n l i F N (fr (chn v.n l i)) = N2 := ⟨_, rfl⟩
    have hok2 := cnN_ok v.n l i F HC.out.2.2.2.2.2 (fr (chn v.n l i)) N HNO.out.1 HNO.out.2
    rw [hN2] at hIp hok2
    have HN2 : Box (OkN N2 ∧ N2.length = 4) := ⟨hok2⟩
    have HNL : Box (LiesN W Sn 107 N2) := ⟨hIp.nod⟩
    have HIP : Box _ := ⟨hIp⟩
    have HKD : Box (W.heap[Dd]? = some (.deferred (some [])) ∧ x4.heap.size ≤ Dd) := ⟨hK, hD⟩
    have HE2 : Box _ := ⟨hN2⟩
    clear hIp hK hD hok2 hN2
    show KK _ _
    refine ax _ _ ?_
    clear ax
    go_wp2_with (first
      | (refine atLoad _ ?_; refine wpList_run rfl _ _ (exec_node Tryz.underlying107 infoN (.tmp 9) rfl Sn rfl N2 HN2.out.1 HN2.out.2 HNL.out) ?_)
      | (go_at_call 81; refine (tput_any N2 W HN2.out.1 HN2.out.2).mono ?_; rintro e x5 ⟨a, cap, rfl, hB, hc1, hc2, hb5⟩; have H5 : Box (Bytes x5 a 160 (Plain.nb N2) ∧ 160 ≤ cap ∧ cap ≤ maxLen ∧ Below W.heap.size W x5) := ⟨hB, hc1, hc2, hb5⟩; clear hB hc1 hc2 hb5))
    obtain ⟨hB, hc1, hc2, hb5⟩ := H5.out
    have hKD5 : x5.heap[Dd]? = some (.deferred (some [])) := (hb5.block Dd (Array.getElem?_eq_some_iff.1 HKD.out.1).1).trans HKD.out.1
    have hsw : w.heap.size ≤ x4.heap.size := h0x
    refine ret_mark Dd ?_ hKD5 (.slice a 160 cap) (results_T1 (t := 6) rfl _ _ _ (by rfl)) ?_
    · rfl
    refine ⟨a, cap, rfl, ?_, hc1, hc2, below_but (below_to HIP.out.be hb5) (but_putObj _ Dd _) (by have := HKD.out.2; omega)⟩
    rw [HE2.out]
    exact bytes_def hB hKD5
  case stop =>
    intro Dd c pre W hD hTp hF hK
    exact hF.elim
end Go.Proofs.YthbbijaikcmaeaaGreatDoor
