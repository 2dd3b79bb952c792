/-
  What the Go method toFront of package buffers leaves: the block at a place stands first, those ahead of it one place back.
-/
import Derived.Test.YthjfobcfdpogeaaBB
namespace Go.Proofs.Ythjfobcfdpogeaa
set_option linter.unusedVariables false
open Go.RowKit Plain

theorem exec_addE {o : Oper} {ρ : Operand → Value} {w' : World} (x y : Operand) (ty : TypeId) (ho : o.op = .binOp .add 3 x y ty) (a b v : Int) (e : a + b = v) (hv : -9223372036854775808 ≤ v ∧ v ≤ 9223372036854775807) (hx : ρ x = .int .i64 a) (hy : ρ y = .int .i64 b) :
    (execOp ρ o).run Try.prog w' = .ok (.value (.int .i64 v)) w' := by
  have hw : IntKind.i64.wrap (a + b) = v := by rw [IntKind.wrap_i64]; omega
  unfold execOp
  simp [ho, hx, hy, eqGuard, binOp, Op.intArith, hw]
theorem exec_idxK {op : Oper} {ρ : Operand → Value} {w' : World} (x y : Operand) (ho : op.op = .indexAddr 55 x y) (b len cap j : Nat) (hx : ρ x = .slice (some ⟨b, 0, none⟩) len cap) (hy : ρ y = .int .i64 (j : Int)) (hj : j < len) :
    (execOp ρ op).run Try.prog w' = .ok (.value (.pointer (some ⟨b, j * 3, none⟩))) w' := by
  have hc : (0 : Int) ≤ (j : Int) ∧ (j : Int) < (len : Int) := by omega
  have hs : (sizeOf 60).run Try.prog w' = .ok 3 w' := by kernel_rfl
  unfold execOp
  simp [ho, hx, hy, Instr.indexAt, asIntOf, Sem.run_bind, run_underlying Try.underlying55, hc, Addr.add_mid]
  intro hh; omega
/-- The place behind lo elements, in a row of so many. -/
def beh (cap lo : Nat) : Nat := if cap = lo then 0 else lo * 3
theorem sliceK_mid (g n cap lo hi : Nat) (h1 : lo ≤ hi) (hc : hi ≤ cap) (x : World) : (Instr.sliceAt 55 (.slice (some ⟨g, 0, none⟩) n cap) (some (.int .i64 (lo : Int))) (some (.int .i64 (hi : Int))) none).run Try.prog x = .ok (.slice (some ⟨g, beh cap lo, none⟩) (hi - lo) (cap - lo)) x := by
  have hu : Try.prog.underlying 55 = some (.slice (Try.prog.elem 55)) := by kernel_rfl
  rw [run_sliceAt_slice (P := Try.prog) x 55 _ _ _ _ hu, run_slice_lh (P := Try.prog) x 55 _ n cap hu .i64 .i64 (lo : Int) (hi : Int) (by omega) (by omega) (by omega)]
  have hs : (sizeOf (Try.prog.elem 55)).run Try.prog x = .ok 3 x := by kernel_rfl
  rw [hs, Result.andThen_ok, sliced, beh]
  by_cases e : cap = lo <;> simp [e, Addr.add_mid]
theorem sliceK_hi (g n cap i : Nat) (hc : i ≤ cap) (x : World) : (Instr.sliceAt 55 (.slice (some ⟨g, 0, none⟩) n cap) none (some (.int .i64 (i : Int))) none).run Try.prog x = .ok (.slice (some ⟨g, 0, none⟩) i cap) x := by
  have hu : Try.prog.underlying 55 = some (.slice (Try.prog.elem 55)) := by kernel_rfl
  rw [run_sliceAt_slice (P := Try.prog) x 55 _ _ _ _ hu, run_slice_h (P := Try.prog) x 55 _ n cap hu .i64 (i : Int) (by omega) (by omega)]
  have hs : (sizeOf (Try.prog.elem 55)).run Try.prog x = .ok 3 x := by kernel_rfl
  rw [hs, Result.andThen_ok, sliced]
  simp [Addr.add_mid]
theorem sliceK_lo (g n cap i : Nat) (hi : i ≤ n) (hc : n ≤ cap) (x : World) : (Instr.sliceAt 55 (.slice (some ⟨g, 0, none⟩) n cap) (some (.int .i64 (i : Int))) none none).run Try.prog x = .ok (.slice (some ⟨g, beh cap i, none⟩) (n - i) (cap - i)) x := by
  have hu : Try.prog.underlying 55 = some (.slice (Try.prog.elem 55)) := by kernel_rfl
  rw [run_sliceAt_slice (P := Try.prog) x 55 _ _ _ _ hu, run_slice_l (P := Try.prog) x 55 _ n cap hu .i64 (i : Int) (by omega) (by omega)]
  have hs : (sizeOf (Try.prog.elem 55)).run Try.prog x = .ok 3 x := by kernel_rfl
  rw [hs, Result.andThen_ok, sliced, beh]
  by_cases e : cap = i <;> simp [e, Addr.add_mid]
/-- All is read before anything is written. -/
theorem run_copyK (w : World) (ty : TypeId) (g o dLen dCap sLen sCap n : Nat) (a : Addr) (cs : List Value) (hn : Nat.min sLen dLen = n) (hl : cs.length = n * 3) (hsrc : ∀ j v, cs[j]? = some v → w.cell? (a.add j) = some v) (ht : w.there g o cs.length) (h1 : ∀ v ∈ cs, v.oneCell' = true) :
    (Builtin.copy_ #[55, 55] ty #[.slice (some ⟨g, o, none⟩) dLen dCap, .slice (some a) sLen sCap]).run Try.prog w = .ok (goInt n) (w.setCells g o cs) := by
  have hlc := run_loadCells_list (P := Try.prog) w a cs hsrc
  have hst := run_storeCells_cells (P := Try.prog) g o cs 0 w (fun j hj => by simpa using (ht j hj).1) (fun j hj => by simpa using (ht j hj).2) h1
  simp only [Nat.add_zero] at hst
  have hs : (Try.prog.info? 60).map (·.size) = some 3 := sizeK
  cases hq : Try.prog.info? 60 with
  | none => simp [hq] at hs
  | some i =>
    have hi : i.size = 3 := by simpa [hq] using hs
    simp [Builtin.copy_, run_underlying Try.underlying55, Builtin.lenOf, Builtin.firstCells, sizeOf, typeInfo, hq, hi, hn, ← hl, hlc, hst]
theorem wp_copyK {o : Oper} {a : Act} {w : World} {K : Act → World → Prop} {Q : Exit → Act → World → Prop} (d s : Operand) (ho : o.op = .call { callee := .builtin .copy, args := #[d, s], argTypes := #[55, 55] }) (g off dLen dCap sLen sCap n : Nat) (ad : Addr) (cs : List Value)
    (hd : a.eval d = .slice (some ⟨g, off, none⟩) dLen dCap) (hs : a.eval s = .slice (some ad) sLen sCap) (hn : Nat.min sLen dLen = n) (hl : cs.length = n * 3) (hsrc : ∀ j v, cs[j]? = some v → w.cell? (ad.add j) = some v) (ht : w.there g off cs.length) (h1 : ∀ v ∈ cs, v.oneCell' = true)
    (h : K (a.put o.dst (goInt n)) (w.setCells g off cs)) : Oper.wp Try.prog o a w K Q := by
  have hr := run_copyK w o.type g off dLen dCap sLen sCap n ad cs hn hl hsrc ht h1
  unfold Oper.wp execOp
  simp only [ho, resolve, invoke, builtin, Sem.run_bind, Sem.run_pure, Result.andThen_ok, List.map_toArray, List.map_cons, List.map_nil, hd, hs, hr]
  exact h
theorem splice_cons {α : Type} (L r : List α) (v : α) (o : Nat) (h : o < L.length) : splice (L.set o v) (o + 1) r = splice L o (v :: r) := by
  unfold splice
  have e1 : (L.set o v).take (o + 1) = L.take o ++ [v] := by
    rw [List.take_add_one, List.take_set_of_le (Nat.le_refl _)]
    simp [h]
  have e2 : (L.set o v).drop (o + 1 + r.length) = L.drop (o + (v :: r).length) := by
    rw [List.drop_set_of_lt (by omega)]
    simp only [List.length_cons]
    congr 1
    omega
  rw [e1, e2]
  simp
theorem splice_nil0 {α : Type} (L : List α) (o : Nat) : splice L o [] = L := by simp [splice]
theorem heap_setCells (b : Nat) (t : TypeId) : ∀ (vs : List Value) (o : Nat) (w : World) (cs : Array Value), w.heap[b]? = some (.cells cs t (0, 0)) → o + vs.length ≤ cs.size → (w.setCells b o vs).heap[b]? = some (.cells (splice cs.toList o vs).toArray t (0, 0))
  | [], o, w, cs, hg, hf => by
    rw [splice_nil0]
    simpa [World.setCells] using hg
  | v :: r, o, w, cs, hg, hf => by
    rw [World.setCells]
    have h1 := heap_setCell_same w b o cs t v hg
    have hl : o < cs.size := by simp only [List.length_cons] at hf; omega
    rw [heap_setCells b t r (o + 1) _ _ h1 (by simp only [List.length_cons] at hf; simp; omega)]
    rw [Array.toList_setIfInBounds, splice_cons _ _ _ _ (by simpa using hl)]
theorem but_cell {G : Nat} {w w' : World} (h : But G w w') {a : Addr} {v : Value} (hc : w.cell? a = some v) (hn : a.block ≠ G) : w'.cell? a = some v :=
  (World.cell?_of_block (h.block a.block (World.block_lt_of_cell? w a hc) hn)).trans hc
theorem but_range {G : Nat} {w w' : World} (h : But G w w') {b o : Nat} {cs : List Value} (hc : w.rangeAt b o cs) (hn : b ≠ G) : w'.rangeAt b o cs := fun j v hv => but_cell h (hc j v hv) hn
theorem range_below {B : Nat} {w w' : World} {b o : Nat} {cs : List Value} (h : w.rangeAt b o cs) (hb : Below B w w') (hlt : b < B) : w'.rangeAt b o cs := fun j v hv => (hb.cell (p := ⟨b, o + j, none⟩) hlt).trans (h j v hv)
theorem fr_but {B g : Nat} {w w1 w2 : World} (h : Fr B w w1) (hb : But g w1 w2) (hB : B ≤ g) (hk : g < w.heap.size → CK w g) : Fr B w w2 :=
  ⟨hb.os.trans h.os, hb.tape.trans h.tape, hb.output.trans h.output, Nat.le_trans h.size hb.size, fun j hj hn => by
    rw [hb.block j (Nat.lt_of_lt_of_le hj h.size) (fun e => ?_), h.block j hj hn]
    subst e
    rcases hn with hn | hn
    · omega
    · exact hn (hk hj)⟩
theorem front_cells (X Y : List Value) (cur : List Value) (Z T : List Value) (i : Nat) (hX : X.length = 3 * i) (hY : Y.length = 3) (hc : cur = X ++ Y ++ Z ++ T) (o : Nat) (ho : 0 < i → o = 3) : splice (splice cur o X) 0 Y = Y ++ X ++ Z ++ T := by
  subst hc
  by_cases h0 : i = 0
  · subst h0
    obtain rfl : X = [] := List.eq_nil_of_length_eq_zero (by omega)
    rw [splice_nil0]
    simp [splice]
  · obtain rfl := ho (by omega)
    have e1 : splice (X ++ Y ++ Z ++ T) 3 X = (X ++ Y ++ Z ++ T).take 3 ++ (X ++ (Z ++ T)) := by
      unfold splice
      congr 2
      rw [show X ++ Y ++ Z ++ T = (X ++ Y) ++ (Z ++ T) by simp, List.drop_left' (by simp; omega)]
    rw [e1]
    unfold splice
    rw [List.take_zero, List.nil_append, Nat.zero_add, hY, List.drop_left' (by simp; omega)]
    simp
/-- The row's block, where there is one that stands in it. -/
theorem Row.blk {w : World} {rv : Value} {L : List Kp} (h : Row w rv L) (h0 : 0 < L.length) : ∃ g cap cur, rv = .slice (some ⟨g, 0, none⟩) L.length cap ∧ w.heap[g]? = some (.cells cur 60 (0, 0)) ∧ L.length ≤ cap ∧ cap ≤ maxLen ∧ cur.size = cap * 3 ∧ cur.toList.take (L.length * 3) = kcs L := by
  rcases h.2 with ⟨h1, h2⟩ | ⟨g, cap', cur, h1, hb, hg, rest⟩
  · omega
  · exact ⟨g, cap', cur, h1, hg, rest⟩
theorem Ca.fronted {w w3 : World} {B C g cap : Nat} {n : Int} {L : List Kp} {cur : Array Value} (h : Ca w B C n (.slice (some ⟨g, 0, none⟩) L.length cap) L) (hc : L.length ≤ cap) (hm : cap ≤ maxLen) (hs : cur.size = cap * 3) (htk : cur.toList.take (L.length * 3) = kcs L)
    (i : Nat) (hi : i < L.length) (o : Nat) (ho : 0 < i → o = 3) (hC : w3.heap[C]? = w.heap[C]?) (hg : w3.heap[g]? = some (.cells (splice (splice cur.toList o (kcs (L.take i))) 0 (kc L[i])).toArray 60 (0, 0))) : Ca w3 B C n (.slice (some ⟨g, 0, none⟩) L.length cap) (fro L i hi) := by
  have e1 : cur.toList = kcs (L.take i) ++ kc L[i] ++ kcs (L.drop (i + 1)) ++ cur.toList.drop (L.length * 3) := by
    rw [← kcs_one, ← kcs_app, ← kcs_app, List.take_append_getElem hi, List.take_append_drop, ← htk, List.take_append_drop]
  have e2 := front_cells (kcs (L.take i)) (kc L[i]) cur.toList (kcs (L.drop (i + 1))) (cur.toList.drop (L.length * 3)) i (by rw [length_kcs, List.length_take]; omega) (length_kc _) e1 o ho
  have e3 : kc L[i] ++ kcs (L.take i) ++ kcs (L.drop (i + 1)) = kcs (fro L i hi) := by
    rw [fro, kcs_cons, List.eraseIdx_eq_take_drop_succ, kcs_app, List.append_assoc]
  rw [e3] at e2
  have hl : (fro L i hi).length = L.length := length_fro
  refine ⟨hC.trans h.hd, ⟨length_kcs _, .inr ⟨g, cap, _, by rw [hl], Nat.zero_le _, hg, by rw [hl]; exact hc, hm, ?_, ?_⟩⟩, fun x hx => h.u x (mem_fro hx), h.hC, h.hR, by rw [hl]; exact h.len⟩
  · have hcl : cur.toList.length = cap * 3 := by rw [Array.length_toList, hs]
    rw [e2, List.size_toArray, List.length_append, length_kcs, hl, List.length_drop, hcl]
    have := Nat.mul_le_mul_right 3 hc
    omega
  · rw [e2, List.toList_toArray, List.take_left' (length_kcs _)]
set_option maxRecDepth 20000 in
set_option maxHeartbeats 2000000 in
theorem front_any (w : World) (B C : Nat) (n : Int) (rv : Value) (L : List Kp) (h : Ca w B C n rv L) (i : Nat) (hi : i < L.length) :
    Calls Try.prog 25 #[.pointer (some ⟨C, 0, none⟩), .int .i64 (i : Int)] w fun e w' => e = .returned (.tuple #[]) ∧ Ca w' B C n rv (fro L i hi) ∧ Fr B w w' := by
  obtain ⟨g, cap, cur, rfl, hg, hc, hm, hs, htk⟩ := h.row.blk (by omega)
  obtain ⟨-, c1, -⟩ := h.cells
  have hlen := h.len
  have hneC : C ≠ g := fun e => h.ne (by rw [e]; rfl)
  have hgl : g < w.heap.size := (Array.getElem?_eq_some_iff.1 hg).1
  have hCl := h.lt
  have hrow : w.rangeAt g (i * 3) (kc L[i]) := by
    obtain ⟨g', e, _, hr⟩ := h.row.ways (by omega)
    simp only [Option.some.injEq, Addr.mk.injEq, and_true] at e
    subst e
    exact hr i hi
  obtain ⟨S, hS0⟩ : ∃ S, w.heap.size = S := ⟨_, rfl⟩
  have hsz : ((w.alloc (.cells #[.int .u64 0, .slice none 0 0, .int .u64 0] 60)).setCells S 0 (kc L[i]).toArray.toList).heap.size = S + 1 := by simp [World.setCells, kc, hS0]
  have hal : (w.alloc (.cells #[.int .u64 0, .slice none 0 0, .int .u64 0] 60)).heap[S]? = some (.cells #[.int .u64 0, .slice none 0 0, .int .u64 0] 60 (0, 0)) := al_at hS0
  have HT : Box ((w.alloc (.cells #[.int .u64 0, .slice none 0 0, .int .u64 0] 60)).there S 0 (kc L[i]).toArray.size) := ⟨there_row hal (Nat.le_refl _)⟩
  have HB1 : Box (Below w.heap.size w ((w.alloc (.cells #[.int .u64 0, .slice none 0 0, .int .u64 0] 60)).setCells S 0 (kc L[i]).toArray.toList) ∧ ((w.alloc (.cells #[.int .u64 0, .slice none 0 0, .int .u64 0] 60)).setCells S 0 (kc L[i]).toArray.toList).rangeAt S 0 (kc L[i])) := ⟨by
    have hb0 : Below w.heap.size w (w.alloc (.cells #[.int .u64 0, .slice none 0 0, .int .u64 0] 60)) := (Below.refl _ _).alloc (Nat.le_refl _) _
    have hbt : But S _ _ := But.setCells (G := S) (kc L[i]).toArray.toList 0 (But.refl S (w.alloc (.cells #[.int .u64 0, .slice none 0 0, .int .u64 0] 60)))
    refine ⟨hb0.trans (hbt.below (by omega) (by simp)), ?_⟩
    have hr := heap_setCells S _ (kc L[i]).toArray.toList 0 _ _ hal (by simp [kc])
    exact range_arr hr _ (fun j v hv => by simpa [splice, kc] using hv)⟩
  have Hr : Box (w.rangeAt g (i * 3) (kc L[i])) := ⟨hrow⟩
  have HL : Box (Ca w B C n (.slice (some ⟨g, 0, none⟩) L.length cap) L ∧ w.heap[g]? = some (.cells cur 60 (0, 0)) ∧ cur.size = cap * 3 ∧ cur.toList.take (L.length * 3) = kcs L) := ⟨h, hg, hs, htk⟩
  obtain ⟨x0, hx0⟩ : ∃ x0, L[i] = x0 := ⟨_, rfl⟩
  obtain ⟨N, hN⟩ : ∃ N, L.length = N := ⟨_, rfl⟩
  obtain ⟨X, hX⟩ : ∃ X, kcs (L.take i) = X := ⟨_, rfl⟩
  have HX : Box (X.length = i * 3 ∧ ∀ v ∈ X, v.oneCell' = true) := ⟨by rw [← hX, length_kcs, List.length_take]; omega, by rw [← hX]; exact one_kcs _⟩
  have HBo : Box (0 < i → beh cap 1 = 3) := ⟨fun h0 => by simp [beh]; omega⟩
  have HE : Box (L[i] = x0 ∧ L.length = N ∧ kcs (L.take i) = X ∧ C ≠ g ∧ g < w.heap.size ∧ C < w.heap.size ∧ w.heap.size = S) := ⟨hx0, hN, hX, hneC, hgl, hCl, hS0⟩
  rw [hx0] at HT HB1 Hr hsz
  rw [hN] at c1
  have hi' : i < N := by omega
  have hcap : N ≤ cap := by omega
  have hcm : cap ≤ 9223372036854775807 := hm
  have hN2 : N < 1000000 := by omega
  have hi2 : i < 1000000 := by omega
  clear hg hs htk h hrow hX hx0 hN hneC hgl hCl hal hc hm hlen
  go_enter Try.func25, Try.ntmps25
  go_upto_region 1 with (first
    | (refine atAlloc _ ?_; refine wpList_run rfl _ _ (exec_alloc 60 rfl _ zeroK) ?_)
    | (refine atStore _ ?_; simp only [hS0]; refine wpList_store_mid rfl 60 _ _ rfl S 0 (kc x0).toArray rfl rfl HT.out sizeK (by simp [kc, Value.oneCell']) ?_)
    | (refine atLoad _ ?_; refine wpList_load_mid rfl 60 _ rfl g (i * 3) rfl (kc x0) _ Hr.out Try.underlying60 rfl sizeK ?_))
  (try simp only [hS0])
  clear HT hS0
  generalize (w.alloc (.cells #[.int .u64 0, .slice none 0 0, .int .u64 0] 60)).setCells S 0 (kc x0).toArray.toList = w1 at HB1 hsz ⊢
  have H1 : Box (∀ x, Below w1.heap.size w1 x → x.cell? ⟨C, 1, none⟩ = some (.slice (some ⟨g, 0, none⟩) N cap)) := ⟨fun x hx => ((below_to HB1.out.1 hx).cell (p := ⟨C, 1, none⟩) HE.out.2.2.2.2.2.1).trans c1⟩
  have hgx : ∀ x, Below w1.heap.size w1 x → x.heap[g]? = some (.cells cur 60 (0, 0)) := fun x hx => ((below_to HB1.out.1 hx).block g HE.out.2.2.2.2.1).trans HL.out.2.1
  have H2 : Box (∀ x, Below w1.heap.size w1 x → ∀ j v, X[j]? = some v → x.cell? ((⟨g, 0, none⟩ : Addr).add j) = some v) := ⟨fun x hx j v hv => by
    rw [Addr.add_lit, Nat.zero_add, cell_of_row _ _ _ _ _ _ (hgx x hx), ← Array.getElem?_toList]
    have hj := (List.getElem?_eq_some_iff.1 hv).1
    have e := HE.out
    rw [HX.out.1] at hj
    have h3 : (kcs L)[j]? = some v := by
      rw [← e.2.2.1, ← kcs_take L i (by omega), List.getElem?_take, if_pos hj] at hv
      exact hv
    rw [← HL.out.2.2.2, List.getElem?_take, if_pos (by have := Nat.mul_le_mul_right 3 (Nat.le_of_lt hi'); have := e.2.1; omega)] at h3
    exact h3⟩
  have hfit : beh cap 1 + X.length ≤ cur.size := by
    have e1 := HX.out.1
    have e2 := HL.out.2.2.1
    rw [e1, e2]
    unfold beh
    split <;> omega
  have H3 : Box (∀ x, Below w1.heap.size w1 x → x.there g (beh cap 1) X.length) := ⟨fun x hx => there_row (hgx x hx) hfit⟩
  have H4 : Box (∀ x, Below w1.heap.size w1 x → (x.setCells g (beh cap 1) X).cell? ⟨C, 1, none⟩ = some (.slice (some ⟨g, 0, none⟩) N cap)) := ⟨fun x hx => but_cell (But.setCells (G := g) X _ (But.refl g x)) (H1.out x hx) HE.out.2.2.2.1⟩
  have H6 : Box (∀ x, Below w1.heap.size w1 x → (∀ y, Below (x.setCells g (beh cap 1) X).heap.size (x.setCells g (beh cap 1) X) y → y.cell? ⟨C, 1, none⟩ = some (.slice (some ⟨g, 0, none⟩) N cap) ∧ y.rangeAt S 0 (kc x0)) ∧ (∀ y, Below (x.setCells g (beh cap 1) X).heap.size (x.setCells g (beh cap 1) X) y → y.there g (0 * 3) (kc x0).toArray.size) ∧ ∀ y, Below (x.setCells g (beh cap 1) X).heap.size (x.setCells g (beh cap 1) X) y → ((y.setCells g (0 * 3) (kc x0).toArray.toList).cell? ⟨C, 1, none⟩ = some (.slice (some ⟨g, 0, none⟩) N cap) ∧ (y.setCells g (0 * 3) (kc x0).toArray.toList).rangeAt S 0 (kc x0)) ∧ ∃ hi : i < L.length, Ca (y.setCells g (0 * 3) (kc x0).toArray.toList) B C n (.slice (some ⟨g, 0, none⟩) N cap) (fro L i hi) ∧ Fr B w (y.setCells g (0 * 3) (kc x0).toArray.toList)) := ⟨fun x hx => by
    obtain ⟨e1, e2, e3, e4, e5, e6, e7⟩ := HE.out
    have hbx := below_to HB1.out.1 hx
    have hbt : But g x (x.setCells g (beh cap 1) X) := But.setCells (G := g) X _ (But.refl g x)
    have hr2 := heap_setCells g _ X (beh cap 1) x cur (hgx x hx) hfit
    have hsx : S < x.heap.size := by have := hx.size; omega
    have hSr : (x.setCells g (beh cap 1) X).rangeAt S 0 (kc x0) := but_range hbt (range_below HB1.out.2 hx (by omega)) (by omega)
    have hsz2 : x.heap.size ≤ (x.setCells g (beh cap 1) X).heap.size := hbt.size
    have k1 : ∀ y, Below (x.setCells g (beh cap 1) X).heap.size (x.setCells g (beh cap 1) X) y → y.cell? ⟨C, 1, none⟩ = some (.slice (some ⟨g, 0, none⟩) N cap) ∧ y.rangeAt S 0 (kc x0) := fun y hy => ⟨(hy.cell (p := ⟨C, 1, none⟩) (by have := hbx.size; show C < _; omega)).trans (H4.out x hx), range_below hSr hy (by omega)⟩
    have k2 : ∀ y, Below (x.setCells g (beh cap 1) X).heap.size (x.setCells g (beh cap 1) X) y → y.heap[g]? = some (.cells (splice cur.toList (beh cap 1) X).toArray 60 (0, 0)) := fun y hy => (hy.block g (by have := hbx.size; omega)).trans hr2
    have hl2 : (splice cur.toList (beh cap 1) X).length = cap * 3 := by
      have := HL.out.2.2.1
      simp only [splice, List.length_append, List.length_take, List.length_drop, Array.length_toList]
      omega
    have hfit2 : 0 * 3 + (kc x0).toArray.toList.length ≤ (splice cur.toList (beh cap 1) X).toArray.size := by
      rw [List.size_toArray, hl2]
      simp [kc]
      omega
    refine ⟨k1, fun y hy => there_row (k2 y hy) (by simpa using hfit2), fun y hy => ?_⟩
    have hbt2 : But g y (y.setCells g (0 * 3) (kc x0).toArray.toList) := But.setCells (G := g) _ _ (But.refl g y)
    have hr3 := heap_setCells g _ (kc x0).toArray.toList (0 * 3) y _ (k2 y hy) hfit2
    refine ⟨⟨but_cell hbt2 (k1 y hy).1 e4, but_range hbt2 (k1 y hy).2 (by omega)⟩, by omega, ?_, ?_⟩
    · have hC3 : (y.setCells g (0 * 3) (kc x0).toArray.toList).heap[C]? = w.heap[C]? := by
        rw [hbt2.block C (by have := hbx.size; have := hy.size; omega) e4, hy.block C (by have := hbx.size; omega), hbt.block C (by have := hbx.size; omega) e4, hbx.block C e6]
      have := HL.out.1.fronted (w3 := y.setCells g (0 * 3) (kc x0).toArray.toList) (by omega) hcm HL.out.2.2.1 HL.out.2.2.2 i (by omega) (beh cap 1) HBo.out hC3 (by rw [e3, e1]; simpa using hr3)
      rw [e2] at this
      exact this
    · have hB := HL.out.1.hR g rfl
      have hck : CK w g := HL.out.1.ckr rfl
      exact fr_but ((fr_but (Fr.of_below hbx) hbt hB (fun _ => hck)).trans (Fr.of_below hy)) hbt2 hB (fun _ => hck)⟩
  clear hgx hfit HB1 Hr HL HBo hsz
  refine begin_keep (S := fun x => x.cell? ⟨C, 1, none⟩ = some (.slice (some ⟨g, 0, none⟩) N cap)) (by kernel_rfl) (fun wd hwd => ?_)
  have hbd : Below w1.heap.size w1 wd := by rw [hwd]; exact (Below.refl _ _).drew
  clear hwd
  have hS := H1.out wd hbd
  refine take_s (i := 0) (v := ?_) rfl (by kernel_rfl) (by kernel_rfl) (by kernel_rfl) (fun _ _ _ h => h) (by rfl) ?_ hS ?_
  rotate_left
  · intro w' hLat; clear hLat; go_simp <;> with_reducible rfl
  try simp only [Act.put, List.setIfInBounds_toArray, List.set_cons_zero, List.set_cons_succ, List.getElem_toArray, List.getElem_cons_zero]
  refine take_s (i := 1) (v := ?_) rfl (by kernel_rfl) (by kernel_rfl) (by kernel_rfl) (fun _ _ _ h => h) (by rfl) ?_ hS ?_
  rotate_left
  · intro w' hLat; clear hLat; go_simp <;> with_reducible rfl
  try simp only [Act.put, List.setIfInBounds_toArray, List.set_cons_zero, List.set_cons_succ, List.getElem_toArray, List.getElem_cons_zero, List.getElem_cons_succ]
  refine take_s (i := 2) (v := ?_) rfl (by kernel_rfl) (by kernel_rfl) (by kernel_rfl) (fun _ _ _ h => h) (by rfl) ?_ hS ?_
  rotate_left
  · intro w' hLat; clear hLat; go_simp <;> with_reducible rfl
  try simp only [Act.put, List.setIfInBounds_toArray, List.set_cons_zero, List.set_cons_succ, List.getElem_toArray, List.getElem_cons_zero, List.getElem_cons_succ]
  refine take_s (i := 3) (v := .slice (some ⟨g, 0, none⟩) N cap) rfl (by kernel_rfl) (by kernel_rfl) (by kernel_rfl) (fun _ _ _ h => h) (by rfl) (fun w' hLat => exec_load1 55 _ _ rfl Try.underlying55 rfl _ rfl _ hLat) hS ?_
  try simp only [Act.put, List.setIfInBounds_toArray, List.set_cons_zero, List.set_cons_succ, List.getElem_toArray, List.getElem_cons_zero, List.getElem_cons_succ]
  refine take_s (i := 4) (v := ?_) rfl (by kernel_rfl) (by kernel_rfl) (by kernel_rfl) (fun _ _ _ h => h) (by rfl) ?_ hS ?_
  rotate_left
  · intro w' hLat; clear hLat; go_simp <;> with_reducible rfl
  try simp only [Act.put, List.setIfInBounds_toArray, List.set_cons_zero, List.set_cons_succ, List.getElem_toArray, List.getElem_cons_zero, List.getElem_cons_succ]
  refine take_s (i := 5) (v := .int .i64 ((i + 1 : Nat) : Int)) rfl (by kernel_rfl) (by kernel_rfl) (by kernel_rfl) (fun _ _ _ h => h) (by rfl) (fun w' hLat => exec_addE _ _ _ rfl (i : Int) 1 _ (by simp) (by omega) rfl rfl) hS ?_
  try simp only [Act.put, List.setIfInBounds_toArray, List.set_cons_zero, List.set_cons_succ, List.getElem_toArray, List.getElem_cons_zero, List.getElem_cons_succ]
  refine take_s (i := 6) (v := .slice (some ⟨g, beh cap 1, none⟩) (i + 1 - 1) (cap - 1)) rfl (by kernel_rfl) (by kernel_rfl) (by kernel_rfl) (fun _ _ _ h => h) (by rfl) (fun w' hLat => exec_slice 55 _ _ _ rfl _ (sliceK_mid g N cap 1 (i + 1) (by omega) (by omega) _)) hS ?_
  try simp only [Act.put, List.setIfInBounds_toArray, List.set_cons_zero, List.set_cons_succ, List.getElem_toArray, List.getElem_cons_zero, List.getElem_cons_succ]
  refine take_s (i := 7) (v := ?_) rfl (by kernel_rfl) (by kernel_rfl) (by kernel_rfl) (fun _ _ _ h => h) (by rfl) ?_ hS ?_
  rotate_left
  · intro w' hLat; clear hLat; go_simp <;> with_reducible rfl
  try simp only [Act.put, List.setIfInBounds_toArray, List.set_cons_zero, List.set_cons_succ, List.getElem_toArray, List.getElem_cons_zero, List.getElem_cons_succ]
  refine take_s (i := 8) (v := ?_) rfl (by kernel_rfl) (by kernel_rfl) (by kernel_rfl) (fun _ _ _ h => h) (by rfl) ?_ hS ?_
  rotate_left
  · intro w' hLat; clear hLat; go_simp <;> with_reducible rfl
  try simp only [Act.put, List.setIfInBounds_toArray, List.set_cons_zero, List.set_cons_succ, List.getElem_toArray, List.getElem_cons_zero, List.getElem_cons_succ]
  refine take_s (i := 9) (v := ?_) rfl (by kernel_rfl) (by kernel_rfl) (by kernel_rfl) (fun _ _ _ h => h) (by rfl) ?_ hS ?_
  rotate_left
  · intro w' hLat; clear hLat; go_simp <;> with_reducible rfl
  try simp only [Act.put, List.setIfInBounds_toArray, List.set_cons_zero, List.set_cons_succ, List.getElem_toArray, List.getElem_cons_zero, List.getElem_cons_succ]
  refine take_s (i := 10) (v := .slice (some ⟨g, 0, none⟩) N cap) rfl (by kernel_rfl) (by kernel_rfl) (by kernel_rfl) (fun _ _ _ h => h) (by rfl) (fun w' hLat => exec_load1 55 _ _ rfl Try.underlying55 rfl _ rfl _ hLat) hS ?_
  try simp only [Act.put, List.setIfInBounds_toArray, List.set_cons_zero, List.set_cons_succ, List.getElem_toArray, List.getElem_cons_zero, List.getElem_cons_succ]
  refine take_s (i := 11) (v := ?_) rfl (by kernel_rfl) (by kernel_rfl) (by kernel_rfl) (fun _ _ _ h => h) (by rfl) ?_ hS ?_
  rotate_left
  · intro w' hLat; clear hLat; go_simp <;> with_reducible rfl
  try simp only [Act.put, List.setIfInBounds_toArray, List.set_cons_zero, List.set_cons_succ, List.getElem_toArray, List.getElem_cons_zero, List.getElem_cons_succ]
  refine take_s (i := 12) (v := .slice (some ⟨g, 0, none⟩) i cap) rfl (by kernel_rfl) (by kernel_rfl) (by kernel_rfl) (fun _ _ _ h => h) (by rfl) (fun w' hLat => exec_slice 55 (.tmp 22) none (some (.tmp 23)) rfl _ (sliceK_hi g N cap i (by omega) _)) hS ?_
  try simp only [Act.put, List.setIfInBounds_toArray, List.set_cons_zero, List.set_cons_succ, List.getElem_toArray, List.getElem_cons_zero, List.getElem_cons_succ]
  refine one_keep (i := 13) (by kernel_rfl) ?_
  refine keep_step rfl (by rfl) ?_
  refine wp_copyK (.tmp 18) (.tmp 24) rfl g (beh cap 1) (i + 1 - 1) (cap - 1) i cap i ⟨g, 0, none⟩ X rfl rfl (by simp only [Nat.min_def]; split <;> omega) (by rw [HX.out.1]) (H2.out wd hbd) (H3.out wd hbd) HX.out.2 ?_
  have hS := H4.out wd hbd
  have H5 : Box _ := ⟨H6.out wd hbd⟩
  generalize wd.setCells g (beh cap 1) X = w2 at H5 hS ⊢
  refine ⟨hS, ?_⟩
  try simp only [Act.put, List.setIfInBounds_toArray, List.set_cons_zero, List.set_cons_succ, List.getElem_toArray, List.getElem_cons_zero, List.getElem_cons_succ]
  refine wpAnyH_done (by kernel_rfl) ?_ _
  clear H1 H2 H3 H4 H6 hbd
  go_upto_region 2 with fail
  refine begin_keep (S := fun x => x.cell? ⟨C, 1, none⟩ = some (.slice (some ⟨g, 0, none⟩) N cap) ∧ x.rangeAt S 0 (kc x0)) (by kernel_rfl) (fun wd hwd => ?_)
  have hbd : Below w2.heap.size w2 wd := by rw [hwd]; exact (Below.refl _ _).drew
  clear hwd
  have hS := H5.out.1 wd hbd
  refine take_s (i := 0) (v := ?_) rfl (by kernel_rfl) (by kernel_rfl) (by kernel_rfl) (fun _ _ _ h => h) (by rfl) ?_ hS ?_
  rotate_left
  · intro w' hLat; clear hLat; go_simp <;> with_reducible rfl
  try simp only [Act.put, List.setIfInBounds_toArray, List.set_cons_zero, List.set_cons_succ, List.getElem_toArray, List.getElem_cons_zero]
  refine take_s (i := 1) (v := ?_) rfl (by kernel_rfl) (by kernel_rfl) (by kernel_rfl) (fun _ _ _ h => h) (by rfl) ?_ hS ?_
  rotate_left
  · intro w' hLat; clear hLat; go_simp <;> with_reducible rfl
  try simp only [Act.put, List.setIfInBounds_toArray, List.set_cons_zero, List.set_cons_succ, List.getElem_toArray, List.getElem_cons_zero, List.getElem_cons_succ]
  refine take_s (i := 2) (v := ?_) rfl (by kernel_rfl) (by kernel_rfl) (by kernel_rfl) (fun _ _ _ h => h) (by rfl) ?_ hS ?_
  rotate_left
  · intro w' hLat; clear hLat; go_simp <;> with_reducible rfl
  try simp only [Act.put, List.setIfInBounds_toArray, List.set_cons_zero, List.set_cons_succ, List.getElem_toArray, List.getElem_cons_zero, List.getElem_cons_succ]
  refine take_s (i := 3) (v := .slice (some ⟨g, 0, none⟩) N cap) rfl (by kernel_rfl) (by kernel_rfl) (by kernel_rfl) (fun _ _ _ h => h) (by rfl) (fun w' hLat => exec_load1 55 _ _ rfl Try.underlying55 rfl _ rfl _ hLat.1) hS ?_
  try simp only [Act.put, List.setIfInBounds_toArray, List.set_cons_zero, List.set_cons_succ, List.getElem_toArray, List.getElem_cons_zero, List.getElem_cons_succ]
  refine take_s (i := 4) (v := .agg (kc x0).toArray) rfl (by kernel_rfl) (by kernel_rfl) (by kernel_rfl) (fun _ _ _ h => h) (by rfl) (fun w' hLat => exec_load_mid 60 _ _ rfl Try.underlying60 rfl _ _ rfl _ sizeK hLat.2) hS ?_
  try simp only [Act.put, List.setIfInBounds_toArray, List.set_cons_zero, List.set_cons_succ, List.getElem_toArray, List.getElem_cons_zero, List.getElem_cons_succ]
  refine take_s (i := 5) (v := .pointer (some ⟨g, 0 * 3, none⟩)) rfl (by kernel_rfl) (by kernel_rfl) (by kernel_rfl) (fun _ _ _ h => h) (by rfl) (fun w' hLat => exec_idxK _ _ rfl g N cap 0 rfl rfl (by omega)) hS ?_
  try simp only [Act.put, List.setIfInBounds_toArray, List.set_cons_zero, List.set_cons_succ, List.getElem_toArray, List.getElem_cons_zero, List.getElem_cons_succ]
  refine one_keep (i := 6) (by kernel_rfl) ?_
  refine keep_step rfl (by rfl) ?_
  refine wp_store_mid 60 (.tmp 31) (.tmp 30) rfl g (0 * 3) (kc x0).toArray rfl rfl (H5.out.2.1 wd hbd) sizeK (by simp [kc, Value.oneCell']) ?_
  have H7 : Box _ := ⟨H5.out.2.2 wd hbd⟩
  have hS := H7.out.1
  generalize wd.setCells g (0 * 3) (kc x0).toArray.toList = w3 at H7 hS ⊢
  refine ⟨hS, ?_⟩
  try simp only [Act.put, List.getElem_toArray, List.getElem_cons_zero, List.getElem_cons_succ]
  refine wpAnyH_done (by kernel_rfl) ?_ _
  go_end0
  obtain ⟨hi3, h1, h2⟩ := H7.out.2
  exact ⟨rfl, by rw [HE.out.2.1]; exact h1, h2⟩
end Go.Proofs.Ythjfobcfdpogeaa
