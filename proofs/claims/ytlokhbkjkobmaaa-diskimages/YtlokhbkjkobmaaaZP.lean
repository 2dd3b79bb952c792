/-
  The reference of layer 6: its disk as a value, in a box of its own; noted, fits, At, New.
-/
import Derived.Test.YtlokhbkjkobmaaaZO
import Derived.Laws.ResultCell
import Derived.Laws.Tables
namespace Go.Proofs.Ytlokhbkjkobmaaa
set_option linter.unusedVariables false
open Go.RowKit Plain

/-- The six cells of the reference's disk. -/
def rv (n : Nat) (vd vw : Value) (l : Int) (b : Bool) (vo : Value) : List Value := [.int .i64 (n : Int), vd, vw, .int .i64 l, .bool b, vo]
def Rv (w : World) (v : Value) (r : Rd) : Prop := ∃ vd vw vo, v = .agg (rv r.n vd vw r.left r.down vo).toArray ∧ Rw w vd r.done ∧ Rw w vw r.way ∧ Ro w vo r.ops
theorem Rv.below {w w' : World} {v : Value} {r : Rd} (h : Rv w v r) (hb : Below w.heap.size w w') : Rv w' v r := by
  obtain ⟨vd, vw, vo, rfl, h1, h2, h3⟩ := h
  exact ⟨vd, vw, vo, rfl, h1.below hb, h2.below hb, h3.below hb⟩
theorem one_own {w : World} {base n : Nat} {e : TypeId} {sz : Nat} {v : Value} {xs : List Value} (h : w.ownsRow base e sz v n xs) : v.oneCell' = true := by
  obtain ⟨a, c, rfl⟩ := own_form2 h
  rfl
theorem one_rv {n : Nat} {vd vw vo : Value} {l : Int} {b : Bool} (h1 : vd.oneCell' = true) (h2 : vw.oneCell' = true) (h3 : vo.oneCell' = true) : (rv n vd vw l b vo).toArray.all (·.oneCell') = true := by
  have e1 : (Value.int .i64 (n : Int)).oneCell' = true := rfl
  have e2 : (Value.int .i64 l).oneCell' = true := rfl
  have e3 : (Value.bool b).oneCell' = true := rfl
  simp [rv, h1, h2, h3, e1, e2, e3]
theorem infoD : (Try.prog.info? 31).map (·.size) = some 6 := by kernel_rfl
/-- A row that lies apart from what has turned. -/
theorem own_turned {w w' : World} {base n : Nat} {e : TypeId} {sz : Nat} {v : Value} {xs : List Value} {fp : Nat → Prop} (h : w.ownsRow base e sz v n xs) (t : Turned fp w w') (hn : ∀ k, v.ownBlock = some k → ¬ fp k) : w'.ownsRow base e sz v n xs := own_same h (fun k hk => t.block k (h.lt k hk).2 (hn k hk))
def Two (S : Nat) (k : Nat) : Prop := k = S ∨ k = S + 1
/-- A disk in its box (block S), and the block of the answer beside it. -/
structure Bx (S : Nat) (w0 w : World) (V : List Value) : Prop where
  hB : w.heap[S]? = some (.cells V.toArray 31 (0, 0))
  hR : ∃ Z : Array Value, w.heap[S + 1]? = some (.cells Z 31 (0, 0)) ∧ Z.size = 6
  tu : Turned (Two S) w0 w
  sz : w0.heap.size = S
theorem Bx.lt {S : Nat} {w0 w : World} {V : List Value} (h : Bx S w0 w V) : S + 1 < w.heap.size := by
  obtain ⟨Z, h1, _⟩ := h.hR
  exact (Array.getElem?_eq_some_iff.1 h1).1
theorem Bx.below {S : Nat} {w0 w : World} {V : List Value} (h : Bx S w0 w V) : Below S w0 w := h.tu.below (by rw [h.sz]; exact Nat.le_refl _) (fun k hk => by rcases hk with rfl | rfl <;> omega)
theorem Bx.cell {S : Nat} {w0 w : World} {V : List Value} (h : Bx S w0 w V) (k : Nat) : w.cell? ⟨S, k, none⟩ = V.toArray[k]? := cell_of_row _ _ _ _ _ _ h.hB
theorem Bx.froz {S : Nat} {w0 w : World} {V : List Value} (h : Bx S w0 w V) (k : Nat) : w.frozen? ⟨S, k, none⟩ = false := frozen_of_row _ _ _ _ _ h.hB
theorem Bx.start (w : World) (V : List Value) (Z : Array Value) (hZ : Z.size = 6) : Bx w.heap.size w ((w.alloc (.cells V.toArray 31)).alloc (.cells Z 31)) V :=
  ⟨al_old (al_at rfl), ⟨Z, al_at (by simp), hZ⟩, Turned.of_below (((Below.refl _ w).alloc (Nat.le_refl _) _).alloc (by simp) _), rfl⟩
/-- Behind a call, or an append: old blocks stay. -/
theorem Bx.on {S : Nat} {w0 w w' : World} {V : List Value} (h : Bx S w0 w V) (hb : Below w.heap.size w w') : Bx S w0 w' V := by
  obtain ⟨Z, h1, h2⟩ := h.hR
  have hl := h.lt
  exact ⟨(hb.block S (by omega)).trans h.hB, ⟨Z, (hb.block (S + 1) (by omega)).trans h1, h2⟩, h.tu.trans (Turned.of_below (fp := fun _ => False) hb) (fun k hk => hk.elim), h.sz⟩
/-- A field is laid. -/
theorem Bx.put {S : Nat} {w0 w : World} {V : List Value} (h : Bx S w0 w V) (k : Nat) (v : Value) : Bx S w0 (w.setCell ⟨S, k, none⟩ v) (V.set k v) := by
  obtain ⟨Z, h1, h2⟩ := h.hR
  refine ⟨?_, ⟨Z, (heap_setCell_other w ⟨S, k, none⟩ (S + 1) _ (by simp)).trans h1, h2⟩, turned_set h.tu (.inl rfl) v, h.sz⟩
  have := heap_setCell_same w S k _ _ v h.hB
  simpa using this
/-- The answer is laid. -/
theorem wpList_stD {ops : Array Oper} {rest : List Oper} {o : Oper} {act : Act} {w : World} {Q : Exit → Act → World → Prop} (hgd : o.guard = none) (x y : Operand) (ho : o.op = .store 31 x y) (S : Nat) (w0 : World) (V V' : List Value) (hx : act.eval x = .pointer (some ⟨S + 1, 0, none⟩)) (hy : act.eval y = .agg V'.toArray)
    (H : Bx S w0 w V) (hV : V'.length = 6) (h1 : V'.toArray.all (·.oneCell') = true)
    (h : ∀ w', w'.heap[S + 1]? = some (.cells V'.toArray 31 (0, 0)) → Bx S w0 w' V → Turned (fun k => k = S + 1) w w' → wpList Try.prog ops Q rest (act.put o.dst undef) w') : wpList Try.prog ops Q (o :: rest) act w := by
  obtain ⟨Z, hR, hZ⟩ := H.hR
  have hr := run_storeVar_row (P := Try.prog) w (S + 1) _ 31 Z V'.toArray hR (by rw [infoD]; simp [hV]) (by simp [hZ, hV]) h1
  have t : Turned (fun k => k = S + 1) w (w.setRow (S + 1) V'.toArray) := ⟨rfl, rfl, rfl, by simp, fun k _ hk => setRow_other w (S + 1) k _ hk⟩
  refine wpList_plain hgd fun _ hK => ?_
  unfold Oper.wp execOp
  simp only [ho, hx, hy, Instr.storeAt, Instr.sureAddr, Sem.run_bind, Sem.run_pure, Result.andThen_ok, hr]
  refine hK _ _ (h _ (setRow_heap w (S + 1) Z _ _ _ hR) ⟨(setRow_other w (S + 1) S _ (by omega)).trans H.hB, ⟨_, setRow_heap w (S + 1) Z _ _ _ hR, by simp [hV]⟩, H.tu.trans t (fun k hk => .inl (.inr hk)), H.sz⟩ t)
theorem results_D {fn : Func} {t : Tmp} (h : fn.results = #[.cell t 31]) (tmps : Array Value) (w : World) (b : Nat) (V : List Value) (ht : tmps.getD t undef = .pointer (some ⟨b, 0, none⟩)) (hV : V.length = 6) (hg : w.heap[b]? = some (.cells V.toArray 31 (0, 0))) :
    (results fn tmps).run Try.prog w = .ok (.agg V.toArray) w :=
  results_cell_row h tmps w b _ _ _ _ ht hg Try.underlying31 rfl (by rw [infoD]; simp [hV])
theorem results_D2 {fn : Func} {t u : Tmp} (h : fn.results = #[.cell t 31, .tmp u]) (tmps : Array Value) (w : World) (b : Nat) (V : List Value) (ht : tmps.getD t undef = .pointer (some ⟨b, 0, none⟩)) (hV : V.length = 6) (hg : w.heap[b]? = some (.cells V.toArray 31 (0, 0))) :
    (results fn tmps).run Try.prog w = .ok (.tuple #[.agg V.toArray, tmps.getD u undef]) w := by
  have hl := run_loadVar_row (P := Try.prog) w b _ 31 _ _ _ hg Try.underlying31 rfl (by rw [infoD]; simp [hV])
  rw [results_cell_tmp h, ht]
  simp [asAddr, hl]
theorem results_D3 {fn : Func} {t u q : Tmp} (h : fn.results = #[.cell t 31, .tmp u, .tmp q]) (tmps : Array Value) (w : World) (b : Nat) (V : List Value) (ht : tmps.getD t undef = .pointer (some ⟨b, 0, none⟩)) (hV : V.length = 6) (hg : w.heap[b]? = some (.cells V.toArray 31 (0, 0))) :
    (results fn tmps).run Try.prog w = .ok (.tuple #[.agg V.toArray, tmps.getD u undef, tmps.getD q undef]) w := by
  have hl := run_loadVar_row (P := Try.prog) w b _ 31 _ _ _ hg Try.underlying31 rfl (by rw [infoD]; simp [hV])
  simp only [Array.getD_eq_getD_getElem?] at ht
  simp [results, h, ht, hl, asAddr]
theorem wpList_ldD {ops : Array Oper} {rest : List Oper} {o : Oper} {act : Act} {w : World} {Q : Exit → Act → World → Prop} (hgd : o.guard = none) (x : Operand) (ho : o.op = .load 31 x) (S : Nat) (V : List Value) (hx : act.eval x = .pointer (some ⟨S, 0, none⟩)) (hB : w.heap[S]? = some (.cells V.toArray 31 (0, 0))) (hV : V.length = 6)
    (h : wpList Try.prog ops Q rest (act.put o.dst (.agg V.toArray)) w) : wpList Try.prog ops Q (o :: rest) act w :=
  wpList_load_row hgd 31 x ho S hx _ _ _ _ hB Try.underlying31 rfl (by rw [infoD]; simp [hV]) h
/-- Behind the second of two appends: the row lies in new memory, the box is as it was. -/
theorem app_end {S : Nat} {w0 w1 w2 w3 : World} {V : List Value} {e : TypeId} {sz n : Nat} {xs : List Value} {v2 v3 : Value} {o : Obj} (H : Bx S w0 w1 V) (hb : Below w1.heap.size w1 w2) (hv : ∀ k, v2.ownBlock = some k → w1.heap.size ≤ k) (hown : w3.ownsRow 0 e sz v3 n xs) (hg : (w2.alloc o).grownBy w3 v2.ownBlock) (hblk : ∀ k, v3.ownBlock = some k → v2.ownBlock = some k ∨ (w2.alloc o).heap.size ≤ k) :
    Box (w3.ownsRow 0 e sz v3 n xs ∧ Bx S w0 w3 V ∧ ∀ k, v3.ownBlock = some k → S + 2 ≤ k) := by
  have hl := H.lt
  have hs := hb.size
  have hb3 : Below w1.heap.size w1 w3 := (hb.alloc hs _).grown hg (by simp; omega) (fun k hk => hv k hk)
  refine ⟨hown, H.on hb3, fun k hk => ?_⟩
  rcases hblk k hk with h | h
  · have := hv k h; omega
  · simp at h; omega
set_option maxRecDepth 20000 in
set_option maxHeartbeats 2000000 in
theorem rnoted_any (w : World) (n : Nat) (vd vw vo : Value) (l : Int) (b : Bool) (L : List (Int × Int)) (k i : Int) (hd : vd.oneCell' = true) (hw : vw.oneCell' = true) (h : Ro w vo L) (hl : L.length < 1000000) :
    Calls Try.prog 46 #[.agg (rv n vd vw l b vo).toArray, .int .i64 k, .int .i64 i] w fun e w' => ∃ v', e = .returned (.agg (rv n vd vw l b v').toArray) ∧ Ro w' v' (L ++ [(k, i)]) ∧ Below w.heap.size w w' ∧ ∀ k, v'.ownBlock = some k → w.heap.size ≤ k := by
  obtain ⟨a, cap, rfl⟩ := own_form2 h
  have H : Box (Bx w.heap.size w ((w.alloc (.cells (rv n vd vw l b (.slice a L.length cap)).toArray 31)).alloc (.cells #[.int .i64 0, .slice none 0 0, .slice none 0 0, .int .i64 0, .bool false, .slice none 0 0] 31)) (rv n vd vw l b (.slice a L.length cap))) := ⟨Bx.start w _ _ rfl⟩
  have HO : Box (Ro w (.slice a L.length cap) L) := ⟨h⟩
  have HB1 : Box ((0 + L.length) * 16 ≤ 140737488355328 ∧ (L.length + 1) * 16 ≤ 140737488355328) := ⟨by omega, by omega⟩
  have H1 : Box (vd.oneCell' = true ∧ vw.oneCell' = true) := ⟨hd, hw⟩
  obtain ⟨S, HS⟩ : ∃ S, Box (w.heap.size = S) := ⟨_, ⟨rfl⟩⟩
  clear h hl hd hw
  go_enter Try.func46, Try.ntmps46
  go_upto_region 1 with fail
  rw [HS.out] at H ⊢
  generalize (w.alloc (.cells (rv n vd vw l b (.slice a L.length cap)).toArray 31)).alloc (.cells #[.int .i64 0, .slice none 0 0, .slice none 0 0, .int .i64 0, .bool false, .slice none 0 0] 31) = w1 at H ⊢
  have c5 : w1.cell? ⟨S, 5, none⟩ = some (.slice a L.length cap) := H.out.cell 5
  have HO1 : Box (Ro w1 (.slice a L.length cap) L) := ⟨HO.out.below (HS.out ▸ H.out.below)⟩
  go_upto_region 3 with (at_builtin; refine wpList_appv rfl _ _ 29 rfl 76 2 16 (.agg (oc (0, 0)).toArray) Try.underlying29 infoO rfl (by decide) (.slice none 0 0) (.slice a L.length cap) 0 L.length [] (ocs L) rfl rfl (World.ownsRow_nil _ _ _ _) HO1.out (one_ocs L) (by decide) HB1.out.1 ?_; intro v2 w2 hown hgr hblk; rw [Nat.zero_add, List.nil_append] at hown; have H2 : Box (w2.ownsRow 0 76 2 v2 L.length (ocs L) ∧ Below w1.heap.size w1 w2 ∧ ∀ k, v2.ownBlock = some k → w1.heap.size ≤ k) := ⟨hown, (Below.refl _ _).grown hgr (Nat.le_refl _) (fun k hk => by simp [Value.ownBlock] at hk), fun k hk => (hblk k hk).elim (fun h => by simp [Value.ownBlock] at h) id⟩; obtain ⟨a2, c2, rfl⟩ := own_form2 hown; clear hown hgr hblk)
  have H3 : Box (Bx S w w2 (rv n vd vw l b (.slice a L.length cap))) := ⟨H.out.on H2.out.2.1⟩
  clear c5
  go_upto_region 4 with (at_builtin; refine wpList_app2 rfl _ _ 29 rfl 76 2 16 (.agg (oc (0, 0)).toArray) Try.underlying29 infoO rfl (by decide) (.slice a2 L.length c2) L.length (ocs L) rfl (H2.out.1.alloc _) ⟨w2.heap.size, 0, none⟩ 1 1 (oc (k, i)) rfl rfl (news_new w2 (oc (k, i)) _) (one_oc _) HB1.out.2 (by decide) ?_; intro v3 w3 hown hgr hblk; have H4 : Box (w3.ownsRow 0 76 2 v3 (L.length + 1) (ocs L ++ oc (k, i)) ∧ Bx S w w3 (rv n vd vw l b (.slice a L.length cap)) ∧ ∀ k, v3.ownBlock = some k → S + 2 ≤ k) := app_end H.out H2.out.2.1 H2.out.2.2 hown hgr hblk; obtain ⟨a3, c3, rfl⟩ := own_form2 hown; have c5 : w3.cell? ⟨S, 5, none⟩ = some (.slice a L.length cap) := H4.out.2.1.cell 5; have f5 := H4.out.2.1.froz 5; clear hown hgr hblk)
  have H5 : Box (Bx S w (w3.setCell ⟨S, 5, none⟩ (.slice a3 (L.length + 1) c3)) (rv n vd vw l b (.slice a3 (L.length + 1) c3))) := ⟨H4.out.2.1.put 5 _⟩
  have H6 : Box ((w3.setCell ⟨S, 5, none⟩ (.slice a3 (L.length + 1) c3)).ownsRow 0 76 2 (.slice a3 (L.length + 1) c3) (L.length + 1) (ocs L ++ oc (k, i)) ∧ ∀ k, (Value.slice a3 (L.length + 1) c3).ownBlock = some k → S + 2 ≤ k) := ⟨own_turned H4.out.1 (turned_set (Turned.refl _ _) (fp := fun k => k = S) rfl _) (fun k hk e => by have := H4.out.2.2 k hk; omega), H4.out.2.2⟩
  clear c5 f5 H4
  generalize w3.setCell ⟨S, 5, none⟩ (.slice a3 (L.length + 1) c3) = w4 at H5 H6 ⊢
  go_wp2_with (first
    | (refine wpList_ldD rfl _ rfl S (rv n vd vw l b (.slice a3 (L.length + 1) c3)) rfl H5.out.hB rfl ?_)
    | (refine wpList_stD rfl _ _ rfl S w _ (rv n vd vw l b (.slice a3 (L.length + 1) c3)) rfl rfl H5.out rfl (one_rv H1.out.1 H1.out.2 rfl) ?_; intro w5 h5 b5 t5))
  (try simp only [Exit.inBlock, Exit.then])
  refine bodyPost_ret (results_D rfl _ _ (S + 1) _ rfl rfl h5) rfl ?_
  refine ⟨_, rfl, ?_, HS.out ▸ b5.below, fun k hk => by have := H6.out.2 k hk; have := HS.out; omega⟩
  unfold Ro
  rw [ocs_snoc, List.length_append]
  exact own_turned H6.out.1 t5 (fun k hk e => by have := H6.out.2 k hk; omega)
end Go.Proofs.Ytlokhbkjkobmaaa
