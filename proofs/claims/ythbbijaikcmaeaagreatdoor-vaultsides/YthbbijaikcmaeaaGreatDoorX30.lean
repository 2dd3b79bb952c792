/-
  What gather of package vault leaves: the nodes that are to be written anew, got from the top down.
-/
import Derived.Test.YthbbijaikcmaeaaGreatDoorX29
namespace Go.Proofs.YthbbijaikcmaeaaGreatDoor
set_option maxRecDepth 100000
set_option linter.unusedVariables false
set_option maxRecDepth 100000
open Go.RowKit Go.Shelf Plain Go.Proofs.YthbbijaikcmaeaaGreatDoor.Shap.Plain
attribute [local go_sem] Oper.semAt_some
theorem results_C1 {fn : Func} {t : Tmp} {ty : TypeId} (h : fn.results = #[.cell t ty]) (tmps : Array Value) (w : World) (b : Nat) (x : Value) (d : TypeDesc) (hty : Tryz.prog.underlying ty = some d) (hd : d.isRow = false) (ht : tmps.getD t undef = .pointer (some ⟨b, 0, none⟩)) (hx : w.cell? ⟨b, 0, none⟩ = some x) :
    (results fn tmps).run Tryz.prog w = .ok x w := by
  have l1 : (loadVar ty ⟨b, 0, none⟩).run Tryz.prog w = .ok x w := by
    simp [loadVar, Sem.run_bind, isAgg_plain hty hd, load, Sem.run, hx]
  simp only [Array.getD_eq_getD_getElem?] at ht
  simp [results, h, ht, l1, asAddr]
def RelG (g : Int → Option Value) (G : Nat → List Rf) : Prop := ∀ i : Nat, (g (i : Int)).getD (.agg (na zn)) = .agg (na (G i))
def Gput (G : Nat → List Rf) (i : Nat) (N : List Rf) : Nat → List Rf := fun j => if j = i then N else G j
theorem relG_put {g : Int → Option Value} {G : Nat → List Rf} (h : RelG g G) (i : Nat) (N : List Rf) : RelG (fput g (i : Int) (.agg (na N))) (Gput G i N) := fun j => by
  unfold fput Gput
  by_cases e : j = i
  · subst e; simp
  · rw [if_neg (by omega), if_neg e]; exact h j
def OkG (G : Nat → List Rf) : Prop := ∀ i, OkN (G i) ∧ (G i).length = 4
theorem okG_put {G : Nat → List Rf} (h : OkG G) (i : Nat) {N : List Rf} (hN : OkN N) (h4 : N.length = 4) : OkG (Gput G i N) := fun j => by
  unfold Gput
  split
  · exact ⟨hN, h4⟩
  · exact h j
abbrev Gst := Disk.Dk × Int × (Nat → Rf) × (Nat → List Rf)
noncomputable def gtz (K : List Int) (n : Nat) (s : Gst) (x : Nd n) : Disk.Dk × Int × List Int := getM (Yk K) Xd n s.1 (x.l + 1) x.i (s.2.2.1 (itm n (x.l + 1) x.i))
noncomputable def gtSt (K : List Int) (n : Nat) (s : Gst) (x : Nd n) : Gst :=
  if s.2.1 ≠ 0 then s else
  if (gtz K n s x).2.1 ≠ 0 then ((gtz K n s x).1, (gtz K n s x).2.1, s.2.2.1, s.2.2.2)
  else ((gtz K n s x).1, 0, Fputs n x.l x.i (ofN (gtz K n s x).2.2 4) s.2.2.1 (fr (chn n x.l x.i)), Gput s.2.2.2 (itm n (x.l + 1) x.i) (ofN (gtz K n s x).2.2 4))
noncomputable def gtM (K : List Int) (n : Nat) (s : Gst) (l : List (Nd n)) : Gst := l.foldl (gtSt K n) s
theorem gtM_snoc (K : List Int) (n : Nat) (s : Gst) (l : List (Nd n)) (x : Nd n) : gtM K n s (l ++ [x]) = gtSt K n (gtM K n s l) x := by simp [gtM]
theorem gtM_err (K : List Int) (n : Nat) : ∀ (l : List (Nd n)) (s : Gst), s.2.1 ≠ 0 → gtM K n s l = s
  | [], s, _ => rfl
  | x :: l, s, h => by
    have e : gtSt K n s x = s := by unfold gtSt; rw [if_pos h]
    show gtM K n (gtSt K n s x) l = s
    rw [e]
    exact gtM_err K n l s h
theorem gtM_app (K : List Int) (n : Nat) (s : Gst) (a b : List (Nd n)) : gtM K n s (a ++ b) = gtM K n (gtM K n s a) b := by simp [gtM]
theorem gtSt_disk (K : List Int) (n : Nat) (s : Gst) (x : Nd n) : (gtSt K n s x).1.uw = s.1.uw ∧ (gtSt K n s x).1.n = s.1.n ∧ (gtSt K n s x).1.ops.length ≤ s.1.ops.length + 1 ∧ (gtSt K n s x).1.st = s.1.st ∧ (gtSt K n s x).1.left = s.1.left := by
  have := getM_disk K n s.1 (x.l + 1) x.i (s.2.2.1 (itm n (x.l + 1) x.i))
  unfold gtSt
  split
  · exact ⟨rfl, rfl, by omega, rfl, rfl⟩
  · split <;> exact this
theorem gtM_disk (K : List Int) (n : Nat) : ∀ (l : List (Nd n)) (s : Gst), (gtM K n s l).1.uw = s.1.uw ∧ (gtM K n s l).1.n = s.1.n ∧ (gtM K n s l).1.ops.length ≤ s.1.ops.length + l.length ∧ (gtM K n s l).1.st = s.1.st ∧ (gtM K n s l).1.left = s.1.left
  | [], s => ⟨rfl, rfl, by simp [gtM], rfl, rfl⟩
  | x :: l, s => by
    have ih := gtM_disk K n l (gtSt K n s x)
    have h1 := gtSt_disk K n s x
    have e : gtM K n s (x :: l) = gtM K n (gtSt K n s x) l := rfl
    rw [e]
    refine ⟨ih.1.trans h1.1, ih.2.1.trans h1.2.1, ?_, ih.2.2.2.1.trans h1.2.2.2.1, ih.2.2.2.2.trans h1.2.2.2.2⟩
    simp only [List.length_cons]
    omega
def Scn (S V U kb : Nat) (x : World) : Prop := x.cell? ⟨S, 0, none⟩ = some (.pointer (some ⟨V, 0, none⟩)) ∧ x.cell? ⟨S + 1, 0, none⟩ = some (.pointer (some ⟨U, 0, none⟩)) ∧ x.cell? ⟨U, 3, none⟩ = some (.map (some kb))
structure GtI (w0 W0 : World) (V D : Nat) (fp : Nat → Prop) (v : Vt) (sa : Option Addr) (sc U bb nb kb base S : Nat) (iv : Value) (cnt : Nat) (A : List Int) (fb : Int → Option Value) (d : Disk.Dk) (F : Nat → Rf) (G : Nat → List Rf) (er : Int) (W : World) (fp' : Nat → Prop) (gk gn : Int → Option Value) : Prop where
  vc : VC w0 W V D fp' v d sa sc
  up : Upd W U bb nb kb base iv cnt A fb gn gk
  rel : RelF gk F
  okf : ∀ j, OkR (F j)
  relg : RelG gn G
  okg : OkG G
  fw : Fw (fun k => k = kb ∨ k = nb ∨ k = S + 2) W0 W fp fp'
  b0 : W.heap[S]? = some (.cells #[.pointer (some ⟨V, 0, none⟩)] 31 (0, 0))
  b1 : W.heap[S + 1]? = some (.cells #[.pointer (some ⟨U, 0, none⟩)] 81 (0, 0))
  b2 : W.heap[S + 2]? = some (.cells #[.int .i64 er] 28 (0, 0))
theorem Upd.same {x y : World} {U bb nb kb base : Nat} {iv : Value} {cnt : Nat} {A : List Int} {fb fn fk : Int → Option Value} (h : Upd x U bb nb kb base iv cnt A fb fn fk) (hU : y.heap[U]? = x.heap[U]?) (hb : y.heap[bb]? = x.heap[bb]?) (hn : y.heap[nb]? = x.heap[nb]?) (hk : y.heap[kb]? = x.heap[kb]?) (hi : ∀ j, iv.ownBlock = some j → y.heap[j]? = x.heap[j]?) : Upd y U bb nb kb base iv cnt A fb fn fk :=
  ⟨hU.trans h.un, ownsB h.own hi, h.mb.same hb, h.mn.same hn, h.mkn.same hk⟩
theorem GtI.grown {w0 W0 W W' : World} {V D : Nat} {fp fp' : Nat → Prop} {v : Vt} {sa : Option Addr} {sc U bb nb kb base S : Nat} {iv : Value} {cnt : Nat} {A : List Int} {fb : Int → Option Value} {d : Disk.Dk} {F : Nat → Rf} {G : Nat → List Rf} {er : Int} {gk gn : Int → Option Value} {row : Option Nat} (h : GtI w0 W0 V D fp v sa sc U bb nb kb base S iv cnt A fb d F G er W fp' gk gn) (hm : bb < W0.heap.size ∧ nb < W0.heap.size ∧ kb < W0.heap.size) (h0 : w0.heap.size ≤ W0.heap.size) (hg : W.grownBy W' row) (hr : ∀ r, row = some r → W0.heap.size ≤ r ∧ ∃ o : Obj, W.heap[r]? = some o ∧ o.isCells = false) : GtI w0 W0 V D fp v sa sc U bb nb kb base S iv cnt A fb d F G er W' fp' gk gn := by
  have hc : ∀ (k : Nat) (cs : Array Value) (t : TypeId) (f : Nat × Nat), W.heap[k]? = some (.cells cs t f) → W'.heap[k]? = W.heap[k]? := fun k cs t f e => by
    refine hg.block k (Array.getElem?_eq_some_iff.1 e).1 (fun e2 => ?_)
    obtain ⟨_, o, ho, hoc⟩ := hr k e2.symm
    rw [e] at ho
    cases ho
    cases hoc
  have hl : ∀ k, k < W0.heap.size → k < W.heap.size → W'.heap[k]? = W.heap[k]? := fun k h1 h2 => hg.block k h2 (fun e => by have := (hr k e.symm).1; omega)
  refine ⟨h.vc.grown hg (fun k e => ⟨by have := (hr k e).1; omega, (hr k e).2⟩), h.up.same (hc _ _ _ _ h.up.un) (hl bb hm.1 h.up.mb.lt) (hl nb hm.2.1 h.up.mn.lt) (hl kb hm.2.2 h.up.mkn.lt) (fun j hj => ?_), h.rel, h.okf, h.relg, h.okg, ⟨⟨hg.os.trans h.fw.t.os, hg.tape.trans h.fw.t.tape, hg.output.trans h.fw.t.output, Nat.le_trans h.fw.t.size hg.size, fun k hk hn => ?_⟩, h.fw.k⟩, (hc _ _ _ _ h.b0).trans h.b0, (hc _ _ _ _ h.b1).trans h.b1, (hc _ _ _ _ h.b2).trans h.b2⟩
  · rcases h.up.own.2 with ⟨e, _⟩ | ⟨g, cap, cur, e, _, hgg, _⟩
    · rw [e] at hj; cases hj
    · rw [e] at hj; cases hj
      exact hc _ _ _ _ hgg
  · exact (hg.block k (Nat.lt_of_lt_of_le hk h.fw.t.size) (fun e => by have := (hr k e.symm).1; omega)).trans (h.fw.t.block k hk hn)
theorem VC.cut {w0 w : World} {V D : Nat} {fp : Nat → Prop} {v : Vt} {d : Disk.Dk} {sa : Option Addr} {sc : Nat} (h : VC w0 w V D fp v d sa sc) : ∃ fp', VC w0 w V D fp' v d sa sc ∧ (∀ k, fp' k → fp k) ∧ ∀ k, fp' k → ∃ cs t, w.heap[k]? = some (.cells cs t (0, 0)) ∧ (t = 72 ∨ t = 93 ∨ t = 95 ∨ t = 129) := by
  obtain ⟨P, uv, ov, h1, h2⟩ := h.cx.is
  have hty : ∀ k, Disk.foot D P uv ov k → ∃ cs t, w.heap[k]? = some (.cells cs t (0, 0)) ∧ (t = 72 ∨ t = 93 ∨ t = 95 ∨ t = 129) := by
    rintro k (rfl | rfl | hk | hk)
    · exact ⟨_, _, h1.hd, .inl rfl⟩
    · obtain ⟨cs, h3, _⟩ := h1.hp
      exact ⟨_, _, h3, .inr (.inl rfl)⟩
    · rcases h1.hu.2 with ⟨rfl, _⟩ | ⟨g, cap, cur, rfl, _, hg, _⟩
      · cases hk
      · cases hk
        exact ⟨_, _, hg, .inr (.inr (.inl rfl))⟩
    · rcases h1.ho.2 with ⟨rfl, _⟩ | ⟨g, cap, cur, rfl, _, hg, _⟩
      · cases hk
      · cases hk
        exact ⟨_, _, hg, .inr (.inr (.inr rfl))⟩
  refine ⟨Disk.foot D P uv ov, ⟨⟨⟨P, uv, ov, h1, fun _ h => h⟩, h.cx.bel, fun k hk => h.cx.lo k (h2 k hk), fun k hk => h.cx.hi k (h2 k hk)⟩, h.row, h.ints, h.lo, fun hf => h.nV (h2 _ hf), fun ad e => ⟨fun hf => (h.nS ad e).1 (h2 _ hf), (h.nS ad e).2⟩, fun k hk => ?_, h.ok, h.fit, h.dig, h.tab⟩, h2, hty⟩
  obtain ⟨cs, t, e, _⟩ := hty k hk
  exact ⟨cs, t, e⟩
def GatV (w0 w : World) (V D : Nat) (fp : Nat → Prop) (v : Vt) (sa : Option Addr) (sc U bb nb kb base : Nat) (iv : Value) (cnt : Nat) (A : List Int) (fb : Int → Option Value) (s : Gst) (e : Ending) (w' : World) : Prop :=
  ∃ fp' gk gn, e = .returned (.int .i64 s.2.1) ∧ VC w0 w' V D fp' v s.1 sa sc ∧ Upd w' U bb nb kb base iv cnt A fb gn gk ∧ RelF gk s.2.2.1 ∧ (∀ j, OkR (s.2.2.1 j)) ∧ RelG gn s.2.2.2 ∧ OkG s.2.2.2 ∧ Fw (fun k => k = kb ∨ k = nb) w w' fp fp'
set_option maxHeartbeats 8000000 in
theorem gather_v {w0 w : World} {V D : Nat} {fp : Nat → Prop} {v : Vt} {d : Disk.Dk} {sa : Option Addr} {sc : Nat} (C : VC w0 w V D fp v d sa sc) (B0 U bb nb kb base ig ic : Nat) (its : List (Nat × Nat)) (hits : ∀ p ∈ its, Ok2 v.n p) (hil : its.length ≤ 10000) (hdl : (dnL v.n its (topL v.n)).length ≤ 10000) (fb gk gn : Int → Option Value) (F : Nat → Rf) (G : Nat → List Rf)
    (hU : Upd w U bb nb kb base (.slice (some ⟨ig, 0, none⟩) its.length ic) its.length (itI v.n its) fb gn gk) (hF : RelF gk F) (hokF : ∀ j, OkR (F j)) (hG : RelG gn G) (hokG : OkG G) (hB0 : ∀ k, fp k → k < B0) (hlo : B0 ≤ U ∧ B0 ≤ bb ∧ B0 ≤ nb ∧ B0 ≤ kb ∧ B0 ≤ base ∧ w0.heap.size ≤ B0) (hne : bb ≠ nb ∧ bb ≠ kb ∧ nb ≠ kb) (hop : d.ops.length < 900000) (hup : d.uw.length < 1000000) :
    Calls Tryz.prog 28 #[.pointer (some ⟨V, 0, none⟩), .pointer (some ⟨U, 0, none⟩)] w fun e w' => GatV w0 w V D fp v sa sc U bb nb kb base (.slice (some ⟨ig, 0, none⟩) its.length ic) its.length (itI v.n its) fb (gtM v.key v.n (d, 0, F, G) (dnL v.n its (topL v.n))) e w' := by
  refine (callsIn_wide (n := 3)).1 ?_
  obtain ⟨S, hS⟩ : ∃ S, w.heap.size = S := ⟨_, rfl⟩
  obtain ⟨w1, hw1⟩ : ∃ w1, ((w.alloc (.cells #[.pointer (some ⟨V, 0, none⟩)] 31)).alloc (.cells #[.pointer (some ⟨U, 0, none⟩)] 81)).alloc (.cells #[.int .i64 0] 28) = w1 := ⟨_, rfl⟩
  have hb1 : Below w.heap.size w w1 := by rw [← hw1]; exact (((Below.refl _ _).alloc (Nat.le_refl _) _).alloc (by simp) _).alloc (by simp; omega) _
  have h0 : w1.heap[S]? = some (.cells #[.pointer (some ⟨V, 0, none⟩)] 31 (0, 0)) := by rw [← hw1]; exact al_old (al_old (al_at hS))
  have h1 : w1.heap[S + 1]? = some (.cells #[.pointer (some ⟨U, 0, none⟩)] 81 (0, 0)) := by rw [← hw1]; exact al_old (al_at (by simp [hS]))
  have h2 : w1.heap[S + 2]? = some (.cells #[.int .i64 0] 28 (0, 0)) := by rw [← hw1]; exact al_at (by simp [hS])
  have hsz1 : w1.heap.size = S + 3 := by rw [← hw1]; simp [hS]
  have hUl : U < w.heap.size := (Array.getElem?_eq_some_iff.1 hU.un).1
  have hbl := hU.mb.lt
  have hnl := hU.mn.lt
  have hkl := hU.mkn.lt
  have hil2 := hU.own.lt ig rfl
  have un1 : w1.heap[U]? = some (.cells #[.slice (some ⟨ig, 0, none⟩) its.length ic, .map (some bb), .map (some nb), .map (some kb)] 90 (0, 0)) := (hb1.block U hUl).trans hU.un
  have HR : Box (∀ x, Below w1.heap.size w1 x → x.cell? ⟨S, 0, none⟩ = some (.pointer (some ⟨V, 0, none⟩)) ∧ x.cell? ⟨S + 1, 0, none⟩ = some (.pointer (some ⟨U, 0, none⟩)) ∧ x.cell? ⟨U, 0, none⟩ = some (.slice (some ⟨ig, 0, none⟩) its.length ic)) := ⟨fun x hx => ⟨by rw [cell_of_row _ _ _ _ _ _ ((hx.block S (by omega)).trans h0)]; rfl, by rw [cell_of_row _ _ _ _ _ _ ((hx.block (S + 1) (by omega)).trans h1)]; rfl, by rw [cell_of_row _ _ _ _ _ _ ((hx.block U (by omega)).trans un1)]; rfl⟩⟩
  have HN : Box (w.heap.size = S) := ⟨hS⟩
  have HW1 : Box (w1.heap[S]? = some (.cells #[.pointer (some ⟨V, 0, none⟩)] 31 (0, 0)) ∧ w1.heap[S + 1]? = some (.cells #[.pointer (some ⟨U, 0, none⟩)] 81 (0, 0)) ∧ w1.heap[S + 2]? = some (.cells #[.int .i64 0] 28 (0, 0)) ∧ w1.heap.size = S + 3 ∧ Below w.heap.size w w1) := ⟨h0, h1, h2, hsz1, hb1⟩
  have HLT : Box (U < S ∧ bb < S ∧ nb < S ∧ kb < S ∧ ig < S ∧ B0 ≤ ig ∧ B0 ≤ U ∧ B0 ≤ bb ∧ B0 ≤ nb ∧ B0 ≤ kb ∧ w0.heap.size ≤ B0 ∧ bb ≠ nb ∧ bb ≠ kb ∧ nb ≠ kb ∧ U ≠ bb ∧ U ≠ nb ∧ U ≠ kb) := ⟨by
    have e1 : U ≠ bb := fun e => by obtain ⟨es, c, m, h, _⟩ := hU.mb; rw [← e, hU.un] at h; cases h
    have e2 : U ≠ nb := fun e => by obtain ⟨es, c, m, h, _⟩ := hU.mn; rw [← e, hU.un] at h; cases h
    have e3 : U ≠ kb := fun e => by obtain ⟨es, c, m, h, _⟩ := hU.mkn; rw [← e, hU.un] at h; cases h
    have := hil2.1
    have := hil2.2
    exact ⟨by omega, by omega, by omega, by omega, by omega, by omega, by omega, by omega, by omega, by omega, by omega, hne.1, hne.2.1, hne.2.2, e1, e2, e3⟩⟩
  have HIG : Box (ig ≠ bb ∧ ig ≠ nb ∧ ig ≠ kb) := ⟨by
    have hrow : ∃ cur, w.heap[ig]? = some (.cells cur 3 (0, 0)) := by
      rcases hU.own.2 with ⟨e, _⟩ | ⟨g, cap, cur, e, _, hgg, _⟩
      · cases e
      · cases e; exact ⟨cur, hgg⟩
    obtain ⟨cur, hc⟩ := hrow
    refine ⟨fun e => ?_, fun e => ?_, fun e => ?_⟩
    · obtain ⟨es, c, m, h, _⟩ := hU.mb; rw [← e, hc] at h; cases h
    · obtain ⟨es, c, m, h, _⟩ := hU.mn; rw [← e, hc] at h; cases h
    · obtain ⟨es, c, m, h, _⟩ := hU.mkn; rw [← e, hc] at h; cases h⟩
  have HC : Box (VC w0 w V D fp v d sa sc ∧ Upd w U bb nb kb base (.slice (some ⟨ig, 0, none⟩) its.length ic) its.length (itI v.n its) fb gn gk ∧ d.ops.length < 900000 ∧ d.uw.length < 1000000) := ⟨C, hU, hop, hup⟩
  have HFG : Box (RelF gk F ∧ (∀ j, OkR (F j)) ∧ RelG gn G ∧ OkG G ∧ (∀ k, fp k → k < B0) ∧ (∀ p ∈ its, Ok2 v.n p) ∧ its.length ≤ 10000 ∧ (dnL v.n its (topL v.n)).length ≤ 10000) := ⟨hF, hokF, hG, hokG, hB0, hits, hil, hdl⟩
  clear hS hb1 h0 h1 h2 hsz1 hUl hbl hnl hkl hil2 un1 C hU hop hup hF hokF hG hokG hB0 hits hil hdl hlo hne
  refine callsIn_of_wp_marks Tryz.func28 rfl trivial ?_ rfl
  simp only [Tryz.ntmps28, List.size_toArray, List.length_cons, List.length_nil, Nat.reduceAdd, Nat.reduceSub, Array.replicate_succ, Array.replicate_zero, List.push_toArray, List.append_toArray, List.nil_append, List.cons_append]
  refine wpIn_wide.2 ?_
  go_upto_region 1 with fail
  simp only [HN.out]
  refine wp_mono (Q := Exit.then _ (fun _ _ _ => False)) ?_ (fun e a w h => by cases e <;> first | exact h | exact h.elim)
  refine Disk.begin_keep (S := fun x => Below w1.heap.size w1 x) (by kernel_rfl) (fun wd hwd => ?_)
  have hS : Below w1.heap.size w1 wd := by rw [hwd]; exact (Below.refl _ _).drew
  have HWD : Box (wd = w1.drew) := ⟨hwd⟩
  clear hwd
  refine take_s (i := 0) (v := .pointer (some ⟨V, 0, none⟩)) rfl (by kernel_rfl) (by kernel_rfl) (by kernel_rfl) (fun _ _ _ h => h) (by rfl) (fun w' hLat => Disk.exec_load1 31 _ _ rfl Tryz.underlying31 rfl _ rfl _ (HR.out w' hLat).1) hS ?_
  try simp only [Act.put, List.setIfInBounds_toArray, List.set_cons_zero, List.set_cons_succ, List.getElem_toArray, List.getElem_cons_zero]
  refine take_s (i := 1) (v := .pointer (some ⟨U, 0, none⟩)) rfl (by kernel_rfl) (by kernel_rfl) (by kernel_rfl) (fun _ _ _ h => h) (by rfl) (fun w' hLat => Disk.exec_load1 81 _ _ rfl Tryz.underlying81 rfl _ rfl _ (HR.out w' hLat).2.1) hS ?_
  try simp only [Act.put, List.setIfInBounds_toArray, List.set_cons_zero, List.set_cons_succ, List.getElem_toArray, List.getElem_cons_zero, List.getElem_cons_succ]
  refine take_s (i := 2) (v := ?_) rfl (by kernel_rfl) (by kernel_rfl) (by kernel_rfl) (fun _ _ _ h => h) (by rfl) ?_ hS ?_
  rotate_left
  · intro w' hLat; clear hLat; go_simp <;> with_reducible rfl
  try simp only [Act.put, List.setIfInBounds_toArray, List.set_cons_zero, List.set_cons_succ, List.getElem_toArray, List.getElem_cons_zero, List.getElem_cons_succ]
  refine take_s (i := 3) (v := ?_) rfl (by kernel_rfl) (by kernel_rfl) (by kernel_rfl) (fun _ _ _ h => h) (by rfl) ?_ hS ?_
  rotate_left
  · intro w' hLat; clear hLat; go_simp <;> with_reducible rfl
  try simp only [Act.put, List.setIfInBounds_toArray, List.set_cons_zero, List.set_cons_succ, List.getElem_toArray, List.getElem_cons_zero, List.getElem_cons_succ]
  refine take_s (i := 4) (v := .slice (some ⟨ig, 0, none⟩) its.length ic) rfl (by kernel_rfl) (by kernel_rfl) (by kernel_rfl) (fun _ _ _ h => h) (by rfl) (fun w' hLat => Disk.exec_load1 50 _ _ rfl Tryz.underlying50 rfl _ rfl _ (HR.out w' hLat).2.2) hS ?_
  try simp only [Act.put, List.setIfInBounds_toArray, List.set_cons_zero, List.set_cons_succ, List.getElem_toArray, List.getElem_cons_zero, List.getElem_cons_succ]
  refine Disk.one_keep (i := 5) (by kernel_rfl) ?_
  refine Disk.keep_step rfl (by rfl) ?_
  go_simp
  refine Calls.mono (down_v V (some ⟨ig, 0, none⟩) its.length ic wd) ?_
  rintro e x4 ⟨rfl, hx4⟩
  have hb4 : Below wd.heap.size wd x4 := by rw [hx4]; exact ((Below.refl _ _).alloc (Nat.le_refl _) _).alloc (by simp) _
  refine ⟨below_to hS hb4, ?_⟩
  try simp only [Act.put, List.setIfInBounds_toArray, List.set_cons_zero, List.set_cons_succ, List.getElem_toArray, List.getElem_cons_zero, List.getElem_cons_succ]
  refine wpAnyH_done (by kernel_rfl) ?_ _
  go_wp2
  refine (wpIn_wide (n := 3)).1 ?_
  obtain ⟨hC, hU, hop, hup⟩ := HC.out
  obtain ⟨r0, r1, r2, rsz, rb⟩ := HW1.out
  obtain ⟨hF, hokF, hG, hokG, hB0, hits, hil, hdl⟩ := HFG.out
  obtain ⟨l1, l2, l3, l4, l5, l6, l7, l8, l9, l10, l11, l12, l13, l14, l15, l16, l17⟩ := HLT.out
  have hSN := HN.out
  have hwds : wd.heap.size = S + 3 := by rw [HWD.out]; exact rsz
  have b14 : Below w1.heap.size w1 x4 := below_to hS hb4
  have b04 : Below w.heap.size w x4 := below_to rb b14
  have hs4 : x4.heap.size = S + 5 := by rw [hx4]; simp [hwds]
  have hown4 : ∀ j, (Value.slice (some ⟨ig, 0, none⟩) its.length ic).ownBlock = some j → x4.heap[j]? = w.heap[j]? := fun j hj => by cases hj; exact b04.block ig (by omega)
  have hU4 : Upd x4 U bb nb kb base (.slice (some ⟨ig, 0, none⟩) its.length ic) its.length (itI v.n its) fb gn gk := hU.same (b04.block _ (by omega)) (b04.block _ (by omega)) (b04.block _ (by omega)) (b04.block _ (by omega)) hown4
  have hC4 := hC.below b04
  have hI4 : GtI w0 x4 V D fp v sa sc U bb nb kb base S (.slice (some ⟨ig, 0, none⟩) its.length ic) its.length (itI v.n its) fb d F G 0 x4 fp gk gn := ⟨hC4, hU4, hF, hokF, hG, hokG, Fw.refl _ _ _, (b14.block S (by omega)).trans r0, (b14.block (S + 1) (by omega)).trans r1, (b14.block (S + 2) (by omega)).trans r2⟩
  have hlI : (itI v.n its).length = its.length := by simp [itI]
  have hints : Shap.Ints x4 (some ⟨ig, 0, none⟩) its.length (itI v.n its) := Shap.iown_ints hU4.own
  have hdn : Dn x4 (S + 3) (S + 3 + 1) V D v sa sc (some ⟨ig, 0, none⟩) ic (itI v.n its) := ⟨by rw [hx4]; exact al_old (al_at hwds), by rw [hx4, hlI]; exact al_at (by simp [hwds]), hC4.row, hC4.ints, by rw [hlI]; exact hints⟩
  have HI4 : Box _ := ⟨hI4⟩
  have HS4 : Box (x4.heap.size = S + 5) := ⟨hs4⟩
  have B04 : Box (Below w.heap.size w x4) := ⟨b04⟩
  have hok := hC.ok
  rw [hwds]
  clear hC hU hop hup r0 r1 r2 rsz rb hF hokF hG hokG hB0 l1 l2 l3 l4 l5 l6 l7 l8 l9 l10 l11 l12 l13 l14 l15 l16 l17 hSN hwds b14 b04 hs4 hown4 hU4 hC4 hI4 hlI hints hx4 hb4 hS HWD HW1 HR hw1
  have HFI : Box (∀ (Dd : Nat) (W W' : World) (s : Gst) (fp' : Nat → Prop) (gk' gn' : Int → Option Value) (er er' : Int), gtM v.key v.n (d, 0, F, G) (dnL v.n its (topL v.n)) = s → er' = s.2.1 → GtI w0 x4 V D fp v sa sc U bb nb kb base S (.slice (some ⟨ig, 0, none⟩) its.length ic) its.length (itI v.n its) fb s.1 s.2.2.1 s.2.2.2 er W fp' gk' gn' → W.heap[Dd]? = some (.deferred (some [])) → x4.heap.size ≤ Dd → (W' = W.setCell ⟨S + 1 + 1, 0, none⟩ (.int .i64 er') ∨ (W' = W ∧ er = er')) → W'.heap[Dd]? = some (.deferred (some [])) ∧ (W'.putObj Dd (.deferred none)).cell? ⟨S + 1 + 1, 0, none⟩ = some (.int .i64 er') ∧ GatV w0 w V D fp v sa sc U bb nb kb base (.slice (some ⟨ig, 0, none⟩) its.length ic) its.length (itI v.n its) fb (gtM v.key v.n (d, 0, F, G) (dnL v.n its (topL v.n))) (.returned (.int .i64 er')) (W'.putObj Dd (.deferred none))) := ⟨fun Dd W W' s fp' gk' gn' er er' hs he hI hK hD hor => by
    have hL := HLT.out
    have hig := HIG.out
    have hs4 := HS4.out
    have hSN := HN.out
    have hfw := hI.fw.size
    have hcell : ∀ k, B0 ≤ k → k < x4.heap.size → ¬ fp' k := fun k h1 h2 => hI.fw.k k h2 (fun hf => by have := HFG.out.2.2.2.2.1 k hf; omega)
    have hb : But (S + 2) W W' := by
      rcases hor with rfl | ⟨rfl, _⟩
      · exact (But.refl _ _).setCell 0 _
      · exact But.refl _ _
    have hb2 : W'.heap[S + 2]? = some (.cells #[.int .i64 er'] 28 (0, 0)) := by
      rcases hor with rfl | ⟨rfl, rfl⟩
      · exact heap_setCell_same _ _ _ _ _ _ hI.b2
      · exact hI.b2
    have hV := hI.vc.row
    have hVne : S + 2 ≠ V := fun e => by
      rw [← e, hI.b2] at hV
      simp at hV
    have hsh : ∀ ad, sa = some ad → ad.block ≠ S + 2 := fun ad e => by
      have := shp_nb HC.out.1 ad e
      omega
    have hKD : W'.heap[Dd]? = some (.deferred (some [])) := (hb.block Dd (Array.getElem?_eq_some_iff.1 hK).1 (by omega)).trans hK
    have hkp : ∀ k, k < x4.heap.size → k ≠ S + 2 → (W'.putObj Dd (.deferred none)).heap[k]? = W.heap[k]? := fun k h1 h2 => (World.putObj_heap_other (by omega)).trans (hb.block k (by omega) h2)
    have c1 := hI.vc.set (S + 2) hb (hcell (S + 2) (by omega) (by omega)) hVne hsh (by omega)
    refine ⟨hKD, ?_, ?_⟩
    · have h := (World.putObj_heap_other (w := W') (o := .deferred none) (show S + 2 ≠ Dd by omega)).trans hb2
      rw [cell_of_row _ _ _ _ _ _ h]; rfl
    · rw [hs, he]
      refine ⟨fp', gk', gn', rfl, c1.grown (grownBy_putObj' _ Dd _) (fun k e => by cases e; exact ⟨by omega, _, hKD, rfl⟩), hI.up.same (hkp U (by omega) (by omega)) (hkp bb (by omega) (by omega)) (hkp nb (by omega) (by omega)) (hkp kb (by omega) (by omega)) (fun j hj => by cases hj; exact hkp ig (by omega) (by omega)), hI.rel, hI.okf, hI.relg, hI.okg, ?_⟩
      exact (((((Fw.below _ fp B04.out).trans hI.fw).wider (fun k hk h => h.elim .inl (fun h => h.elim .inr (fun h => absurd h (by omega))))).but hb (by omega)).but (but_putObj _ Dd _) (by omega))⟩
  refine range_simple (dnS (S + 3) (S + 3 + 1) V sa (some ⟨ig, 0, none⟩)) (by decide) (gf := 74) (lb := #[.pointer (some ⟨S + 3, 0, none⟩), .pointer (some ⟨S + 3 + 1, 0, none⟩)]) rfl (enters_of Tryz.func74 (by kernel_rfl) rfl)
    (down_stops 2 (by decide) (S + 3) (S + 3 + 1) V D v hok sa sc (some ⟨ig, 0, none⟩) ic its hits (by omega) _ (fun _ h => h) x4 hdn) (fun _ => rfl)
    (fun pre W => (gtM v.key v.n (d, 0, F, G) pre).2.1 = 0 ∧ ∃ fp' gk' gn', GtI w0 x4 V D fp v sa sc U bb nb kb base S (.slice (some ⟨ig, 0, none⟩) its.length ic) its.length (itI v.n its) fb (gtM v.key v.n (d, 0, F, G) pre).1 (gtM v.key v.n (d, 0, F, G) pre).2.2.1 (gtM v.key v.n (d, 0, F, G) pre).2.2.2 0 W fp' gk' gn')
    (fun c pre W => c = .ret ∧ (gtM v.key v.n (d, 0, F, G) pre).2.1 ≠ 0 ∧ ∃ fp' gk' gn', GtI w0 x4 V D fp v sa sc U bb nb kb base S (.slice (some ⟨ig, 0, none⟩) its.length ic) its.length (itI v.n its) fb (gtM v.key v.n (d, 0, F, G) pre).1 (gtM v.key v.n (d, 0, F, G) pre).2.2.1 (gtM v.key v.n (d, 0, F, G) pre).2.2.2 (gtM v.key v.n (d, 0, F, G) pre).2.1 W fp' gk' gn')
    (fun pre X Y row hs hg hr => ⟨hs.1, by obtain ⟨f1, f2, f3, f4⟩ := hs.2; exact ⟨f1, f2, f3, f4.grown (by have := HLT.out; have := HS4.out; omega) (by have := HLT.out; have := HS4.out; omega) hg hr⟩⟩)
    (fun c pre X Y row hs hg hr => ⟨hs.1, hs.2.1, by obtain ⟨f1, f2, f3, f4⟩ := hs.2.2; exact ⟨f1, f2, f3, f4.grown (by have := HLT.out; have := HS4.out; omega) (by have := HLT.out; have := HS4.out; omega) hg hr⟩⟩) ⟨rfl, fp, gk, gn, HI4.out⟩
    (fun a x => { tmps := (a.tmps.setIfInBounds 14 (.int .i64 (itm v.n (x.l + 1) x.i : Nat))).setIfInBounds 5 (.int .i64 (itm v.n (x.l + 1) x.i : Nat)), defers := [] })
    ?assign ?body ?done ?stop
  case assign =>
    intro lp x W K hK
    simp only [encD, List.zip_toArray, List.zip_cons_cons, List.zip_nil_right, List.foldl_toArray, List.foldl_cons, List.foldl_nil, List.setIfInBounds_toArray, List.set_cons_succ, List.set_cons_zero] at hK ⊢
    gi_wp2
    exact hK
  case body =>
    intro lp pre x W hlp hr hIp hlt
    obtain ⟨hs0, fp', gk', gn', hI⟩ := hIp
    obtain ⟨s, hs⟩ : ∃ s, gtM v.key v.n (d, 0, F, G) pre = s := ⟨_, rfl⟩
    have hfd := gtM_disk v.key v.n pre (d, 0, F, G)
    rw [hs] at hs0 hI hfd
    obtain ⟨hq1, hq2, hq3, hq4⟩ := HC.out
    obtain ⟨z, hz⟩ : ∃ z, gtz v.key v.n s x = z := ⟨_, rfl⟩
    have hst : gtM v.key v.n (d, 0, F, G) (pre ++ [x]) = if z.2.1 ≠ 0 then (z.1, z.2.1, s.2.2.1, s.2.2.2) else (z.1, 0, Fputs v.n x.l x.i (ofN z.2.2 4) s.2.2.1 (fr (chn v.n x.l x.i)), Gput s.2.2.2 (itm v.n (x.l + 1) x.i) (ofN z.2.2 4)) := by
      rw [gtM_snoc, hs, gtSt, if_neg (by simpa using hs0), hz]
    have hpl : pre.length ≤ 10000 := by have := HFG.out.2.2.2.2.2.2.2; omega
    have hL := HLT.out
    have hs4 := HS4.out
    have hSN := HN.out
    have hfw := hI.fw.size
    have hcell : ∀ k, B0 ≤ k → k < x4.heap.size → ¬ fp' k := fun k h1 h2 => hI.fw.k k h2 (fun hf => by have := HFG.out.2.2.2.2.1 k hf; omega)
    have CN : ∀ x0, Below W.heap.size W x0 → Calls Tryz.prog 42 #[.pointer (some ⟨V, 0, none⟩), .map (some kb), .int .i64 (itm v.n (x.l + 1) x.i : Nat)] x0 fun e w' => NodeV w0 x0 V D fp' v sa sc kb gk' x.l x.i z e w' := fun x0 hx0 => by
      have := node_v (hI.vc.below hx0) x.l x.i x.hl x.hi kb gk' (hI.up.mkn.same (hx0.block kb hI.up.mkn.lt)) (by omega) (s.2.2.1 (itm v.n (x.l + 1) x.i)) (hI.okf _) (hI.rel _) (by have := hfd.2.2.1; simp only at this; omega) (by rw [hfd.1]; exact hq4)
      have e : getM (Yk v.key) Xd v.n s.1 (x.l + 1) x.i (s.2.2.1 (itm v.n (x.l + 1) x.i)) = z := hz
      rw [e] at this
      exact this
    obtain ⟨gz, hgz⟩ : ∃ gz : Int → Option Value, gz = if z.2.1 = 0 then fputs v.n x.l x.i (ofN z.2.2 4) gk' (fr (chn v.n x.l x.i)) else gk' := ⟨_, rfl⟩
    obtain ⟨Aft, hAft⟩ : ∃ Aft : World → Prop, ∀ y, Aft y ↔ ∃ fp'', VC w0 y V D fp'' v z.1 sa sc ∧ Fw (fun k => k = kb) W y fp' fp'' ∧ Mp y kb gz := ⟨_, fun _ => Iff.rfl⟩
    have hkeep : ∀ y, Aft y → ∀ k, B0 ≤ k → k < x4.heap.size → k ≠ kb → y.heap[k]? = W.heap[k]? := fun y hy k h1 h2 h3 => by
      obtain ⟨fp'', _, a2, _⟩ := (hAft y).1 hy
      exact a2.block (by omega) (hcell k h1 h2) h3
    have scn : ∀ y, (∀ k, B0 ≤ k → k < x4.heap.size → k ≠ kb → y.heap[k]? = W.heap[k]?) → Scn S V U kb y := fun y hy => ⟨by rw [cell_of_row _ _ _ _ _ _ ((hy S (by omega) (by omega) (by omega)).trans hI.b0)]; rfl, by rw [cell_of_row _ _ _ _ _ _ ((hy (S + 1) (by omega) (by omega) (by omega)).trans hI.b1)]; rfl, by rw [cell_of_row _ _ _ _ _ _ ((hy U (by omega) (by omega) (by omega)).trans hI.up.un)]; rfl⟩
    have HSW : Box (∀ y, Below W.heap.size W y → Scn S V U kb y) := ⟨fun y hy => scn y (fun k h1 h2 _ => hy.block k (by omega))⟩
    have HSF : Box (∀ y, Aft y → Scn S V U kb y) := ⟨fun y hy => scn y (hkeep y hy)⟩
    have HSI : Box (∀ y, Aft y → W.heap.size ≤ y.heap.size) := ⟨fun y hy => by obtain ⟨fp'', _, a2, _⟩ := (hAft y).1 hy; exact a2.size⟩
    have HAB : Box (∀ y y2, Aft y → Below y.heap.size y y2 → Aft y2) := ⟨fun y y2 hy hb => by
      obtain ⟨fp'', a1, a2, a3⟩ := (hAft y).1 hy
      exact (hAft y2).2 ⟨fp'', a1.below hb, a2.trans (Fw.below _ fp'' hb), a3.same (hb.block kb a3.lt)⟩⟩
    have hset : ∀ (y y2 : World) (Bn : Nat), Aft y → W.heap.size ≤ Bn → But Bn y y2 → (∃ cs, y.heap[Bn]? = some (.cells cs 107 (0, 0))) → Aft y2 := fun y y2 Bn hy hBn hb hcs => by
      obtain ⟨fp'', a1, a2, a3⟩ := (hAft y).1 hy
      obtain ⟨cs, hcs⟩ := hcs
      obtain ⟨f3, c3, hsub, hty⟩ := a1.cut
      have hnf : ¬ f3 Bn := fun hf => by
        obtain ⟨cs', t', e1, e2⟩ := hty Bn hf
        rw [hcs] at e1
        injection e1 with e1
        injection e1 with _ e3
        subst e3
        exact absurd e2 (by decide)
      have hV := hI.vc.lt
      have hsh := shp_nb hI.vc
      exact (hAft y2).2 ⟨f3, c3.set Bn hb hnf (by omega) (fun ad e => by have := hsh ad e; omega) (by omega), ⟨⟨hb.os.trans a2.t.os, hb.tape.trans a2.t.tape, hb.output.trans a2.t.output, Nat.le_trans a2.t.size hb.size, fun k hk hn => (hb.block k (Nat.lt_of_lt_of_le hk a2.t.size) (by omega)).trans (a2.t.block k hk hn)⟩, fun k hk hn hf => a2.k k hk hn (hsub k hf)⟩, a3.same (hb.block kb a3.lt (by have := hI.up.mkn.lt; omega))⟩
    have HAF : Box (∀ y, Aft y ↔ ∃ fp'', VC w0 y V D fp'' v z.1 sa sc ∧ Fw (fun k => k = kb) W y fp' fp'' ∧ Mp y kb gz) := ⟨hAft⟩
    have HKE : Box (∀ y, Aft y → ∀ k, B0 ≤ k → k < x4.heap.size → k ≠ kb → y.heap[k]? = W.heap[k]?) := ⟨hkeep⟩
    have HI : Box _ := ⟨hI⟩
    have HST : Box _ := ⟨hst⟩
    have HSET : Box _ := ⟨hset⟩
    have HGZ : Box _ := ⟨hgz⟩
    have HCE : Box (∀ k, B0 ≤ k → k < x4.heap.size → ¬ fp' k) := ⟨hcell⟩
    have HFW : Box (x4.heap.size ≤ W.heap.size) := ⟨hfw⟩
    have hmap : ∀ x0, Below W.heap.size W x0 → ∀ k, W.heap.size ≤ k → k < x0.heap.size → ¬ fp' k ∧ k ≠ kb := fun x0 hx0 k h1 h2 => ⟨fun hf => by have := hI.vc.cx.hi k hf; omega, by have := hI.up.mkn.lt; omega⟩
    by_cases hz0 : z.2.1 = 0
    · obtain ⟨N, hN⟩ : ∃ N, ofN z.2.2 4 = N := ⟨_, rfl⟩
      have HND0 : ∀ x0, Below W.heap.size W x0 → Calls Tryz.prog 42 #[.pointer (some ⟨V, 0, none⟩), .map (some kb), .int .i64 (itm v.n (x.l + 1) x.i : Nat)] x0 fun e x1 => e = .returned (.tuple #[.agg (na N), .int .i64 0]) ∧ (Aft x1 ∧ OkN N) ∧ ∀ k, W.heap.size ≤ k → k < x0.heap.size → x1.heap[k]? = x0.heap[k]? := fun x0 hx0 => (CN x0 hx0).mono (fun e x1 h => by
        obtain ⟨fp'', a1, a2, ⟨h1, _⟩ | ⟨_, h2, h3, h4⟩⟩ := h
        · exact absurd hz0 h1
        · refine ⟨by rw [← hN]; exact h2, ⟨(hAft x1).2 ⟨fp'', a1, (Fw.below _ fp' hx0).trans a2, by rw [hgz, if_pos hz0]; exact h3⟩, by rw [← hN]; exact h4⟩, fun k k1 k2 => a2.block k2 (hmap x0 hx0 k k1 k2).1 (hmap x0 hx0 k k1 k2).2⟩)
      have HAS : Box (∀ (x2 y : World) (Bn : Nat), (na N).size = 132 → Aft x2 → x2.heap[Bn]? = some (.cells (na zn) 107 (0, 0)) → W.heap.size ≤ Bn → x2.setCells Bn 0 (na N).toList = y → Aft y ∧ y.heap[Bn]? = some (.cells (na N) 107 (0, 0))) := ⟨fun x2 y Bn hsz hx2 hz2 hBn hy => by
        have hzn : (na zn).size = 132 := size_na okN_zn rfl
        refine ⟨hset x2 y Bn hx2 hBn (by rw [← hy]; exact Disk.but_setCells Bn _ 0 _ _ (But.refl _ _)) ⟨_, hz2⟩, ?_⟩
        rw [← hy, Disk.heap_setCells Bn _ _ 0 _ _ hz2 (by first | (simp only [Array.length_toList]; omega) | simp), Disk.splice_all _ _ (by first | rfl | (simp only [Array.length_toList]; omega))]⟩
      have HNB : Box (OkN N → Box (OkN N ∧ (N).length = 4)) := ⟨fun h => ⟨h, (by rw [← hN]; simp [ofN])⟩⟩
      have HSZ0 : Box (OkN N → Box ((na N).size = 132 ∧ (na zn).size = 132 ∧ (Tryz.prog.info? 107).map (·.size) = some (na N).toList.length)) := ⟨fun h => ⟨size_na h (by rw [← hN]; simp [ofN]), size_na okN_zn rfl, by rw [Array.length_toList, size_na h (by rw [← hN]; simp [ofN])]; exact infoN⟩⟩
      have HND : Box _ := ⟨HND0⟩
      have HKP : Box (∀ (y w' : World), Aft y → But nb y w' → ∀ k, k < W.heap.size → ¬ fp' k → k ≠ kb → k ≠ nb → w'.heap[k]? = W.heap[k]?) := ⟨fun y w' hy hb k h1 h2 h3 h4 => by
        obtain ⟨fp'', _, a2, _⟩ := (hAft y).1 hy
        exact (hb.block k (Nat.lt_of_lt_of_le h1 a2.size) h4).trans (a2.block h1 h2 h3)⟩
      have HOK : Box (∀ (y : World) (Bn : Nat), (Aft y ∧ y.heap[Bn]? = some (.cells (na N) 107 (0, 0)) ∧ W.heap.size ≤ Bn) → Box (y.drew.cell? ⟨S + 1, 0, none⟩ = some (.pointer (some ⟨U, 0, none⟩)) ∧ S + 1 ≠ nb) ∧ Box (y.drew.cell? ⟨U, 2, none⟩ = some (.map (some nb)) ∧ U ≠ nb) ∧ Box (y.drew.heap[Bn]? = some (.cells (na N) 107 (0, 0)) ∧ Bn < y.drew.heap.size ∧ Bn ≠ nb) ∧ Box (Mp y.drew nb gn')) := ⟨fun y Bn hy => by
        refine ⟨⟨?_, by omega⟩, ⟨?_, by omega⟩, ⟨hy.2.1, (Array.getElem?_eq_some_iff.1 hy.2.1).1, by have := hy.2.2; omega⟩, ⟨hI.up.mn.same (hkeep y hy.1 nb (by omega) (by omega) (by omega))⟩⟩
        · show y.cell? _ = _
          rw [cell_of_row _ _ _ _ _ _ ((hkeep y hy.1 (S + 1) (by omega) (by omega) (by omega)).trans hI.b1)]; rfl
        · show y.cell? _ = _
          rw [cell_of_row _ _ _ _ _ _ ((hkeep y hy.1 U (by omega) (by omega) (by omega)).trans hI.up.un)]; rfl⟩
      have HFO : Box (∀ (y w' : World) (Bn : Nat), OkN N ∧ N.length = 4 → (Aft y ∧ y.heap[Bn]? = some (.cells (na N) 107 (0, 0)) ∧ W.heap.size ≤ Bn) → Mp w' nb (fput gn' (itm v.n (x.l + 1) x.i : Nat) (.agg (na N))) → But nb y w' → KeepsFrom x4.heap.size W w' ∧ Kps (dnS (S + 3) (S + 3 + 1) V sa (some ⟨ig, 0, none⟩)) W w' ∧ (gtM v.key v.n (d, 0, F, G) (pre ++ [x])).2.1 = 0 ∧ ∃ fp' gk' gn', GtI w0 x4 V D fp v sa sc U bb nb kb base S (.slice (some ⟨ig, 0, none⟩) its.length ic) its.length (itI v.n its) fb (gtM v.key v.n (d, 0, F, G) (pre ++ [x])).1 (gtM v.key v.n (d, 0, F, G) (pre ++ [x])).2.2.1 (gtM v.key v.n (d, 0, F, G) (pre ++ [x])).2.2.2 0 w' fp' gk' gn') := ⟨fun y w' Bn hno hy hM hb => by
        obtain ⟨fp'', a1, a2, a3⟩ := (hAft y).1 hy.1
        have hkp := HKP.out y w' hy.1 hb
        have hMy : Mp y nb gn' := hI.up.mn.same (hkeep y hy.1 nb (by omega) (by omega) (by omega))
        have hnm := a1.nomap hMy
        have hnk : ∀ (k : Nat) (cs : Array Value) (t : TypeId) (f : Nat × Nat), W.heap[k]? = some (.cells cs t f) → k ≠ kb ∧ k ≠ nb := fun k cs t f e => ⟨fun e2 => (by obtain ⟨es, c, m, h, _⟩ := hI.up.mkn; rw [← e2, e] at h; cases h), fun e2 => (by obtain ⟨es, c, m, h, _⟩ := hI.up.mn; rw [← e2, e] at h; cases h)⟩
        have hkc : ∀ (k : Nat), ¬ fp' k → ∀ (cs : Array Value) (t : TypeId) (f : Nat × Nat), W.heap[k]? = some (.cells cs t f) → w'.heap[k]? = some (.cells cs t f) := fun k hn cs t f e => (hkp k (Array.getElem?_eq_some_iff.1 e).1 hn (hnk k cs t f e).1 (hnk k cs t f e).2).trans e
        have hig := HIG.out
        have hst2 := hst
        rw [if_neg (by simpa using hz0), hN] at hst2
        rw [hst2]
        have hgz2 := hgz
        rw [if_pos hz0, hN] at hgz2
        have hUs := hI.up
        have hyk := fun k h1 h2 h3 => hkeep y hy.1 k h1 h2 h3
        have hmy := fun k (h1 : B0 ≤ k) (h2 : k < x4.heap.size) (h3 : k ≠ kb) (h4 : k ≠ nb) => hkp k (by omega) (hcell k h1 h2) h3 h4
        refine ⟨⟨Nat.le_trans a2.size hb.size, fun k o hBk hk ho => ?_⟩, ⟨Nat.le_trans a2.size hb.size, ?_⟩, rfl, fp'', gz, fput gn' (itm v.n (x.l + 1) x.i : Nat) (.agg (na N)), ?_⟩
        · refine (hkp k (Array.getElem?_eq_some_iff.1 hk).1 (fun hf => ?_) (by omega) (by omega)).trans hk
          obtain ⟨cs, t, e⟩ := hI.vc.cells k hf
          rw [hk] at e
          cases e
          cases ho
        · rintro k (rfl | rfl | rfl | ⟨ad, e, rfl⟩ | ⟨ad, e, rfl⟩) cs t f h
          · exact hkc _ (hcell _ (by omega) (by omega)) cs t f h
          · exact hkc _ (hcell _ (by omega) (by omega)) cs t f h
          · exact hkc _ hI.vc.nV cs t f h
          · exact hkc _ (hI.vc.nS ad e).1 cs t f h
          · cases e
            exact hkc _ (hcell ig (by omega) (by omega)) cs t f h
        · refine ⟨a1.set nb hb hnm.1 hnm.2.1 hnm.2.2 (by omega), ⟨(hmy U (by omega) (by omega) (by omega) (by omega)).trans hUs.un, ownsB hUs.own (fun j hj => by cases hj; exact hmy ig (by omega) (by omega) (by omega) (by omega)), hUs.mb.same (hmy bb (by omega) (by omega) (by omega) (by omega)), hM, a3.same (hb.block kb a3.lt (by omega))⟩, ?_, okF_puts v.n x.l x.i N hno.1 _ _ hI.okf, relG_put hI.relg _ _, okG_put hI.okg _ hno.1 hno.2, ?_, hkc S (hcell S (by omega) (by omega)) _ _ _ hI.b0, hkc (S + 1) (hcell (S + 1) (by omega) (by omega)) _ _ _ hI.b1, hkc (S + 2) (hcell (S + 2) (by omega) (by omega)) _ _ _ hI.b2⟩
          · rw [hgz2]; exact relF_puts v.n x.l x.i N _ _ _ hI.rel
          · exact (hI.fw.trans (a2.wider (fun k _ h => .inl h))).trans ((Fw.of_but hb fp'').wider (fun k _ h => .inr (.inl h)))⟩
      clear hI hst hset hgz hAft hkeep scn hmap hcell hfw CN hfd hq1 hq2 hq3 hq4 hL hs4 hSN hpl hs0 hs hz hlp hr hlt HND0 hN
      simp only [List.setIfInBounds_toArray, List.set_cons_succ, List.set_cons_zero]
      gi_wp2
      refine begin_in (fun _ => Scn S V U kb) (by kernel_rfl) (nodef _ (by kernel_rfl)) (fun ⟨_, _, h⟩ => h) (fun wd hwd => ?_)
      have hbd : Below W.heap.size W wd := by rw [hwd]; exact (Below.refl _ _).drew
      clear hwd
      have hS := HSW.out wd hbd
      refine take_s (i := 0) (v := .pointer (some ⟨V, 0, none⟩)) rfl (by kernel_rfl) (by kernel_rfl) (by kernel_rfl) (fun _ _ _ h => h) (by rfl) (fun w' hLat => Disk.exec_load1 31 _ _ rfl Tryz.underlying31 rfl _ rfl _ hLat.1) hS ?_
      try simp only [Act.put, List.setIfInBounds_toArray, List.set_cons_zero, List.set_cons_succ, List.getElem_toArray, List.getElem_cons_zero]
      refine take_s (i := 1) (v := .pointer (some ⟨U, 0, none⟩)) rfl (by kernel_rfl) (by kernel_rfl) (by kernel_rfl) (fun _ _ _ h => h) (by rfl) (fun w' hLat => Disk.exec_load1 81 _ _ rfl Tryz.underlying81 rfl _ rfl _ hLat.2.1) hS ?_
      try simp only [Act.put, List.setIfInBounds_toArray, List.set_cons_zero, List.set_cons_succ, List.getElem_toArray, List.getElem_cons_zero, List.getElem_cons_succ]
      refine take_s (i := 2) (v := ?_) rfl (by kernel_rfl) (by kernel_rfl) (by kernel_rfl) (fun _ _ _ h => h) (by rfl) ?_ hS ?_
      rotate_left
      · intro w' hLat; clear hLat; go_simp <;> with_reducible rfl
      try simp only [Act.put, List.setIfInBounds_toArray, List.set_cons_zero, List.set_cons_succ, List.getElem_toArray, List.getElem_cons_zero, List.getElem_cons_succ]
      refine take_s (i := 3) (v := ?_) rfl (by kernel_rfl) (by kernel_rfl) (by kernel_rfl) (fun _ _ _ h => h) (by rfl) ?_ hS ?_
      rotate_left
      · intro w' hLat; clear hLat; go_simp <;> with_reducible rfl
      try simp only [Act.put, List.setIfInBounds_toArray, List.set_cons_zero, List.set_cons_succ, List.getElem_toArray, List.getElem_cons_zero, List.getElem_cons_succ]
      refine take_s (i := 4) (v := .map (some kb)) rfl (by kernel_rfl) (by kernel_rfl) (by kernel_rfl) (fun _ _ _ h => h) (by rfl) (fun w' hLat => Disk.exec_load1 88 _ _ rfl Tryz.underlying88 rfl _ rfl _ hLat.2.2) hS ?_
      try simp only [Act.put, List.setIfInBounds_toArray, List.set_cons_zero, List.set_cons_succ, List.getElem_toArray, List.getElem_cons_zero, List.getElem_cons_succ]
      refine take_s (i := 5) (v := ?_) rfl (by kernel_rfl) (by kernel_rfl) (by kernel_rfl) (fun _ _ _ h => h) (by rfl) ?_ hS ?_
      rotate_left
      · intro w' hLat; clear hLat; go_simp <;> with_reducible rfl
      try simp only [Act.put, List.setIfInBounds_toArray, List.set_cons_zero, List.set_cons_succ, List.getElem_toArray, List.getElem_cons_zero, List.getElem_cons_succ]
      refine Disk.two_keep (i := 6) (j := 10) (by kernel_rfl) ?_ ?_
      · refine Disk.keep_step rfl (by rfl) ?_
        go_simp
        refine Calls.mono (HND.out wd hbd) ?_
        rintro e x1 ⟨rfl, ⟨hA1, hOK1⟩, hk1⟩
        have HNO := HNB.out hOK1
        have HSZ := HSZ0.out hOK1
        clear hOK1
        have hS1 := HSF.out x1 hA1
        refine ⟨hS1, ?_⟩
        try simp only [Act.put, List.setIfInBounds_toArray, List.set_cons_zero, List.set_cons_succ, List.getElem_toArray, List.getElem_cons_zero, List.getElem_cons_succ]
        refine take_s (i := 7) (v := ?_) rfl (by kernel_rfl) (by kernel_rfl) (by kernel_rfl) (fun _ _ _ h => h) (by rfl) ?_ hS1 ?_
        rotate_left
        · intro w' hLat; clear hLat; go_simp <;> with_reducible rfl
        try simp only [Act.put, List.setIfInBounds_toArray, List.set_cons_zero, List.set_cons_succ, List.getElem_toArray, List.getElem_cons_zero, List.getElem_cons_succ]
        refine take_s (i := 8) (v := ?_) rfl (by kernel_rfl) (by kernel_rfl) (by kernel_rfl) (fun _ _ _ h => h) (by rfl) ?_ hS1 ?_
        rotate_left
        · intro w' hLat; clear hLat; go_simp <;> with_reducible rfl
        try simp only [Act.put, List.setIfInBounds_toArray, List.set_cons_zero, List.set_cons_succ, List.getElem_toArray, List.getElem_cons_zero, List.getElem_cons_succ]
        refine take_s (i := 9) (v := ?_) rfl (by kernel_rfl) (by kernel_rfl) (by kernel_rfl) (fun _ _ _ h => h) (by rfl) ?_ hS1 ?_
        rotate_left
        · intro w' hLat; clear hLat; go_simp <;> with_reducible rfl
        try simp only [Act.put, List.setIfInBounds_toArray, List.set_cons_zero, List.set_cons_succ, List.getElem_toArray, List.getElem_cons_zero, List.getElem_cons_succ]
        refine Disk.one_keep (i := 10) (by kernel_rfl) ?_
        refine Disk.keep_step rfl (by rfl) ?_
        unfold Oper.wp
        rw [exec_alloc 107 rfl _ zeroN]
        obtain ⟨x2, hx2e⟩ : ∃ x2, x1.alloc (.cells (na zn) 107) = x2 := ⟨_, rfl⟩
        obtain ⟨Bn, hBne⟩ : ∃ Bn, x1.heap.size = Bn := ⟨_, rfl⟩
        rw [hx2e, hBne]
        have hBz : x2.heap[Bn]? = some (.cells (na zn) 107 (0, 0)) := by rw [← hx2e, ← hBne]; exact al_at rfl
        have hA2 := HAB.out x1 x2 hA1 (by rw [← hx2e]; exact (Below.refl _ _).alloc (Nat.le_refl _) _)
        have hBn : W.heap.size ≤ Bn := by rw [← hBne]; exact HSI.out x1 hA1
        clear hx2e hBne
        refine ⟨HSF.out x2 hA2, ?_⟩
        try simp only [Act.put, List.setIfInBounds_toArray, List.set_cons_zero, List.set_cons_succ, List.getElem_toArray, List.getElem_cons_zero, List.getElem_cons_succ]
        refine Disk.one_keep (i := 11) (by kernel_rfl) ?_
        refine Disk.keep_step rfl (by rfl) ?_
        refine wp_store_mid 107 (.tmp 6) (.tmp 23) rfl Bn 0 (na N) rfl rfl (there_row hBz (by have h1 := HSZ.out.1; have h2 := HSZ.out.2.1; omega)) HSZ.out.2.2 (all_na N) ?_
        obtain ⟨y, hy⟩ : ∃ y, x2.setCells Bn 0 (na N).toList = y := ⟨_, rfl⟩
        rw [hy]
        obtain ⟨hAy, hBy⟩ := HAS.out x2 y Bn HSZ.out.1 hA2 hBz hBn hy
        have hSy := HSF.out y hAy
        refine ⟨hSy, ?_⟩
        try simp only [Act.put, List.getElem_toArray, List.getElem_cons_zero, List.getElem_cons_succ]
        refine take_s (i := 12) (v := ?_) rfl (by kernel_rfl) (by kernel_rfl) (by kernel_rfl) (fun _ _ _ h => h) (by rfl) ?_ hSy ?_
        rotate_left
        · intro w' hLat; clear hLat; go_simp <;> with_reducible rfl
        try simp only [Act.put, List.setIfInBounds_toArray, List.set_cons_zero, List.set_cons_succ, List.getElem_toArray, List.getElem_cons_zero, List.getElem_cons_succ]
        refine wpAnyH_done (by kernel_rfl) ?_ _
        have HAY : Box (Aft y ∧ y.heap[Bn]? = some (.cells (na N) 107 (0, 0)) ∧ W.heap.size ≤ Bn) := ⟨hAy, hBy, hBn⟩
        clear hAy hBy hSy hy hA2 hBz hBn hS1 hA1 hk1 hS hbd
        obtain ⟨GU, GN, GB, GM⟩ := HOK.out y Bn HAY.out
        gi_wp2
        refine begin_in (But nb) (by kernel_rfl) (nodef _ (by kernel_rfl)) (fun ⟨_, _, h⟩ => h) (fun wd hwd => ?_)
        subst hwd
        refine Disk.take_but (i := 0) (v := .pointer (some ⟨U, 0, none⟩)) rfl (by kernel_rfl) (by kernel_rfl) (by kernel_rfl) (fun _ _ _ h => h) (by rfl) (fun w' hB => Disk.exec_load1 81 _ _ rfl Tryz.underlying81 rfl _ rfl _ (Disk.but_cell hB GU.out.1 GU.out.2)) ?_
        try simp only [Act.put, List.setIfInBounds_toArray, List.set_cons_zero, List.set_cons_succ, List.getElem_toArray, List.getElem_cons_zero]
        refine Disk.take_but (i := 1) (v := ?_) rfl (by kernel_rfl) (by kernel_rfl) (by kernel_rfl) (fun _ _ _ h => h) (by rfl) ?_ ?_
        rotate_left
        · intro w' hB; clear hB; go_simp <;> with_reducible rfl
        try simp only [Act.put, List.setIfInBounds_toArray, List.set_cons_zero, List.set_cons_succ, List.getElem_toArray, List.getElem_cons_zero, List.getElem_cons_succ]
        refine Disk.take_but (i := 2) (v := ?_) rfl (by kernel_rfl) (by kernel_rfl) (by kernel_rfl) (fun _ _ _ h => h) (by rfl) ?_ ?_
        rotate_left
        · intro w' hB; clear hB; go_simp <;> with_reducible rfl
        try simp only [Act.put, List.setIfInBounds_toArray, List.set_cons_zero, List.set_cons_succ, List.getElem_toArray, List.getElem_cons_zero, List.getElem_cons_succ]
        refine Disk.take_but (i := 3) (v := .map (some nb)) rfl (by kernel_rfl) (by kernel_rfl) (by kernel_rfl) (fun _ _ _ h => h) (by rfl) (fun w' hB => Disk.exec_load1 86 _ _ rfl Tryz.underlying86 rfl _ rfl _ (Disk.but_cell hB GN.out.1 GN.out.2)) ?_
        try simp only [Act.put, List.setIfInBounds_toArray, List.set_cons_zero, List.set_cons_succ, List.getElem_toArray, List.getElem_cons_zero, List.getElem_cons_succ]
        refine Disk.take_but (i := 4) (v := ?_) rfl (by kernel_rfl) (by kernel_rfl) (by kernel_rfl) (fun _ _ _ h => h) (by rfl) ?_ ?_
        rotate_left
        · intro w' hB; clear hB; go_simp <;> with_reducible rfl
        try simp only [Act.put, List.setIfInBounds_toArray, List.set_cons_zero, List.set_cons_succ, List.getElem_toArray, List.getElem_cons_zero, List.getElem_cons_succ]
        refine Disk.take_but (i := 5) (v := .agg (na N)) rfl (by kernel_rfl) (by kernel_rfl) (by kernel_rfl) (fun _ _ _ h => h) (by rfl) (fun w' hB => exec_node Tryz.underlying107 infoN (.tmp 6) rfl Bn rfl N HNO.out.1 HNO.out.2 ((hB.block Bn GB.out.2.1 GB.out.2.2).trans GB.out.1)) ?_
        try simp only [Act.put, List.setIfInBounds_toArray, List.set_cons_zero, List.set_cons_succ, List.getElem_toArray, List.getElem_cons_zero, List.getElem_cons_succ]
        refine last_map (i := 6) rfl (by kernel_rfl) (by rfl) (by kernel_rfl) (.tmp 31) (.tmp 32) (.tmp 33) (.inl rfl) Tryz.underlying86 Tryz.underlying3 _ rfl GM.out _ rfl _ rfl (fun w' hM' hB' hz' => ?_)
        exact HFO.out y w' Bn HNO.out HAY.out hM' ⟨hB'.os, hB'.tape, hB'.output, hB'.size, hB'.block⟩
      · refine Disk.keep_step rfl (by rfl) ?_
        unfold Oper.wp
        rw [exec_alloc 107 rfl _ zeroN]
        obtain ⟨x0, hx0e⟩ : ∃ x0, wd.alloc (.cells (na zn) 107) = x0 := ⟨_, rfl⟩
        obtain ⟨Bn, hBne⟩ : ∃ Bn, wd.heap.size = Bn := ⟨_, rfl⟩
        rw [hx0e, hBne]
        have hb0 : Below W.heap.size W x0 := by rw [← hx0e]; exact hbd.alloc hbd.size _
        have hB0z : x0.heap[Bn]? = some (.cells (na zn) 107 (0, 0)) := by rw [← hx0e, ← hBne]; exact al_at rfl
        have hBn : W.heap.size ≤ Bn := by rw [← hBne]; exact hbd.size
        clear hx0e hBne
        refine ⟨HSW.out x0 hb0, ?_⟩
        try simp only [Act.put, List.setIfInBounds_toArray, List.set_cons_zero, List.set_cons_succ, List.getElem_toArray, List.getElem_cons_zero, List.getElem_cons_succ]
        refine Disk.one_keep (i := 6) (by kernel_rfl) ?_
        refine Disk.keep_step rfl (by rfl) ?_
        go_simp
        refine Calls.mono (HND.out x0 hb0) ?_
        rintro e x1 ⟨rfl, ⟨hA1, hOK1⟩, hk1⟩
        have HNO := HNB.out hOK1
        have HSZ := HSZ0.out hOK1
        clear hOK1
        have hS1 := HSF.out x1 hA1
        refine ⟨hS1, ?_⟩
        try simp only [Act.put, List.setIfInBounds_toArray, List.set_cons_zero, List.set_cons_succ, List.getElem_toArray, List.getElem_cons_zero, List.getElem_cons_succ]
        have hBz1 : x1.heap[Bn]? = some (.cells (na zn) 107 (0, 0)) := (hk1 Bn hBn (Array.getElem?_eq_some_iff.1 hB0z).1).trans hB0z
        refine take_s (i := 7) (v := ?_) rfl (by kernel_rfl) (by kernel_rfl) (by kernel_rfl) (fun _ _ _ h => h) (by rfl) ?_ hS1 ?_
        rotate_left
        · intro w' hLat; clear hLat; go_simp <;> with_reducible rfl
        try simp only [Act.put, List.setIfInBounds_toArray, List.set_cons_zero, List.set_cons_succ, List.getElem_toArray, List.getElem_cons_zero, List.getElem_cons_succ]
        refine take_s (i := 8) (v := ?_) rfl (by kernel_rfl) (by kernel_rfl) (by kernel_rfl) (fun _ _ _ h => h) (by rfl) ?_ hS1 ?_
        rotate_left
        · intro w' hLat; clear hLat; go_simp <;> with_reducible rfl
        try simp only [Act.put, List.setIfInBounds_toArray, List.set_cons_zero, List.set_cons_succ, List.getElem_toArray, List.getElem_cons_zero, List.getElem_cons_succ]
        refine take_s (i := 9) (v := ?_) rfl (by kernel_rfl) (by kernel_rfl) (by kernel_rfl) (fun _ _ _ h => h) (by rfl) ?_ hS1 ?_
        rotate_left
        · intro w' hLat; clear hLat; go_simp <;> with_reducible rfl
        try simp only [Act.put, List.setIfInBounds_toArray, List.set_cons_zero, List.set_cons_succ, List.getElem_toArray, List.getElem_cons_zero, List.getElem_cons_succ]
        obtain ⟨x2, hx2e⟩ : ∃ x2, x1 = x2 := ⟨_, rfl⟩
        have hA2 : Aft x2 := by rw [← hx2e]; exact hA1
        have hBz : x2.heap[Bn]? = some (.cells (na zn) 107 (0, 0)) := by rw [← hx2e]; exact hBz1
        rw [hx2e]
        clear hBz1 hB0z hb0 hx2e
        refine Disk.one_keep (i := 11) (by kernel_rfl) ?_
        refine Disk.keep_step rfl (by rfl) ?_
        refine wp_store_mid 107 (.tmp 6) (.tmp 23) rfl Bn 0 (na N) rfl rfl (there_row hBz (by have h1 := HSZ.out.1; have h2 := HSZ.out.2.1; omega)) HSZ.out.2.2 (all_na N) ?_
        obtain ⟨y, hy⟩ : ∃ y, x2.setCells Bn 0 (na N).toList = y := ⟨_, rfl⟩
        rw [hy]
        obtain ⟨hAy, hBy⟩ := HAS.out x2 y Bn HSZ.out.1 hA2 hBz hBn hy
        have hSy := HSF.out y hAy
        refine ⟨hSy, ?_⟩
        try simp only [Act.put, List.getElem_toArray, List.getElem_cons_zero, List.getElem_cons_succ]
        refine take_s (i := 12) (v := ?_) rfl (by kernel_rfl) (by kernel_rfl) (by kernel_rfl) (fun _ _ _ h => h) (by rfl) ?_ hSy ?_
        rotate_left
        · intro w' hLat; clear hLat; go_simp <;> with_reducible rfl
        try simp only [Act.put, List.setIfInBounds_toArray, List.set_cons_zero, List.set_cons_succ, List.getElem_toArray, List.getElem_cons_zero, List.getElem_cons_succ]
        refine wpAnyH_done (by kernel_rfl) ?_ _
        have HAY : Box (Aft y ∧ y.heap[Bn]? = some (.cells (na N) 107 (0, 0)) ∧ W.heap.size ≤ Bn) := ⟨hAy, hBy, hBn⟩
        clear hAy hBy hSy hy hA2 hBz hBn hS1 hA1 hk1 hS hbd
        obtain ⟨GU, GN, GB, GM⟩ := HOK.out y Bn HAY.out
        gi_wp2
        refine begin_in (But nb) (by kernel_rfl) (nodef _ (by kernel_rfl)) (fun ⟨_, _, h⟩ => h) (fun wd hwd => ?_)
        subst hwd
        refine Disk.take_but (i := 0) (v := .pointer (some ⟨U, 0, none⟩)) rfl (by kernel_rfl) (by kernel_rfl) (by kernel_rfl) (fun _ _ _ h => h) (by rfl) (fun w' hB => Disk.exec_load1 81 _ _ rfl Tryz.underlying81 rfl _ rfl _ (Disk.but_cell hB GU.out.1 GU.out.2)) ?_
        try simp only [Act.put, List.setIfInBounds_toArray, List.set_cons_zero, List.set_cons_succ, List.getElem_toArray, List.getElem_cons_zero]
        refine Disk.take_but (i := 1) (v := ?_) rfl (by kernel_rfl) (by kernel_rfl) (by kernel_rfl) (fun _ _ _ h => h) (by rfl) ?_ ?_
        rotate_left
        · intro w' hB; clear hB; go_simp <;> with_reducible rfl
        try simp only [Act.put, List.setIfInBounds_toArray, List.set_cons_zero, List.set_cons_succ, List.getElem_toArray, List.getElem_cons_zero, List.getElem_cons_succ]
        refine Disk.take_but (i := 2) (v := ?_) rfl (by kernel_rfl) (by kernel_rfl) (by kernel_rfl) (fun _ _ _ h => h) (by rfl) ?_ ?_
        rotate_left
        · intro w' hB; clear hB; go_simp <;> with_reducible rfl
        try simp only [Act.put, List.setIfInBounds_toArray, List.set_cons_zero, List.set_cons_succ, List.getElem_toArray, List.getElem_cons_zero, List.getElem_cons_succ]
        refine Disk.take_but (i := 3) (v := .map (some nb)) rfl (by kernel_rfl) (by kernel_rfl) (by kernel_rfl) (fun _ _ _ h => h) (by rfl) (fun w' hB => Disk.exec_load1 86 _ _ rfl Tryz.underlying86 rfl _ rfl _ (Disk.but_cell hB GN.out.1 GN.out.2)) ?_
        try simp only [Act.put, List.setIfInBounds_toArray, List.set_cons_zero, List.set_cons_succ, List.getElem_toArray, List.getElem_cons_zero, List.getElem_cons_succ]
        refine Disk.take_but (i := 4) (v := ?_) rfl (by kernel_rfl) (by kernel_rfl) (by kernel_rfl) (fun _ _ _ h => h) (by rfl) ?_ ?_
        rotate_left
        · intro w' hB; clear hB; go_simp <;> with_reducible rfl
        try simp only [Act.put, List.setIfInBounds_toArray, List.set_cons_zero, List.set_cons_succ, List.getElem_toArray, List.getElem_cons_zero, List.getElem_cons_succ]
        refine Disk.take_but (i := 5) (v := .agg (na N)) rfl (by kernel_rfl) (by kernel_rfl) (by kernel_rfl) (fun _ _ _ h => h) (by rfl) (fun w' hB => exec_node Tryz.underlying107 infoN (.tmp 6) rfl Bn rfl N HNO.out.1 HNO.out.2 ((hB.block Bn GB.out.2.1 GB.out.2.2).trans GB.out.1)) ?_
        try simp only [Act.put, List.setIfInBounds_toArray, List.set_cons_zero, List.set_cons_succ, List.getElem_toArray, List.getElem_cons_zero, List.getElem_cons_succ]
        refine last_map (i := 6) rfl (by kernel_rfl) (by rfl) (by kernel_rfl) (.tmp 31) (.tmp 32) (.tmp 33) (.inl rfl) Tryz.underlying86 Tryz.underlying3 _ rfl GM.out _ rfl _ rfl (fun w' hM' hB' hz' => ?_)
        exact HFO.out y w' Bn HNO.out HAY.out hM' ⟨hB'.os, hB'.tape, hB'.output, hB'.size, hB'.block⟩
    · have HND0 : ∀ x0, Below W.heap.size W x0 → Calls Tryz.prog 42 #[.pointer (some ⟨V, 0, none⟩), .map (some kb), .int .i64 (itm v.n (x.l + 1) x.i : Nat)] x0 fun e x1 => e = .returned (.tuple #[.agg (na zn), .int .i64 z.2.1]) ∧ (Aft x1 ∧ OkN zn) ∧ ∀ k, W.heap.size ≤ k → k < x0.heap.size → x1.heap[k]? = x0.heap[k]? := fun x0 hx0 => (CN x0 hx0).mono (fun e x1 h => by
        obtain ⟨fp'', a1, a2, ⟨_, h2, h3⟩ | ⟨h1, _⟩⟩ := h
        · refine ⟨h2, ⟨(hAft x1).2 ⟨fp'', a1, (Fw.below _ fp' hx0).trans a2, by rw [hgz, if_neg hz0]; exact h3⟩, okN_zn⟩, fun k k1 k2 => a2.block k2 (hmap x0 hx0 k k1 k2).1 (hmap x0 hx0 k k1 k2).2⟩
        · exact absurd h1 hz0)
      have HAS : Box (∀ (x2 y : World) (Bn : Nat), (na zn).size = 132 → Aft x2 → x2.heap[Bn]? = some (.cells (na zn) 107 (0, 0)) → W.heap.size ≤ Bn → x2.setCells Bn 0 (na zn).toList = y → Aft y ∧ y.heap[Bn]? = some (.cells (na zn) 107 (0, 0))) := ⟨fun x2 y Bn hsz hx2 hz2 hBn hy => by
        have hzn : (na zn).size = 132 := size_na okN_zn rfl
        refine ⟨hset x2 y Bn hx2 hBn (by rw [← hy]; exact Disk.but_setCells Bn _ 0 _ _ (But.refl _ _)) ⟨_, hz2⟩, ?_⟩
        rw [← hy, Disk.heap_setCells Bn _ _ 0 _ _ hz2 (by first | (simp only [Array.length_toList]; omega) | simp), Disk.splice_all _ _ (by first | rfl | (simp only [Array.length_toList]; omega))]⟩
      have HNB : Box (OkN zn → Box (OkN zn ∧ (zn).length = 4)) := ⟨fun h => ⟨h, rfl⟩⟩
      have HSZ0 : Box (OkN zn → Box ((na zn).size = 132 ∧ (na zn).size = 132 ∧ (Tryz.prog.info? 107).map (·.size) = some (na zn).toList.length)) := ⟨fun h => ⟨size_na h rfl, size_na okN_zn rfl, by rw [Array.length_toList, size_na h rfl]; exact infoN⟩⟩
      have HND : Box _ := ⟨HND0⟩
      have HER : Box (∀ y, Aft y → y.cell? ⟨S + 1 + 1, 0, none⟩ = some (.int .i64 0) ∧ y.frozen? ⟨S + 1 + 1, 0, none⟩ = false) := ⟨fun y hy => by
        have h := (hkeep y hy (S + 2) (by omega) (by omega) (by omega)).trans hI.b2
        exact ⟨by rw [cell_of_row _ _ _ _ _ _ h]; rfl, frozen_of_row _ _ _ _ _ h⟩⟩
      have HFE : Box (∀ (y : World), Aft y → KeepsFrom x4.heap.size W (y.setCell ⟨S + 1 + 1, 0, none⟩ (.int .i64 z.2.1)) ∧ (Code.ret = .ret ∧ (gtM v.key v.n (d, 0, F, G) (pre ++ [x])).2.1 ≠ 0 ∧ ∃ fp' gk' gn', GtI w0 x4 V D fp v sa sc U bb nb kb base S (.slice (some ⟨ig, 0, none⟩) its.length ic) its.length (itI v.n its) fb (gtM v.key v.n (d, 0, F, G) (pre ++ [x])).1 (gtM v.key v.n (d, 0, F, G) (pre ++ [x])).2.2.1 (gtM v.key v.n (d, 0, F, G) (pre ++ [x])).2.2.2 (gtM v.key v.n (d, 0, F, G) (pre ++ [x])).2.1 (y.setCell ⟨S + 1 + 1, 0, none⟩ (.int .i64 z.2.1)) fp' gk' gn')) := ⟨fun y hy => by
        obtain ⟨fp'', a1, a2, a3⟩ := (hAft y).1 hy
        have hb2y : y.heap[S + 2]? = some (.cells #[.int .i64 0] 28 (0, 0)) := (hkeep y hy (S + 2) (by omega) (by omega) (by omega)).trans hI.b2
        obtain ⟨w', hw'⟩ : ∃ w', y.setCell ⟨S + 1 + 1, 0, none⟩ (.int .i64 z.2.1) = w' := ⟨_, rfl⟩
        have hb : But (S + 2) y w' := by rw [← hw']; exact (But.refl _ _).setCell 0 _
        have hb2 : w'.heap[S + 2]? = some (.cells #[.int .i64 z.2.1] 28 (0, 0)) := by rw [← hw']; exact heap_setCell_same _ _ _ _ _ _ hb2y
        rw [hw']
        have hkp : ∀ k, k < W.heap.size → ¬ fp' k → k ≠ kb → k ≠ S + 2 → w'.heap[k]? = W.heap[k]? := fun k h1 h2 h3 h4 => (hb.block k (Nat.lt_of_lt_of_le h1 a2.size) h4).trans (a2.block h1 h2 h3)
        have hst2 := hst
        rw [if_pos (by simpa using hz0)] at hst2
        rw [hst2]
        have hgz2 := hgz
        rw [if_neg hz0] at hgz2
        have hUs := hI.up
        have hmy := fun k (h1 : B0 ≤ k) (h2 : k < x4.heap.size) (h3 : k ≠ kb) (h4 : k ≠ S + 2) => hkp k (by omega) (hcell k h1 h2) h3 h4
        have hV := hI.vc.row
        have hn2 : ¬ fp'' (S + 2) := a2.k (S + 2) (by omega) (hcell (S + 2) (by omega) (by omega))
        have hVne : S + 2 ≠ V := fun e => by
          rw [← e, hI.b2] at hV
          simp at hV
        have hsh : ∀ ad, sa = some ad → ad.block ≠ S + 2 := fun ad e => by
          have := shp_nb HC.out.1 ad e
          omega
        refine ⟨⟨Nat.le_trans a2.size hb.size, fun k o hBk hk ho => ?_⟩, rfl, hz0, fp'', gz, gn', ?_⟩
        · refine (hkp k (Array.getElem?_eq_some_iff.1 hk).1 (fun hf => ?_) (by omega) (by omega)).trans hk
          obtain ⟨cs, t, e⟩ := hI.vc.cells k hf
          rw [hk] at e
          cases e
          cases ho
        · refine ⟨a1.set (S + 2) hb hn2 hVne hsh (by omega), ⟨(hmy U (by omega) (by omega) (by omega) (by omega)).trans hUs.un, ownsB hUs.own (fun j hj => by cases hj; exact hmy ig (by omega) (by omega) (by have := HIG.out; omega) (by omega)), hUs.mb.same (hmy bb (by omega) (by omega) (by omega) (by omega)), hUs.mn.same (hmy nb (by omega) (by omega) (by omega) (by omega)), a3.same (hb.block kb a3.lt (by omega))⟩, ?_, hI.okf, hI.relg, hI.okg, ?_, (hmy S (by omega) (by omega) (by omega) (by omega)).trans hI.b0, (hmy (S + 1) (by omega) (by omega) (by omega) (by omega)).trans hI.b1, hb2⟩
          · rw [hgz2]; exact hI.rel
          · exact (hI.fw.trans (a2.wider (fun k _ h => .inl h))).trans ((Fw.of_but hb fp'').wider (fun k _ h => .inr (.inr h)))⟩
      obtain ⟨ez, hez⟩ : ∃ ez, z.2.1 = ez := ⟨_, rfl⟩
      have HEZ : Box (ez ≠ 0) := ⟨by rw [← hez]; exact hz0⟩
      rw [hez] at HND HFE
      clear hI hst hset hgz hAft hkeep scn hmap hcell hfw CN hfd hq1 hq2 hq3 hq4 hL hs4 hSN hpl hs0 hs hz hlp hr hlt HND0 hz0 hez
      have hez0 := HEZ.out
      simp only [List.setIfInBounds_toArray, List.set_cons_succ, List.set_cons_zero]
      gi_wp2
      refine begin_in (fun _ => Scn S V U kb) (by kernel_rfl) (nodef _ (by kernel_rfl)) (fun ⟨_, _, h⟩ => h) (fun wd hwd => ?_)
      have hbd : Below W.heap.size W wd := by rw [hwd]; exact (Below.refl _ _).drew
      clear hwd
      have hS := HSW.out wd hbd
      refine take_s (i := 0) (v := .pointer (some ⟨V, 0, none⟩)) rfl (by kernel_rfl) (by kernel_rfl) (by kernel_rfl) (fun _ _ _ h => h) (by rfl) (fun w' hLat => Disk.exec_load1 31 _ _ rfl Tryz.underlying31 rfl _ rfl _ hLat.1) hS ?_
      try simp only [Act.put, List.setIfInBounds_toArray, List.set_cons_zero, List.set_cons_succ, List.getElem_toArray, List.getElem_cons_zero]
      refine take_s (i := 1) (v := .pointer (some ⟨U, 0, none⟩)) rfl (by kernel_rfl) (by kernel_rfl) (by kernel_rfl) (fun _ _ _ h => h) (by rfl) (fun w' hLat => Disk.exec_load1 81 _ _ rfl Tryz.underlying81 rfl _ rfl _ hLat.2.1) hS ?_
      try simp only [Act.put, List.setIfInBounds_toArray, List.set_cons_zero, List.set_cons_succ, List.getElem_toArray, List.getElem_cons_zero, List.getElem_cons_succ]
      refine take_s (i := 2) (v := ?_) rfl (by kernel_rfl) (by kernel_rfl) (by kernel_rfl) (fun _ _ _ h => h) (by rfl) ?_ hS ?_
      rotate_left
      · intro w' hLat; clear hLat; go_simp <;> with_reducible rfl
      try simp only [Act.put, List.setIfInBounds_toArray, List.set_cons_zero, List.set_cons_succ, List.getElem_toArray, List.getElem_cons_zero, List.getElem_cons_succ]
      refine take_s (i := 3) (v := ?_) rfl (by kernel_rfl) (by kernel_rfl) (by kernel_rfl) (fun _ _ _ h => h) (by rfl) ?_ hS ?_
      rotate_left
      · intro w' hLat; clear hLat; go_simp <;> with_reducible rfl
      try simp only [Act.put, List.setIfInBounds_toArray, List.set_cons_zero, List.set_cons_succ, List.getElem_toArray, List.getElem_cons_zero, List.getElem_cons_succ]
      refine take_s (i := 4) (v := .map (some kb)) rfl (by kernel_rfl) (by kernel_rfl) (by kernel_rfl) (fun _ _ _ h => h) (by rfl) (fun w' hLat => Disk.exec_load1 88 _ _ rfl Tryz.underlying88 rfl _ rfl _ hLat.2.2) hS ?_
      try simp only [Act.put, List.setIfInBounds_toArray, List.set_cons_zero, List.set_cons_succ, List.getElem_toArray, List.getElem_cons_zero, List.getElem_cons_succ]
      refine take_s (i := 5) (v := ?_) rfl (by kernel_rfl) (by kernel_rfl) (by kernel_rfl) (fun _ _ _ h => h) (by rfl) ?_ hS ?_
      rotate_left
      · intro w' hLat; clear hLat; go_simp <;> with_reducible rfl
      try simp only [Act.put, List.setIfInBounds_toArray, List.set_cons_zero, List.set_cons_succ, List.getElem_toArray, List.getElem_cons_zero, List.getElem_cons_succ]
      refine Disk.two_keep (i := 6) (j := 10) (by kernel_rfl) ?_ ?_
      · refine Disk.keep_step rfl (by rfl) ?_
        go_simp
        refine Calls.mono (HND.out wd hbd) ?_
        rintro e x1 ⟨rfl, ⟨hA1, hOK1⟩, hk1⟩
        have HNO := HNB.out hOK1
        have HSZ := HSZ0.out hOK1
        clear hOK1
        have hS1 := HSF.out x1 hA1
        refine ⟨hS1, ?_⟩
        try simp only [Act.put, List.setIfInBounds_toArray, List.set_cons_zero, List.set_cons_succ, List.getElem_toArray, List.getElem_cons_zero, List.getElem_cons_succ]
        refine take_s (i := 7) (v := ?_) rfl (by kernel_rfl) (by kernel_rfl) (by kernel_rfl) (fun _ _ _ h => h) (by rfl) ?_ hS1 ?_
        rotate_left
        · intro w' hLat; clear hLat; go_simp <;> with_reducible rfl
        try simp only [Act.put, List.setIfInBounds_toArray, List.set_cons_zero, List.set_cons_succ, List.getElem_toArray, List.getElem_cons_zero, List.getElem_cons_succ]
        refine take_s (i := 8) (v := ?_) rfl (by kernel_rfl) (by kernel_rfl) (by kernel_rfl) (fun _ _ _ h => h) (by rfl) ?_ hS1 ?_
        rotate_left
        · intro w' hLat; clear hLat; go_simp <;> with_reducible rfl
        try simp only [Act.put, List.setIfInBounds_toArray, List.set_cons_zero, List.set_cons_succ, List.getElem_toArray, List.getElem_cons_zero, List.getElem_cons_succ]
        refine take_s (i := 9) (v := ?_) rfl (by kernel_rfl) (by kernel_rfl) (by kernel_rfl) (fun _ _ _ h => h) (by rfl) ?_ hS1 ?_
        rotate_left
        · intro w' hLat; clear hLat; go_simp <;> with_reducible rfl
        try simp only [Act.put, List.setIfInBounds_toArray, List.set_cons_zero, List.set_cons_succ, List.getElem_toArray, List.getElem_cons_zero, List.getElem_cons_succ]
        refine Disk.one_keep (i := 10) (by kernel_rfl) ?_
        refine Disk.keep_step rfl (by rfl) ?_
        unfold Oper.wp
        rw [exec_alloc 107 rfl _ zeroN]
        obtain ⟨x2, hx2e⟩ : ∃ x2, x1.alloc (.cells (na zn) 107) = x2 := ⟨_, rfl⟩
        obtain ⟨Bn, hBne⟩ : ∃ Bn, x1.heap.size = Bn := ⟨_, rfl⟩
        rw [hx2e, hBne]
        have hBz : x2.heap[Bn]? = some (.cells (na zn) 107 (0, 0)) := by rw [← hx2e, ← hBne]; exact al_at rfl
        have hA2 := HAB.out x1 x2 hA1 (by rw [← hx2e]; exact (Below.refl _ _).alloc (Nat.le_refl _) _)
        have hBn : W.heap.size ≤ Bn := by rw [← hBne]; exact HSI.out x1 hA1
        clear hx2e hBne
        refine ⟨HSF.out x2 hA2, ?_⟩
        try simp only [Act.put, List.setIfInBounds_toArray, List.set_cons_zero, List.set_cons_succ, List.getElem_toArray, List.getElem_cons_zero, List.getElem_cons_succ]
        refine Disk.one_keep (i := 11) (by kernel_rfl) ?_
        refine Disk.keep_step rfl (by rfl) ?_
        refine wp_store_mid 107 (.tmp 6) (.tmp 23) rfl Bn 0 (na zn) rfl rfl (there_row hBz (by have h1 := HSZ.out.1; have h2 := HSZ.out.2.1; omega)) HSZ.out.2.2 (all_na zn) ?_
        obtain ⟨y, hy⟩ : ∃ y, x2.setCells Bn 0 (na zn).toList = y := ⟨_, rfl⟩
        rw [hy]
        obtain ⟨hAy, hBy⟩ := HAS.out x2 y Bn HSZ.out.1 hA2 hBz hBn hy
        have hSy := HSF.out y hAy
        refine ⟨hSy, ?_⟩
        try simp only [Act.put, List.getElem_toArray, List.getElem_cons_zero, List.getElem_cons_succ]
        refine take_s (i := 12) (v := ?_) rfl (by kernel_rfl) (by kernel_rfl) (by kernel_rfl) (fun _ _ _ h => h) (by rfl) ?_ hSy ?_
        rotate_left
        · intro w' hLat; clear hLat; go_simp <;> with_reducible rfl
        try simp only [Act.put, List.setIfInBounds_toArray, List.set_cons_zero, List.set_cons_succ, List.getElem_toArray, List.getElem_cons_zero, List.getElem_cons_succ]
        refine wpAnyH_done (by kernel_rfl) ?_ _
        have HAY : Box (Aft y ∧ y.heap[Bn]? = some (.cells (na zn) 107 (0, 0)) ∧ W.heap.size ≤ Bn) := ⟨hAy, hBy, hBn⟩
        clear hAy hBy hSy hy hA2 hBz hBn hS1 hA1 hk1 hS hbd
        obtain ⟨d1, d2⟩ := HER.out y HAY.out.1
        gi_wp2
        have hfe := HFE.out y HAY.out.1
        exact ⟨hfe.1, rfl, hfe.2.2⟩
      · refine Disk.keep_step rfl (by rfl) ?_
        unfold Oper.wp
        rw [exec_alloc 107 rfl _ zeroN]
        obtain ⟨x0, hx0e⟩ : ∃ x0, wd.alloc (.cells (na zn) 107) = x0 := ⟨_, rfl⟩
        obtain ⟨Bn, hBne⟩ : ∃ Bn, wd.heap.size = Bn := ⟨_, rfl⟩
        rw [hx0e, hBne]
        have hb0 : Below W.heap.size W x0 := by rw [← hx0e]; exact hbd.alloc hbd.size _
        have hB0z : x0.heap[Bn]? = some (.cells (na zn) 107 (0, 0)) := by rw [← hx0e, ← hBne]; exact al_at rfl
        have hBn : W.heap.size ≤ Bn := by rw [← hBne]; exact hbd.size
        clear hx0e hBne
        refine ⟨HSW.out x0 hb0, ?_⟩
        try simp only [Act.put, List.setIfInBounds_toArray, List.set_cons_zero, List.set_cons_succ, List.getElem_toArray, List.getElem_cons_zero, List.getElem_cons_succ]
        refine Disk.one_keep (i := 6) (by kernel_rfl) ?_
        refine Disk.keep_step rfl (by rfl) ?_
        go_simp
        refine Calls.mono (HND.out x0 hb0) ?_
        rintro e x1 ⟨rfl, ⟨hA1, hOK1⟩, hk1⟩
        have HNO := HNB.out hOK1
        have HSZ := HSZ0.out hOK1
        clear hOK1
        have hS1 := HSF.out x1 hA1
        refine ⟨hS1, ?_⟩
        try simp only [Act.put, List.setIfInBounds_toArray, List.set_cons_zero, List.set_cons_succ, List.getElem_toArray, List.getElem_cons_zero, List.getElem_cons_succ]
        have hBz1 : x1.heap[Bn]? = some (.cells (na zn) 107 (0, 0)) := (hk1 Bn hBn (Array.getElem?_eq_some_iff.1 hB0z).1).trans hB0z
        refine take_s (i := 7) (v := ?_) rfl (by kernel_rfl) (by kernel_rfl) (by kernel_rfl) (fun _ _ _ h => h) (by rfl) ?_ hS1 ?_
        rotate_left
        · intro w' hLat; clear hLat; go_simp <;> with_reducible rfl
        try simp only [Act.put, List.setIfInBounds_toArray, List.set_cons_zero, List.set_cons_succ, List.getElem_toArray, List.getElem_cons_zero, List.getElem_cons_succ]
        refine take_s (i := 8) (v := ?_) rfl (by kernel_rfl) (by kernel_rfl) (by kernel_rfl) (fun _ _ _ h => h) (by rfl) ?_ hS1 ?_
        rotate_left
        · intro w' hLat; clear hLat; go_simp <;> with_reducible rfl
        try simp only [Act.put, List.setIfInBounds_toArray, List.set_cons_zero, List.set_cons_succ, List.getElem_toArray, List.getElem_cons_zero, List.getElem_cons_succ]
        refine take_s (i := 9) (v := ?_) rfl (by kernel_rfl) (by kernel_rfl) (by kernel_rfl) (fun _ _ _ h => h) (by rfl) ?_ hS1 ?_
        rotate_left
        · intro w' hLat; clear hLat; go_simp <;> with_reducible rfl
        try simp only [Act.put, List.setIfInBounds_toArray, List.set_cons_zero, List.set_cons_succ, List.getElem_toArray, List.getElem_cons_zero, List.getElem_cons_succ]
        obtain ⟨x2, hx2e⟩ : ∃ x2, x1 = x2 := ⟨_, rfl⟩
        have hA2 : Aft x2 := by rw [← hx2e]; exact hA1
        have hBz : x2.heap[Bn]? = some (.cells (na zn) 107 (0, 0)) := by rw [← hx2e]; exact hBz1
        rw [hx2e]
        clear hBz1 hB0z hb0 hx2e
        refine Disk.one_keep (i := 11) (by kernel_rfl) ?_
        refine Disk.keep_step rfl (by rfl) ?_
        refine wp_store_mid 107 (.tmp 6) (.tmp 23) rfl Bn 0 (na zn) rfl rfl (there_row hBz (by have h1 := HSZ.out.1; have h2 := HSZ.out.2.1; omega)) HSZ.out.2.2 (all_na zn) ?_
        obtain ⟨y, hy⟩ : ∃ y, x2.setCells Bn 0 (na zn).toList = y := ⟨_, rfl⟩
        rw [hy]
        obtain ⟨hAy, hBy⟩ := HAS.out x2 y Bn HSZ.out.1 hA2 hBz hBn hy
        have hSy := HSF.out y hAy
        refine ⟨hSy, ?_⟩
        try simp only [Act.put, List.getElem_toArray, List.getElem_cons_zero, List.getElem_cons_succ]
        refine take_s (i := 12) (v := ?_) rfl (by kernel_rfl) (by kernel_rfl) (by kernel_rfl) (fun _ _ _ h => h) (by rfl) ?_ hSy ?_
        rotate_left
        · intro w' hLat; clear hLat; go_simp <;> with_reducible rfl
        try simp only [Act.put, List.setIfInBounds_toArray, List.set_cons_zero, List.set_cons_succ, List.getElem_toArray, List.getElem_cons_zero, List.getElem_cons_succ]
        refine wpAnyH_done (by kernel_rfl) ?_ _
        have HAY : Box (Aft y ∧ y.heap[Bn]? = some (.cells (na zn) 107 (0, 0)) ∧ W.heap.size ≤ Bn) := ⟨hAy, hBy, hBn⟩
        clear hAy hBy hSy hy hA2 hBz hBn hS1 hA1 hk1 hS hbd
        obtain ⟨d1, d2⟩ := HER.out y HAY.out.1
        gi_wp2
        have hfe := HFE.out y HAY.out.1
        exact ⟨hfe.1, rfl, hfe.2.2⟩
  case done =>
    rintro Dd ys W hD rfl ⟨hs0, fp', gk', gn', hI⟩ hK
    rename_i KK ax
    obtain ⟨s, hs⟩ : ∃ s, gtM v.key v.n (d, 0, F, G) (dnL v.n its (topL v.n)) = s := ⟨_, rfl⟩
    rw [hs] at hs0 hI
    have HI : Box _ := ⟨hI⟩
    have HKD : Box (W.heap[Dd]? = some (.deferred (some [])) ∧ x4.heap.size ≤ Dd) := ⟨hK, hD⟩
    have HS0 : Box (s.2.1 = 0) := ⟨hs0⟩
    have HGS : Box _ := ⟨hs⟩
    have d1 : W.cell? ⟨S + 1 + 1, 0, none⟩ = some (.int .i64 0) := by rw [cell_of_row _ _ _ _ _ _ hI.b2]; rfl
    have d2 : W.frozen? ⟨S + 1 + 1, 0, none⟩ = false := frozen_of_row _ _ _ _ _ hI.b2
    clear hI hK hD hs0 hs
    show KK _ _
    refine ax _ _ ?_
    clear ax
    go_wp2
    have hf := HFI.out Dd W (W.setCell ⟨S + 1 + 1, 0, none⟩ (.int .i64 0)) s fp' gk' gn' 0 0 HGS.out HS0.out.symm HI.out HKD.out.1 HKD.out.2 (.inl rfl)
    refine ret_mark Dd ?_ hf.1 (.int .i64 0) ?_ hf.2.2
    · rfl
    · exact results_C1 (t := 4) rfl _ _ (S + 1 + 1) _ _ Tryz.underlying28 rfl (by rfl) hf.2.1
  case stop =>
    rintro Dd c pre W hD ⟨suf, hsuf⟩ ⟨rfl, hs0, fp', gk', gn', hI⟩ hK
    rename_i KK ax
    clear ax
    obtain ⟨s, hs⟩ : ∃ s, gtM v.key v.n (d, 0, F, G) pre = s := ⟨_, rfl⟩
    rw [hs] at hs0 hI
    have hall : gtM v.key v.n (d, 0, F, G) (dnL v.n its (topL v.n)) = s := by
      rw [← hsuf, gtM_app, hs]
      exact gtM_err v.key v.n suf s hs0
    have hf := HFI.out Dd W W s fp' gk' gn' _ s.2.1 hall rfl hI hK hD (.inr ⟨rfl, rfl⟩)
    refine wpIn_ret ?_
    refine ret_mark Dd ?_ hf.1 (.int .i64 s.2.1) ?_ hf.2.2
    · rfl
    · exact results_C1 (t := 4) rfl _ _ (S + 1 + 1) _ _ Tryz.underlying28 rfl (by rfl) hf.2.1
end Go.Proofs.YthbbijaikcmaeaaGreatDoor
