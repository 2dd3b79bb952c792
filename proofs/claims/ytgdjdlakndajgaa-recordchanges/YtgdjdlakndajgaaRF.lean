/-
  RecordBack, plainly: the records of changes, one behind the other; what is gathered, and what turns.
-/
import Derived.Test.YtgdjdlakndajgaaRL
namespace Go.Proofs.Ytgdjdlakndajgaa
set_option linter.unusedVariables false
open Go.RowKit Plain

set_option maxHeartbeats 400000 in
theorem of_zero (a : Option Addr) (n cap : Nat) (HZ : Box (n = 0)) (w : World) : Calls Try.prog 15 #[.slice a n cap] w fun e w' => e = .returned (.tuple #[.slice none 0 0, .int .i64 1]) ∧ w = w' := by
  have hz : ((n : Int) == 0) = true := by have := HZ.out; simp [this]
  go_enter Try.func15, Try.ntmps15
  go_wp2
  go_ret2
  exact ⟨rfl, rfl⟩
theorem foldl_of (d : List (Int × List Int)) (hd : d ≠ []) (o : List (List (Int × List Int))) : (ofP d).foldl chSt (o, []) = (o ++ [d], []) := by
  obtain ⟨D, x, rfl⟩ : ∃ D x, d = D ++ [x] := ⟨d.dropLast, d.getLast hd, (List.dropLast_concat_getLast hd).symm⟩
  rw [ofP_snoc, List.foldl_append]
  have key : ∀ (E : List (Int × List Int)) (nw : List (Int × List Int)), (E.map (fun y => (y, false))).foldl chSt (o, nw) = (o, nw ++ E) := by
    intro E
    induction E with
    | nil => intro nw; simp
    | cons y E ih =>
      intro nw
      rw [List.map_cons, List.foldl_cons]
      have : chSt (o, nw) (y, false) = (o, nw ++ [y]) := by simp [chSt]
      rw [this, ih]
      simp
  rw [key]
  simp [chSt]
theorem chS_of (D : List (List (Int × List Int))) (h : ∀ d ∈ D, d ≠ []) : chS ((D.map ofP).flatten) = (D, []) := by
  have key : ∀ (E : List (List (Int × List Int))) (o : List (List (Int × List Int))), (∀ d ∈ E, d ≠ []) → ((E.map ofP).flatten).foldl chSt (o, []) = (o ++ E, []) := by
    intro E
    induction E with
    | nil => intro o _; simp
    | cons d E ih =>
      intro o hE
      rw [List.map_cons, List.flatten_cons, List.foldl_append, foldl_of d (hE d (by simp)), ih _ (fun x hx => hE x (by simp [hx]))]
      simp
  have := key D [] h
  simpa [chS] using this
theorem last_of (D : List (List (Int × List Int))) (h : ∀ d ∈ D, d ≠ []) (h0 : 0 < ((D.map ofP).flatten).length) : (((D.map ofP).flatten)[((D.map ofP).flatten).length - 1]'(by omega)).2 = true := by
  obtain ⟨E, d, rfl⟩ : ∃ E d, D = E ++ [d] := by
    have : D ≠ [] := by intro e; subst e; simp at h0
    exact ⟨D.dropLast, D.getLast this, (List.dropLast_concat_getLast this).symm⟩
  have hd := h d (by simp)
  obtain ⟨F, x, rfl⟩ : ∃ F x, d = F ++ [x] := ⟨d.dropLast, d.getLast hd, (List.dropLast_concat_getLast hd).symm⟩
  have e : ((E ++ [F ++ [x]]).map ofP).flatten = ((E.map ofP).flatten ++ F.map (fun y => (y, false))) ++ [(x, true)] := by
    simp [ofP_snoc]
  have h2 : (((E ++ [F ++ [x]]).map ofP).flatten)[(((E ++ [F ++ [x]]).map ofP).flatten).length - 1]? = some (x, true) := by
    rw [e]
    simp
  rw [List.getElem?_eq_getElem (by omega)] at h2
  rw [Option.some.inj h2]
/-- What is wanted of a change: where it lies. -/
structure Wx where
  a : Option Addr
  l : Nat
  c : Nat
  P : List (Int × List Int)
def wsl (x : Wx) : List Value := [.slice x.a x.l x.c]
theorem own_grown {w w' : World} {B B' n n' : Nat} {e e' : TypeId} {sz sz' : Nat} {v v' : Value} {xs xs' : List Value} (h : w.ownsRow B e sz v n xs) (hv : w.ownsRow B' e' sz' v' n' xs') (he : e' ≠ e) (hg : w.grownBy w' v'.ownBlock) : w'.ownsRow B e sz v n xs :=
  own_same h (fun k hk => hg.block k (h.lt k hk).2 (fun e2 => own_ne hv h he k e2.symm hk))
/-- What RecordBack has gathered. -/
structure Bk (w wr : World) (D : List (List (Int × List Int))) (v u : Value) (R : List Rc) (Wn : List Wx) : Prop where
  all : wr.ownsRow w.heap.size 30 3 v R.length (R.map rcc).flatten
  byt : ∀ r ∈ R, OIm wr w.heap.size r.m ∧ r.m.bl = 160
  rpls : R.map rpl = (D.map ofP).flatten
  ne : ∀ d ∈ D, d ≠ []
  want : wr.ownsRow w.heap.size 53 1 u Wn.length (Wn.map wsl).flatten
  wim : ∀ x ∈ Wn, x.P.length = x.l ∧ wr.ownsRow w.heap.size 37 2 (.slice x.a x.l x.c) x.l (x.P.map ic).flatten
  wpl : Wn.map (·.P) = D
  bel : Below w.heap.size w wr
  sz : R.length ≤ 8 * D.length
theorem Bk.to {w wr wx : World} {D : List (List (Int × List Int))} {v u : Value} {R : List Rc} {Wn : List Wx} (h : Bk w wr D v u R Wn) (hb : Below wr.heap.size wr wx) : Bk w wx D v u R Wn :=
  ⟨own_to h.all hb, fun r hr => ⟨(h.byt r hr).1.to hb, (h.byt r hr).2⟩, h.rpls, h.ne, own_to h.want hb, fun x hx => ⟨(h.wim x hx).1, own_to (h.wim x hx).2 hb⟩, h.wpl, below_to h.bel hb, h.sz⟩
/-- The records of a change more; what is wanted of it comes later. -/
structure Bh (w wr : World) (D : List (List (Int × List Int))) (d : List (Int × List Int)) (v u : Value) (R : List Rc) (Wn : List Wx) : Prop where
  all : wr.ownsRow w.heap.size 30 3 v R.length (R.map rcc).flatten
  byt : ∀ r ∈ R, OIm wr w.heap.size r.m ∧ r.m.bl = 160
  rpls : R.map rpl = ((D ++ [d]).map ofP).flatten
  ne : ∀ x ∈ D ++ [d], x ≠ []
  want : wr.ownsRow w.heap.size 53 1 u Wn.length (Wn.map wsl).flatten
  wim : ∀ x ∈ Wn, x.P.length = x.l ∧ wr.ownsRow w.heap.size 37 2 (.slice x.a x.l x.c) x.l (x.P.map ic).flatten
  wpl : Wn.map (·.P) = D
  bel : Below w.heap.size w wr
  sz : R.length ≤ 8 * (D.length + 1)
theorem Bk.app {w wr wx : World} {D : List (List (Int × List Int))} {d : List (Int × List Int)} {v v' v2 u : Value} {R R' : List Rc} {Wn : List Wx} (h : Bk w wr D v u R Wn) (B' : Nat) (hB' : w.heap.size ≤ B') (hO : ORecs wr B' v2 R') (hbl : ∀ r ∈ R', r.m.bl = 160) (hd : R'.map rpl = ofP d) (hne : d ≠ []) (hd8 : d.length ≤ 8) (ho : wx.ownsRow w.heap.size 30 3 v' (R.length + R'.length) ((R.map rcc).flatten ++ (R'.map rcc).flatten)) (hg : wr.grownBy wx v.ownBlock) : Bh w wx D d v' u (R ++ R') Wn := by
  refine ⟨?_, fun r hr => ?_, ?_, fun x hx => ?_, own_grown h.want h.all (by decide) hg, fun x hx => ⟨(h.wim x hx).1, own_grown (h.wim x hx).2 h.all (by decide) hg⟩, h.wpl, h.bel.grown hg h.bel.size (fun j hj => (own_blk h.all j hj).1), ?_⟩
  · rw [List.length_append, List.map_append, List.flatten_append]
    exact ho
  · rcases List.mem_append.1 hr with hr | hr
    · exact ⟨(h.byt r hr).1.grown h.all (by decide) hg, (h.byt r hr).2⟩
    · exact ⟨((hO.byt r hr).low hB').grown h.all (by decide) hg, hbl r hr⟩
  · rw [List.map_append, h.rpls, hd]
    simp
  · rcases List.mem_append.1 hx with hx | hx
    · exact h.ne x hx
    · simp at hx
      subst hx
      exact hne
  · have e := congrArg List.length hd
    rw [List.length_map, len_ofP] at e
    have := h.sz
    rw [List.length_append, e]
    omega
theorem Bh.to {w wr wx : World} {D : List (List (Int × List Int))} {d : List (Int × List Int)} {v u : Value} {R : List Rc} {Wn : List Wx} (h : Bh w wr D d v u R Wn) (hb : Below wr.heap.size wr wx) : Bh w wx D d v u R Wn :=
  ⟨own_to h.all hb, fun r hr => ⟨(h.byt r hr).1.to hb, (h.byt r hr).2⟩, h.rpls, h.ne, own_to h.want hb, fun x hx => ⟨(h.wim x hx).1, own_to (h.wim x hx).2 hb⟩, h.wpl, below_to h.bel hb, h.sz⟩
theorem Bh.app {w wr wx : World} {D : List (List (Int × List Int))} {d : List (Int × List Int)} {v u u' : Value} {R : List Rc} {Wn : List Wx} (h : Bh w wr D d v u R Wn) (a : Option Addr) (l c : Nat) (hl : d.length = l) (hm : wr.ownsRow w.heap.size 37 2 (.slice a l c) l (d.map ic).flatten) (ho : wx.ownsRow w.heap.size 53 1 u' (Wn.length + 1) ((Wn.map wsl).flatten ++ [.slice a l c])) (hg : wr.grownBy wx u.ownBlock) : Bk w wx (D ++ [d]) v u' R (Wn ++ [⟨a, l, c, d⟩]) := by
  refine ⟨own_grown h.all h.want (by decide) hg, fun r hr => ⟨(h.byt r hr).1.grown h.want (by decide) hg, (h.byt r hr).2⟩, h.rpls, h.ne, ?_, fun x hx => ?_, by simp [h.wpl], h.bel.grown hg h.bel.size (fun j hj => (own_blk h.want j hj).1), by simpa using h.sz⟩
  · rw [List.length_append, List.map_append, List.flatten_append]
    simpa [wsl] using ho
  · rcases List.mem_append.1 hx with hx | hx
    · exact ⟨(h.wim x hx).1, own_grown (h.wim x hx).2 h.want (by decide) hg⟩
    · simp only [List.mem_cons, List.not_mem_nil, or_false] at hx
      subst hx
      exact ⟨hl, own_grown hm h.want (by decide) hg⟩
/-- Only bytes below B may have turned. -/
structure Mt (B0 B : Nat) (a b : World) : Prop where
  os : b.os = a.os
  tape : b.tape = a.tape
  output : b.output = a.output
  size : b.heap.size = a.heap.size
  keep : ∀ k : Nat, (B ≤ k ∨ k < B0 ∨ ∀ (cs : Array Value) (fr : Nat × Nat), a.heap[k]? ≠ some (.cells cs 5 fr)) → b.heap[k]? = a.heap[k]?
  byt : ∀ (k : Nat) (cs : Array Value), a.heap[k]? = some (.cells cs 5 (0, 0)) → ∃ cs' : Array Value, b.heap[k]? = some (.cells cs' 5 (0, 0)) ∧ cs'.size = cs.size ∧ ∀ (i : Nat) (z : Int), cs[i]? = some (.int .u8 z) → ∃ z', cs'[i]? = some (.int .u8 z')
theorem Mt.refl (B0 B : Nat) (a : World) : Mt B0 B a a := ⟨rfl, rfl, rfl, rfl, fun _ _ => rfl, fun k cs h => ⟨cs, h, rfl, fun i z h => ⟨z, h⟩⟩⟩
theorem Mt.set {B0 B : Nat} {a b : World} (h : Mt B0 B a b) (g i : Nat) (cs : Array Value) (hg : a.heap[g]? = some (.cells cs 5 (0, 0))) (hlo : B0 ≤ g) (hhi : g < B) (z : Int) : Mt B0 B a (b.setCell ⟨g, i, none⟩ (.int .u8 z)) := by
  refine ⟨h.os, h.tape, h.output, by simpa using h.size, fun k hk => ?_, fun k cs2 hk => ?_⟩
  · have hne : k ≠ g := by
      intro e
      subst e
      rcases hk with hk | hk | hk
      · omega
      · omega
      · exact hk cs (0, 0) hg
    rw [heap_setCell_other b ⟨g, i, none⟩ k _ hne]
    exact h.keep k hk
  · obtain ⟨cs', h1, h2, h3⟩ := h.byt k cs2 hk
    by_cases e : k = g
    · subst e
      refine ⟨cs'.setIfInBounds i (.int .u8 z), heap_setCell_same b k i cs' 5 _ h1, by simpa using h2, fun j y hy => ?_⟩
      obtain ⟨y', hy'⟩ := h3 j y hy
      by_cases e2 : i = j
      · subst e2
        have : i < cs'.size := by
          have := (Array.getElem?_eq_some_iff.1 hy').1
          exact this
        exact ⟨z, by simp [this]⟩
      · exact ⟨y', by rw [Array.getElem?_setIfInBounds, if_neg e2]; exact hy'⟩
    · exact ⟨cs', by rw [heap_setCell_other b ⟨g, i, none⟩ k _ e]; exact h1, h2, h3⟩
theorem Mt.own {B0 B Bo n : Nat} {a b : World} (h : Mt B0 B a b) {e : TypeId} {sz : Nat} {v : Value} {xs : List Value} (ho : a.ownsRow Bo e sz v n xs) (he : e ≠ 5 ∨ B ≤ Bo) : b.ownsRow Bo e sz v n xs :=
  own_same ho (fun k hk => by
    obtain ⟨hb, cs, hc⟩ := own_blk ho k hk
    refine h.keep k ?_
    rcases he with he | he
    · exact .inr (.inr (fun cs2 fr h2 => by
        rw [hc] at h2
        simp only [Option.some.injEq, Obj.cells.injEq] at h2
        exact he h2.2.1))
    · exact .inl (by omega))
theorem Mt.below {B0 B : Nat} {w a b : World} (h : Mt B0 B a b) (hb : Below B0 w a) : Below B0 w b :=
  ⟨h.os.trans hb.os, h.tape.trans hb.tape, h.output.trans hb.output, by rw [h.size]; exact hb.size, fun k hk => (h.keep k (.inr (.inl hk))).trans (hb.block k hk)⟩
theorem Chs.mt {B0 B : Nat} {a b : World} {v : Value} {C : List Sx} (h : Chs a B v C) (m : Mt B0 B a b) : Chs b B v C := by
  refine ⟨m.own h.row (.inr (Nat.le_refl _)), fun c hc => ?_⟩
  obtain ⟨h1, ⟨g, p, h2, h3, h4, h5⟩, h6⟩ := h.im c hc
  refine ⟨h1, ⟨g, p, h2, by rw [m.size]; exact h3, h4, fun i hi j u hu => ?_⟩, fun x hx => ⟨m.own (h6 x hx).own (.inr (Nat.le_refl _)), (h6 x hx).byt, (h6 x hx).num⟩⟩
  have := h5 i hi j u hu
  rw [World.cell?_of_block (m.keep g (.inl h2))]
  exact this
theorem Chs.imgs {w : World} {B : Nat} {v : Value} {C : List Sx} (h : Chs w B v C) (c : Sx) (hc : c ∈ C) : Imgs w c.a c.M := by
  obtain ⟨h1, ⟨g, p, h2, h3, h4, h5⟩, h6⟩ := h.im c hc
  exact ⟨fun _ => ⟨g, p, h4, h3, h5⟩, fun m hm => (h6 m hm).byi⟩
end Go.Proofs.Ytgdjdlakndajgaa
