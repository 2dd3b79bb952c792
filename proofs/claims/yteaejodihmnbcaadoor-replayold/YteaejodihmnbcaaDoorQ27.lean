/-
  Images as arguments: by value, in a slice, in slices of slices; bools in a slice. And what follows it.
-/
import Derived.Deep.Grids
import Derived.Deep.Slices
import Derived.Test.YteaejodihmnbcaaDoorQ18
import Derived.Test.YteaejodihmnbcaaDoorQ24
namespace Go.Proofs.YteaejodihmnbcaaDoor
set_option maxRecDepth 100000
open Go.ChangeShapes Go.WideShapes Go.RowKit Go.Proofs.YteaejodihmnbcaaDoor.Plain
set_option linter.unusedVariables false
theorem list_of {α : Type} (P : Nat → α → Prop) : ∀ n : Nat, (∀ i, i < n → ∃ x, P i x) → ∃ L : List α, L.length = n ∧ ∀ i (hi : i < L.length), P i L[i]
  | 0, _ => ⟨[], rfl, fun i hi => by simp at hi⟩
  | n + 1, h => by
    obtain ⟨L, h1, h2⟩ := list_of P n (fun i hi => h i (by omega))
    obtain ⟨x, hx⟩ := h n (by omega)
    refine ⟨L ++ [x], by simp [h1], fun i hi => ?_⟩
    by_cases e : i < L.length
    · rw [List.getElem_append_left e]
      exact h2 i e
    · have : i = L.length := by simp at hi; omega
      subst this
      rw [List.getElem_append_right (Nat.le_refl _)]
      simp only [Nat.sub_self, List.getElem_cons_zero]
      rw [h1]
      exact hx
theorem cellsU : Tryd.prog.cellsOf 33 = 1 := by kernel_rfl
theorem cellsX : Tryd.prog.cellsOf 34 = 1 := by kernel_rfl
theorem cellsIm : Tryd.prog.cellsOf 36 = 2 := by kernel_rfl
def Byi (w : World) (m : Im) : Prop := Bytes w m.ba m.bl m.bs ∧ N64 m.blk ∧ m.bl ≤ m.bc ∧ m.bc ≤ maxLen
theorem open_imageL {H : Type} {enc : TypeId × Value → H} {W : World} {base : Nat} {held : Bool} {fuel : Nat} {cs : List Value} {x : DataW H × List MemPlace} (h : DataW.trod enc Tryd.prog W base (fun _ => true) held fuel 36 cs = some x) : ∃ m : Im, cs = imc m ∧ Byi W m := by
  obtain ⟨xs, k, hk, hxy, hl, hxl, hf⟩ := DataW.trod_struct Tryd.underlying36 h
  rw [cellsIm] at hl
  have hxl2 : xs.length = 2 := hxl
  match xs, hxl2, cs, hl with
  | [y0, y1], _, [v0, v1], _ =>
    have g0 := hf 0 _ rfl
    have g1 := hf 1 _ rfl
    simp [cellsU, cellsX] at g0 g1
    obtain ⟨z, e0, _, wz⟩ := DataW.trod_int Tryd.underlying33 g0
    simp only [List.cons.injEq, and_true] at e0
    subst e0
    have hb := bounds_u64 wz
    obtain ⟨xa, xl, xc, X, rfl, hX, h1, h2⟩ : ∃ xa xl xc X, v1 = .slice xa xl xc ∧ Bytes W xa xl X ∧ xl ≤ xc ∧ xc ≤ maxLen := by
      rcases open_ints Tryd.underlying34 Tryd.underlying5 (by kernel_rfl) g1 with ⟨hcs, _⟩ | ⟨x, l, c, zs, hcs, _, hl2, hm2, hz2, _, hcell2, hwz2⟩
      · simp only [List.cons.injEq, and_true] at hcs
        subst hcs
        exact ⟨none, 0, 0, [], rfl, ⟨rfl, fun i => by simp, fun h => by omega⟩, by decide, by decide⟩
      · simp only [List.cons.injEq, and_true] at hcs
        subst hcs
        have hr : IsRow .u8 W (some x) l c zs := .inr ⟨_, rfl, hl2, hm2, by simpa using hz2, hcell2, hwz2⟩
        exact ⟨_, _, _, _, rfl, hr.bytes, hl2, hm2⟩
    exact ⟨⟨z, xa, xl, xc, X⟩, rfl, hX, ⟨by show 0 ≤ z; omega, by show z ≤ 18446744073709551615; omega⟩, h1, h2⟩
theorem add_add' (b o i j : Nat) : ((⟨b, o, none⟩ : Addr).add i).add j = ⟨b, o + i + j, none⟩ := by
  rw [Addr.add_lit, Addr.add_lit]
theorem open_images {H : Type} {enc : TypeId × Value → H} {W : World} {base : Nat} {held : Bool} {fuel : Nat} {a : Option Addr} {len cap : Nat} {x : DataW H × List MemPlace} (h : DataW.trod enc Tryd.prog W base (fun _ => true) held fuel 24 [.slice a len cap] = some x) : ∃ M : List Im, M.length = len ∧ Imgs W a M ∧ len ≤ maxLen := by
  rcases Go.Deep.open_slice Tryd.underlying24 h with ⟨hcs, _⟩ | ⟨ad, l, c, m, n, D, Pl, hcs, hb, hl, hm, hmm, hx, hi⟩
  · simp only [List.cons.injEq, Value.slice.injEq, and_true] at hcs
    obtain ⟨rfl, rfl, rfl⟩ := hcs
    exact ⟨[], rfl, ⟨fun h => by simp at h, fun m hm => by simp at hm⟩, by decide⟩
  · simp only [List.cons.injEq, Value.slice.injEq, and_true] at hcs
    obtain ⟨rfl, rfl, rfl⟩ := hcs
    simp only [if_true] at hmm
    subst hmm
    rw [cellsIm] at hi
    by_cases h0 : len = 0
    · subst h0
      exact ⟨[], rfl, ⟨fun h => by simp at h, fun m hm => by simp at hm⟩, by decide⟩
    obtain ⟨b, o, rfl⟩ : ∃ b o, ad = ⟨b, o, none⟩ := by
      obtain ⟨cs', h1, _⟩ := hi 0 (by omega)
      obtain ⟨_, hlen, hcell⟩ := World.cells?_some h1
      have h2 := hcell 0 (by omega)
      obtain ⟨b, o, l⟩ := ad
      cases l with
      | none => exact ⟨b, o, rfl⟩
      | some l =>
        have h3 : (cs'[0]?).isSome = true := by simp [hlen]
        rw [← h2] at h3
        simp [Addr.add, World.cell?] at h3
        split at h3 <;> simp at h3
    obtain ⟨M, hM, hP⟩ := list_of (fun i m => W.rangeAt b (o + i * 2) (imc m) ∧ Byi W m ∧ b < W.heap.size) len (fun i hil => by
      obtain ⟨cs', h1, h2⟩ := hi i (by omega)
      obtain ⟨m, rfl, ok⟩ := open_imageL h2
      obtain ⟨_, hlen, hcell⟩ := World.cells?_some h1
      have hr : W.rangeAt b (o + i * 2) (imc m) := fun j v hv => by
        have hj : j < 2 := (List.getElem?_eq_some_iff.1 hv).1
        have h3 := hcell j hj
        rw [add_add', hv] at h3
        exact h3
      exact ⟨m, hr, ok, block_lt (hr 0 _ rfl)⟩)
    refine ⟨M, hM, ⟨fun hp => ⟨b, o, rfl, (hP 0 hp).2.2, fun i hi' => (hP i hi').1⟩, fun m hm => ?_⟩, Nat.le_trans hl hm⟩
    obtain ⟨i, hi', rfl⟩ := List.getElem_of_mem hm
    exact (hP i hi').2.1
/-- A row of truth values in memory. -/
def Bools (w : World) (a : Option Addr) (len : Nat) (K : List Bool) : Prop := K.length = len ∧ (0 < len → ∃ b off, a = some ⟨b, off, none⟩ ∧ b < w.heap.size ∧ ∀ i, i < len → w.cell? ⟨b, off + i, none⟩ = some (.bool (K.getD i false)))
theorem Bools.below {w w' : World} {a : Option Addr} {len : Nat} {K : List Bool} (h : Bools w a len K) (hb : Below w.heap.size w w') : Bools w' a len K := by
  refine ⟨h.1, fun h0 => ?_⟩
  obtain ⟨b, off, rfl, hbb, hc⟩ := h.2 h0
  exact ⟨b, off, rfl, Nat.lt_of_lt_of_le hbb hb.size, fun i hi => (hb.cell hbb).trans (hc i hi)⟩
/-- A slice of images, and what lies there. -/
structure Sx where
  a : Option Addr
  l : Nat
  c : Nat
  M : List Im
def slc (x : Sx) : List Value := [.slice x.a x.l x.c]
structure Igss (w : World) (a : Option Addr) (X : List Sx) : Prop where
  tb : Tb w a 1 slc X
  im : ∀ x ∈ X, x.M.length = x.l ∧ Imgs w x.a x.M ∧ x.l ≤ maxLen
theorem Igss.below {w w' : World} {a : Option Addr} {X : List Sx} (h : Igss w a X) (hb : Below w.heap.size w w') : Igss w' a X :=
  ⟨h.tb.below hb, fun x hx => ⟨(h.im x hx).1, (h.im x hx).2.1.below hb, (h.im x hx).2.2⟩⟩
theorem cellsSl : Tryd.prog.cellsOf 24 = 1 := by kernel_rfl
theorem open_imagess {H : Type} {enc : TypeId × Value → H} {W : World} {base : Nat} {held : Bool} {fuel : Nat} {a : Option Addr} {len cap : Nat} {x : DataW H × List MemPlace} (h : DataW.trod enc Tryd.prog W base (fun _ => true) held fuel 22 [.slice a len cap] = some x) : ∃ X : List Sx, X.length = len ∧ Igss W a X ∧ len ≤ maxLen := by
  rcases Go.Deep.open_slice Tryd.underlying22 h with ⟨hcs, _⟩ | ⟨ad, l, c, m, n, D, Pl, hcs, hb, hl, hm, hmm, hx, hi⟩
  · simp only [List.cons.injEq, Value.slice.injEq, and_true] at hcs
    obtain ⟨rfl, rfl, rfl⟩ := hcs
    exact ⟨[], rfl, ⟨fun h => by simp at h, fun m hm => by simp at hm⟩, by decide⟩
  · simp only [List.cons.injEq, Value.slice.injEq, and_true] at hcs
    obtain ⟨rfl, rfl, rfl⟩ := hcs
    simp only [if_true] at hmm
    subst hmm
    rw [cellsSl] at hi
    by_cases h0 : len = 0
    · subst h0
      exact ⟨[], rfl, ⟨fun h => by simp at h, fun m hm => by simp at hm⟩, by decide⟩
    obtain ⟨b, o, rfl⟩ : ∃ b o, ad = ⟨b, o, none⟩ := by
      obtain ⟨cs', h1, _⟩ := hi 0 (by omega)
      obtain ⟨_, hlen, hcell⟩ := World.cells?_some h1
      have h2 := hcell 0 (by omega)
      obtain ⟨b, o, l⟩ := ad
      cases l with
      | none => exact ⟨b, o, rfl⟩
      | some l =>
        have h3 : (cs'[0]?).isSome = true := by simp [hlen]
        rw [← h2] at h3
        simp [Addr.add, World.cell?] at h3
        split at h3 <;> simp at h3
    obtain ⟨X, hX, hP⟩ := list_of (fun i (x : Sx) => W.rangeAt b (o + i * 1) (slc x) ∧ (x.M.length = x.l ∧ Imgs W x.a x.M ∧ x.l ≤ maxLen) ∧ b < W.heap.size) len (fun i hil => by
      obtain ⟨cs', h1, h2⟩ := hi i (by omega)
      obtain ⟨_, hlen, hcell⟩ := World.cells?_some h1
      match cs', hlen with
      | [v], _ =>
        obtain ⟨sa, sl, sc, rfl⟩ : ∃ sa sl sc, v = .slice sa sl sc := by
          rcases Go.Deep.open_slice Tryd.underlying24 h2 with ⟨hcs, _⟩ | ⟨ad', l', c', _, _, _, _, hcs, _⟩
          · simp only [List.cons.injEq, and_true] at hcs
            exact ⟨_, _, _, hcs⟩
          · simp only [List.cons.injEq, and_true] at hcs
            exact ⟨_, _, _, hcs⟩
        obtain ⟨M, hM, hI, hml⟩ := open_images h2
        have hr : W.rangeAt b (o + i * 1) (slc ⟨sa, sl, sc, M⟩) := fun j v hv => by
          have hj : j < 1 := (List.getElem?_eq_some_iff.1 hv).1
          have h3 := hcell j hj
          rw [add_add'] at h3
          exact h3.trans hv
        exact ⟨⟨sa, sl, sc, M⟩, hr, ⟨hM, hI, hml⟩, block_lt (hr 0 _ rfl)⟩)
    refine ⟨X, hX, ⟨fun hp => ⟨b, o, rfl, (hP 0 hp).2.2, fun i hi' => (hP i hi').1⟩, fun m hm => ?_⟩, Nat.le_trans hl hm⟩
    obtain ⟨i, hi', rfl⟩ := List.getElem_of_mem hm
    exact (hP i hi').2.1
end Go.Proofs.YteaejodihmnbcaaDoor
namespace Go.Proofs.YteaejodihmnbcaaDoor
set_option maxRecDepth 100000
set_option linter.unusedVariables false
open Go.RowKit Plain
theorem exec_cut3 {o : Oper} {a : Act} {w' : World} (x l h m : Operand) (ho : o.op = .slice 24 x (some l) (some h) (some m)) (g n lo hi : Nat) (hx : a.eval x = .slice (some ⟨g, 0, none⟩) n n) (hl : a.eval l = .int .i64 (lo : Int)) (hh : a.eval h = .int .i64 (hi : Int)) (hm : a.eval m = .int .i64 (hi : Int)) (h1 : lo < hi) (h2 : hi ≤ n) :
    (execOp a.eval o).run Tryd.prog w' = .ok (.value (.slice (some ⟨g, lo * 2, none⟩) (hi - lo) (hi - lo))) w' := by
  have hu : Tryd.prog.underlying 24 = some (.slice (Tryd.prog.elem 24)) := by kernel_rfl
  have hs : (sizeOf (Tryd.prog.elem 24)).run Tryd.prog w' = .ok 2 w' := by kernel_rfl
  have hr : (Instr.sliceAt 24 (.slice (some ⟨g, 0, none⟩) n n) (some (.int .i64 (lo : Int))) (some (.int .i64 (hi : Int))) (some (.int .i64 (hi : Int)))).run Tryd.prog w' = .ok (.slice (some ⟨g, lo * 2, none⟩) (hi - lo) (hi - lo)) w' := by
    rw [run_sliceAt_slice (P := Tryd.prog) w' 24 _ _ _ _ hu, run_slice_lhm (P := Tryd.prog) w' 24 _ n n hu .i64 .i64 .i64 (lo : Int) (hi : Int) (hi : Int) (by omega) (by omega) (by omega) (by omega), hs, Result.andThen_ok, sliced]
    have hne : ¬ hi - lo = 0 := by omega
    simp [Addr.add_lit]
    intro hh; omega
  unfold execOp
  simp only [ho, hx, hl, hh, hm, Option.map_some, Sem.run_bind, Sem.run_pure, hr, Result.andThen_ok]
/-- The changes of records. -/
def chSt (s : List (List (Int × List Int)) × List (Int × List Int)) (x : (Int × List Int) × Bool) : List (List (Int × List Int)) × List (Int × List Int) := if x.2 = true then (s.1 ++ [s.2 ++ [x.1]], []) else (s.1, s.2 ++ [x.1])
def chS (L : List ((Int × List Int) × Bool)) : List (List (Int × List Int)) × List (Int × List Int) := L.foldl chSt ([], [])
theorem chS_take (L : List ((Int × List Int) × Bool)) (k : Nat) (hk : k < L.length) : chS (L.take (k + 1)) = chSt (chS (L.take k)) L[k] := by
  rw [List.take_succ_eq_append_getElem hk]
  simp only [chS, List.foldl_append, List.foldl_cons, List.foldl_nil]
/-- Records in memory, to be read. -/
structure Recs (w : World) (a : Option Addr) (R : List Rc) : Prop where
  tb : Tb w a 3 rcc R
  byt : ∀ r ∈ R, Bytes w r.m.ba r.m.bl r.m.bs ∧ N64 r.m.blk ∧ r.m.bl < 1000000
theorem Recs.below {w w' : World} {a : Option Addr} {R : List Rc} (h : Recs w a R) (hb : Below w.heap.size w w') : Recs w' a R :=
  ⟨h.tb.below hb, fun r hr => ⟨(h.byt r hr).1.below hb, (h.byt r hr).2⟩⟩
def zim : Im := ⟨0, none, 0, 0, []⟩
/-- A change, cut off the images of block g. -/
def Cut (g k : Nat) (Q : List Im) (c : Sx) : Prop := ∃ p, c.a = some ⟨g, p * 2, none⟩ ∧ c.l = c.M.length ∧ c.c = c.l ∧ p + c.l ≤ k ∧ c.M = (Q.drop p).take c.l ∧ 0 < c.l
theorem Cut.snoc {g k : Nat} {Q : List Im} {c : Sx} (h : Cut g k Q c) (hQ : Q.length = k) (m : Im) : Cut g (k + 1) (Q ++ [m]) c := by
  obtain ⟨p, h1, h2, h3, h4, h5, h6⟩ := h
  refine ⟨p, h1, h2, h3, by omega, ?_, h6⟩
  rw [List.drop_append_of_le_length (by omega), List.take_append_of_le_length (by simp; omega)]
  exact h5
/-- So far. -/
structure ChK (w wr : World) (R : List Rc) (g n k f : Nat) (v : Value) (Q : List Im) (C : List Sx) : Prop where
  row : wr.heap[g]? = some (.cells ((Q ++ List.replicate (n - k) zim).map imc).flatten.toArray 36 (0, 0))
  len : Q.length = k
  pls : Q.map pl = (R.take k).map (fun r => pl r.m)
  byt : ∀ m ∈ Q, OIm wr w.heap.size m
  bel : Below w.heap.size w wr
  lo : w.heap.size ≤ g
  out : wr.ownsRow w.heap.size 24 1 v C.length (C.map slc).flatten
  cut : ∀ c ∈ C, Cut g k Q c
  fk : f ≤ k
  c1 : C.map (fun c => c.M.map pl) = (chS ((R.map rpl).take k)).1
  c2 : (Q.drop f).map pl = (chS ((R.map rpl).take k)).2
theorem own_but {w w' : World} {B n G : Nat} {e : TypeId} {sz : Nat} {v : Value} {xs : List Value} {cs : Array Value} {t : TypeId} {fr : Nat × Nat} (h : w.ownsRow B e sz v n xs) (hG : w.heap[G]? = some (.cells cs t fr)) (ht : t ≠ e) (hb : But G w w') : w'.ownsRow B e sz v n xs :=
  own_same h (fun k hk => hb.block k (h.lt k hk).2 (fun e' => by
    obtain ⟨_, c1, h1⟩ := own_blk h k hk
    rw [e', hG] at h1
    simp only [Option.some.injEq, Obj.cells.injEq] at h1
    exact ht h1.2.1))
/-- One image more, in memory alone. -/
structure ChM (w wy : World) (R : List Rc) (g n k f : Nat) (v : Value) (Q : List Im) (C : List Sx) (m' : Im) : Prop where
  row : wy.heap[g]? = some (.cells (((Q ++ [m']) ++ List.replicate (n - (k + 1)) zim).map imc).flatten.toArray 36 (0, 0))
  len : Q.length = k
  pls : (Q ++ [m']).map pl = (R.take (k + 1)).map (fun r => pl r.m)
  byt : ∀ m ∈ Q ++ [m'], OIm wy w.heap.size m
  bel : Below w.heap.size w wy
  lo : w.heap.size ≤ g
  out : wy.ownsRow w.heap.size 24 1 v C.length (C.map slc).flatten
  cut : ∀ c ∈ C, Cut g (k + 1) (Q ++ [m']) c
  fk : f ≤ k
  c1 : C.map (fun c => c.M.map pl) = (chS ((R.map rpl).take k)).1
  c2 : (Q.drop f).map pl = (chS ((R.map rpl).take k)).2
theorem ChK.mid {w wr wx : World} {R : List Rc} {g n k f : Nat} {v : Value} {Q : List Im} {C : List Sx} (h : ChK w wr R g n k f v Q C) (hn : R.length = n) (hk : k < n) (hb : Below wr.heap.size wr wx) (m' : Im) (hp : pl m' = pl (R[k]'(by omega)).m) (ho : OIm wx w.heap.size m') : ChM w (wx.setCells g (k * 2) (imc m')) R g n k f v Q C m' := by
  have hg : g < wr.heap.size := (Array.getElem?_eq_some_iff.1 h.row).1
  have hrx := (hb.block g hg).trans h.row
  have hbut : But g wx (wx.setCells g (k * 2) (imc m')) := but_setCells _ _ _ _ _ (But.refl _ _)
  have hL : (Q ++ List.replicate (n - k) zim).length = n := by simp [h.len]; omega
  have hk2 : k < (Q ++ List.replicate (n - k) zim).length := by omega
  have hat : (Q ++ List.replicate (n - k) zim)[k] = zim := by
    rw [List.getElem_append_right (by simp [h.len])]
    simp
  refine ⟨?_, h.len, ?_, fun m hm => ?_, ?_, h.lo, own_but (own_to h.out hb) hrx (by decide) hbut, fun c hc => (h.cut c hc).snoc h.len m', h.fk, h.c1, h.c2⟩
  · rw [setCells_row g _ (imc m') (k * 2) _ _ hrx (by rw [flat_len imc 2 (fun _ => rfl), hL]; show k * 2 + 2 ≤ n * 2; omega)]
    have e := splice_flat imc 2 (fun _ => rfl) (Q ++ List.replicate (n - k) zim) k hk2 0 (imc m') m' (by rw [hat]; rfl) (by show 0 + 2 ≤ 2; omega)
    rw [Nat.add_zero] at e
    rw [e]
    congr 4
    obtain ⟨d, hd⟩ : ∃ d, n - k = d + 1 := ⟨n - k - 1, by omega⟩
    have hd' : n - (k + 1) = d := by omega
    rw [hd, hd', List.set_append_right _ _ (by simp [h.len])]
    simp [h.len, List.replicate_succ]
  · have hk3 : k < R.length := by omega
    rw [List.map_append, h.pls, List.take_succ_eq_append_getElem hk3]
    simp only [List.map_append, List.map_cons, List.map_nil, hp]
  · rcases List.mem_append.1 hm with hm | hm
    · exact ((h.byt m hm).to hb).but hrx (by decide) hbut
    · simp only [List.mem_cons, List.not_mem_nil, or_false] at hm
      subst hm
      exact ho.but hrx (by decide) hbut
  · exact below_but (below_to h.bel hb) hbut h.lo (below_to h.bel hb).size
theorem ChM.go {w wy : World} {R : List Rc} {g n k f : Nat} {v : Value} {Q : List Im} {C : List Sx} {m' : Im} (h : ChM w wy R g n k f v Q C m') (hk : k < R.length) (hp : pl m' = pl R[k].m) (hl : R[k].l = false) : ChK w wy R g n (k + 1) f v (Q ++ [m']) C := by
  have hk4 : k < (R.map rpl).length := by simp; omega
  have hch := chS_take (R.map rpl) k hk4
  have hx : (R.map rpl)[k] = (pl m', false) := by simp [rpl, hp, hl]
  rw [hx] at hch
  refine ⟨h.row, by simp [h.len], h.pls, h.byt, h.bel, h.lo, h.out, h.cut, by have := h.fk; omega, ?_, ?_⟩
  · rw [hch, h.c1]
    simp [chSt]
  · rw [hch, List.drop_append_of_le_length (by rw [h.len]; exact h.fk), List.map_append, h.c2]
    simp [chSt]
theorem ChM.ends {w wy w' : World} {R : List Rc} {g n k f : Nat} {v v' : Value} {Q : List Im} {C : List Sx} {m' : Im} (h : ChM w wy R g n k f v Q C m') (hk : k < R.length) (hp : pl m' = pl R[k].m) (hl : R[k].l = true) (ho : w'.ownsRow w.heap.size 24 1 v' (C.length + 1) ((C.map slc).flatten ++ [.slice (some ⟨g, f * 2, none⟩) (k + 1 - f) (k + 1 - f)])) (hg : wy.grownBy w' v.ownBlock) : ∃ C', ChK w w' R g n (k + 1) (k + 1) v' (Q ++ [m']) C' := by
  have hk4 : k < (R.map rpl).length := by simp; omega
  have hch := chS_take (R.map rpl) k hk4
  have hx : (R.map rpl)[k] = (pl m', true) := by simp [rpl, hp, hl]
  rw [hx] at hch
  have hgl : g < wy.heap.size := (Array.getElem?_eq_some_iff.1 h.row).1
  have hfk := h.fk
  have hMl : ((Q ++ [m']).drop f).length = k + 1 - f := by simp [h.len]
  refine ⟨C ++ [⟨some ⟨g, f * 2, none⟩, k + 1 - f, k + 1 - f, (Q ++ [m']).drop f⟩], ?_, by simp [h.len], h.pls, fun m hm => (h.byt m hm).grown h.out (by decide) hg, h.bel.grown hg h.bel.size (fun j hj => (own_blk h.out j hj).1), h.lo, ?_, fun c hc => ?_, Nat.le_refl _, ?_, ?_⟩
  · refine (hg.block g hgl (fun e => ?_)).trans h.row
    obtain ⟨_, c1, h1⟩ := own_blk h.out g e.symm
    rw [h.row] at h1
    simp only [Option.some.injEq, Obj.cells.injEq] at h1
    exact absurd h1.2.1 (by decide)
  · rw [List.length_append, List.map_append, List.flatten_append]
    simpa [slc] using ho
  · rcases List.mem_append.1 hc with hc | hc
    · exact h.cut c hc
    · simp only [List.mem_cons, List.not_mem_nil, or_false] at hc
      subst hc
      exact ⟨f, rfl, hMl.symm, rfl, by show f + (k + 1 - f) ≤ k + 1; omega, by show _ = _; rw [List.take_of_length_le (by rw [hMl]; exact Nat.le_refl _)], by show 0 < k + 1 - f; omega⟩
  · rw [hch, List.map_append, h.c1]
    simp only [chSt, if_true, List.map_cons, List.map_nil]
    rw [List.drop_append_of_le_length (by rw [h.len]; exact h.fk), List.map_append, h.c2]
    simp
  · rw [hch]
    simp [chSt, h.len]
/-- Changes in memory, at B and above. -/
structure Chs (w : World) (B : Nat) (v : Value) (C : List Sx) : Prop where
  row : w.ownsRow B 24 1 v C.length (C.map slc).flatten
  im : ∀ c ∈ C, c.M.length = c.l ∧ (∃ g p, B ≤ g ∧ g < w.heap.size ∧ c.a = some ⟨g, p, none⟩ ∧ ∀ i (h : i < c.M.length), w.rangeAt g (p + i * 2) (imc c.M[i])) ∧ ∀ m ∈ c.M, OIm w B m
theorem ChK.fin {w wr : World} {R : List Rc} {g n f : Nat} {v : Value} {Q : List Im} {C : List Sx} (h : ChK w wr R g n n f v Q C) : Chs wr w.heap.size v C := by
  refine ⟨h.out, fun c hc => ?_⟩
  obtain ⟨p, h1, h2, h3, h4, h5, h6⟩ := h.cut c hc
  have hrow := h.row
  rw [Nat.sub_self, List.replicate_zero, List.append_nil] at hrow
  refine ⟨h2.symm, ⟨g, p * 2, h.lo, (Array.getElem?_eq_some_iff.1 hrow).1, h1, fun i hi => ?_⟩, fun m hm => ?_⟩
  · have hpi : p + i < Q.length := by rw [h.len]; omega
    have e : c.M[i] = Q[p + i] := by
      have : c.M[i]? = Q[p + i]? := by
        rw [h5, List.getElem?_take, if_pos (by omega), List.getElem?_drop]
      rw [List.getElem?_eq_getElem hi, List.getElem?_eq_getElem hpi] at this
      exact Option.some.inj this
    rw [e]
    refine range_arr hrow _ (fun j u hu => ?_)
    have hj : j < 2 := (List.getElem?_eq_some_iff.1 hu).1
    have := flat_get imc 2 (fun _ => rfl) Q (p + i) hpi j hj
    rw [show p * 2 + i * 2 + j = (p + i) * 2 + j by omega]
    simpa [this] using hu
  · refine h.byt m ?_
    rw [h5] at hm
    exact List.mem_of_mem_drop (List.mem_of_mem_take hm)
end Go.Proofs.YteaejodihmnbcaaDoor
