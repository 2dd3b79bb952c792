/-
  Images as arguments: by value, in a slice, in slices of slices; bools in a slice. And what follows it.
-/
import Derived.Deep.Grids
import Derived.Deep.Slices
import Derived.Test.YtipdaaajnbjnjaaDoorO26
import Derived.Test.YtipdaaajnbjnjaaDoorCards
import Derived.Test.YtipdaaajnbjnjaaDoorTie
import Derived.ProofKit
import Derived.OpenShut
import Derived.ShutString
import Derived.ChangeOld
import Derived.Below
import Derived.Deep.DeepHandedRow
import Derived.Lib.LaidTab
import Derived.Test.YtipdaaajnbjnjaaDoorO43
import Derived.Test.YtipdaaajnbjnjaaDoorO01
namespace Go.Proofs.YtipdaaajnbjnjaaDoor
set_option maxRecDepth 100000
open Go.ChangeShapes Go.WideShapes Go.RowKit Go.Proofs.YtipdaaajnbjnjaaDoor.Plain
set_option linter.unusedVariables false
theorem list_of {α : Type} (P : Nat → α → Prop) : ∀ n : Nat, (∀ i, i < n → ∃ x, P i x) → ∃ L : List α, L.length = n ∧ ∀ i (hi : i < L.length), P i L[i]
  | 0, _ => ⟨[], rfl, fun i hi => by simp at hi⟩
  | n + 1, h => by
    obtain ⟨L, h1, h2⟩ := list_of P n (fun i hi => h i (by omega))
    obtain ⟨x, hx⟩ := h n (by omega)
    refine ⟨L ++ [x], by simp [h1], fun i hi => ?_⟩
    by_cases e : i < L.length
    · rw [List.getElem_append_left e]
      exact h2 i e
    · have : i = L.length := by simp at hi; omega
      subst this
      rw [List.getElem_append_right (Nat.le_refl _)]
      simp only [Nat.sub_self, List.getElem_cons_zero]
      rw [h1]
      exact hx
theorem cellsU : Tryd.prog.cellsOf 24 = 1 := by kernel_rfl
theorem cellsX : Tryd.prog.cellsOf 64 = 1 := by kernel_rfl
theorem cellsIm : Tryd.prog.cellsOf 77 = 2 := by kernel_rfl
def Byi (w : World) (m : Im) : Prop := Bytes w m.ba m.bl m.bs ∧ N64 m.blk ∧ m.bl ≤ m.bc ∧ m.bc ≤ maxLen
theorem open_imageL {H : Type} {enc : TypeId × Value → H} {W : World} {base : Nat} {held : Bool} {fuel : Nat} {cs : List Value} {x : DataW H × List MemPlace} (h : DataW.trod enc Tryd.prog W base (fun _ => true) held fuel 77 cs = some x) : ∃ m : Im, cs = imc m ∧ Byi W m := by
  obtain ⟨xs, k, hk, hxy, hl, hxl, hf⟩ := DataW.trod_struct Tryd.underlying77 h
  rw [cellsIm] at hl
  have hxl2 : xs.length = 2 := hxl
  match xs, hxl2, cs, hl with
  | [y0, y1], _, [v0, v1], _ =>
    have g0 := hf 0 _ rfl
    have g1 := hf 1 _ rfl
    simp [cellsU, cellsX] at g0 g1
    obtain ⟨z, e0, _, wz⟩ := DataW.trod_int Tryd.underlying24 g0
    simp only [List.cons.injEq, and_true] at e0
    subst e0
    have hb := bounds_u64 wz
    obtain ⟨xa, xl, xc, X, rfl, hX, h1, h2⟩ : ∃ xa xl xc X, v1 = .slice xa xl xc ∧ Bytes W xa xl X ∧ xl ≤ xc ∧ xc ≤ maxLen := by
      rcases open_ints Tryd.underlying64 Tryd.underlying5 (by kernel_rfl) g1 with ⟨hcs, _⟩ | ⟨x, l, c, zs, hcs, _, hl2, hm2, hz2, _, hcell2, hwz2⟩
      · simp only [List.cons.injEq, and_true] at hcs
        subst hcs
        exact ⟨none, 0, 0, [], rfl, ⟨rfl, fun i => by simp, fun h => by omega⟩, by decide, by decide⟩
      · simp only [List.cons.injEq, and_true] at hcs
        subst hcs
        have hr : IsRow .u8 W (some x) l c zs := .inr ⟨_, rfl, hl2, hm2, by simpa using hz2, hcell2, hwz2⟩
        exact ⟨_, _, _, _, rfl, hr.bytes, hl2, hm2⟩
    exact ⟨⟨z, xa, xl, xc, X⟩, rfl, hX, ⟨by show 0 ≤ z; omega, by show z ≤ 18446744073709551615; omega⟩, h1, h2⟩
theorem add_add' (b o i j : Nat) : ((⟨b, o, none⟩ : Addr).add i).add j = ⟨b, o + i + j, none⟩ := by
  rw [Addr.add_lit, Addr.add_lit]
theorem open_images {H : Type} {enc : TypeId × Value → H} {W : World} {base : Nat} {held : Bool} {fuel : Nat} {a : Option Addr} {len cap : Nat} {x : DataW H × List MemPlace} (h : DataW.trod enc Tryd.prog W base (fun _ => true) held fuel 50 [.slice a len cap] = some x) : ∃ M : List Im, M.length = len ∧ Imgs W a M ∧ len ≤ maxLen := by
  rcases Go.Deep.open_slice Tryd.underlying50 h with ⟨hcs, _⟩ | ⟨ad, l, c, m, n, D, Pl, hcs, hb, hl, hm, hmm, hx, hi⟩
  · simp only [List.cons.injEq, Value.slice.injEq, and_true] at hcs
    obtain ⟨rfl, rfl, rfl⟩ := hcs
    exact ⟨[], rfl, ⟨fun h => by simp at h, fun m hm => by simp at hm⟩, by decide⟩
  · simp only [List.cons.injEq, Value.slice.injEq, and_true] at hcs
    obtain ⟨rfl, rfl, rfl⟩ := hcs
    simp only [if_true] at hmm
    subst hmm
    rw [cellsIm] at hi
    by_cases h0 : len = 0
    · subst h0
      exact ⟨[], rfl, ⟨fun h => by simp at h, fun m hm => by simp at hm⟩, by decide⟩
    obtain ⟨b, o, rfl⟩ : ∃ b o, ad = ⟨b, o, none⟩ := by
      obtain ⟨cs', h1, _⟩ := hi 0 (by omega)
      obtain ⟨_, hlen, hcell⟩ := World.cells?_some h1
      have h2 := hcell 0 (by omega)
      obtain ⟨b, o, l⟩ := ad
      cases l with
      | none => exact ⟨b, o, rfl⟩
      | some l =>
        have h3 : (cs'[0]?).isSome = true := by simp [hlen]
        rw [← h2] at h3
        simp [Addr.add, World.cell?] at h3
        split at h3 <;> simp at h3
    obtain ⟨M, hM, hP⟩ := list_of (fun i m => W.rangeAt b (o + i * 2) (imc m) ∧ Byi W m ∧ b < W.heap.size) len (fun i hil => by
      obtain ⟨cs', h1, h2⟩ := hi i (by omega)
      obtain ⟨m, rfl, ok⟩ := open_imageL h2
      obtain ⟨_, hlen, hcell⟩ := World.cells?_some h1
      have hr : W.rangeAt b (o + i * 2) (imc m) := fun j v hv => by
        have hj : j < 2 := (List.getElem?_eq_some_iff.1 hv).1
        have h3 := hcell j hj
        rw [add_add', hv] at h3
        exact h3
      exact ⟨m, hr, ok, block_lt (hr 0 _ rfl)⟩)
    refine ⟨M, hM, ⟨fun hp => ⟨b, o, rfl, (hP 0 hp).2.2, fun i hi' => (hP i hi').1⟩, fun m hm => ?_⟩, Nat.le_trans hl hm⟩
    obtain ⟨i, hi', rfl⟩ := List.getElem_of_mem hm
    exact (hP i hi').2.1
/-- A row of truth values in memory. -/
def Bools (w : World) (a : Option Addr) (len : Nat) (K : List Bool) : Prop := K.length = len ∧ (0 < len → ∃ b off, a = some ⟨b, off, none⟩ ∧ b < w.heap.size ∧ ∀ i, i < len → w.cell? ⟨b, off + i, none⟩ = some (.bool (K.getD i false)))
theorem Bools.below {w w' : World} {a : Option Addr} {len : Nat} {K : List Bool} (h : Bools w a len K) (hb : Below w.heap.size w w') : Bools w' a len K := by
  refine ⟨h.1, fun h0 => ?_⟩
  obtain ⟨b, off, rfl, hbb, hc⟩ := h.2 h0
  exact ⟨b, off, rfl, Nat.lt_of_lt_of_le hbb hb.size, fun i hi => (hb.cell hbb).trans (hc i hi)⟩
/-- A slice of images, and what lies there. -/
structure Sx where
  a : Option Addr
  l : Nat
  c : Nat
  M : List Im
def slc (x : Sx) : List Value := [.slice x.a x.l x.c]
structure Igss (w : World) (a : Option Addr) (X : List Sx) : Prop where
  tb : Tb w a 1 slc X
  im : ∀ x ∈ X, x.M.length = x.l ∧ Imgs w x.a x.M ∧ x.l ≤ maxLen
theorem Igss.below {w w' : World} {a : Option Addr} {X : List Sx} (h : Igss w a X) (hb : Below w.heap.size w w') : Igss w' a X :=
  ⟨h.tb.below hb, fun x hx => ⟨(h.im x hx).1, (h.im x hx).2.1.below hb, (h.im x hx).2.2⟩⟩
end Go.Proofs.YtipdaaajnbjnjaaDoor
namespace Go.Proofs.YtipdaaajnbjnjaaDoor
set_option maxRecDepth 100000
set_option linter.unusedVariables false
open Go.RowKit Plain Go.WideShapes
theorem gFirst : Tryd.prog.globalNamed "reliquary/digest.first" = some 0 := by kernel_rfl
theorem gRounds : Tryd.prog.globalNamed "reliquary/digest.rounds" = some 1 := by kernel_rfl
theorem gQuart : Tryd.prog.globalNamed "reliquary/cipher.quarters" = some 2 := by kernel_rfl
theorem tFirst : (Tryd.prog.globals[0]?).map (·.type) = some 140 := by kernel_rfl
theorem tRounds : (Tryd.prog.globals[1]?).map (·.type) = some 166 := by kernel_rfl
theorem tQuart : (Tryd.prog.globals[2]?).map (·.type) = some 187 := by kernel_rfl
def quads : List (List Int) := [[0, 4, 8, 12], [1, 5, 9, 13], [2, 6, 10, 14], [3, 7, 11, 15], [0, 5, 10, 15], [1, 6, 11, 12], [2, 7, 8, 13], [3, 4, 9, 14]]
/-- What all rows list. -/
def laid3 : List (String × DataW Unit) := [("reliquary/digest.first", Lib.tabData .u32 Dig.Plain.hh), ("reliquary/digest.rounds", Lib.tabData .u32 Dig.Plain.kk), ("reliquary/cipher.quarters", .agg (quads.map (Lib.tabData .i64)))]
theorem cell_block {w : World} {b o : Nat} {v : Value} (h : w.cell? ⟨b, o, none⟩ = some v) : b < w.heap.size := by
  apply Nat.lt_of_not_le
  intro hle
  simp [World.cell?, Array.getElem?_eq_none hle] at h
theorem quads_at (i : Nat) (h : i < 32) : (quads.getD (i / 4) []).getD (i % 4) 0 = Seal.Plain.qt.getD i 0 ∧ (quads.getD (i / 4) []).length = 4 := by
  have key : ∀ k : Fin 32, (quads.getD (k.val / 4) []).getD (k.val % 4) 0 = Seal.Plain.qt.getD k.val 0 ∧ (quads.getD (k.val / 4) []).length = 4 := by decide +kernel
  exact key ⟨i, h⟩
/-- The three tables, out of the rows' list. -/
theorem tabs_of_laid {W : World} (h : laidMetH Tryd.prog laid3 W) : Dig.Tabs W ∧ Seal.Tab W := by
  have h' : laidMet Tryd.prog laid3 W := h
  obtain ⟨ps, ⟨g0, t0, cs0, f0, p0, q0, hg0, ht0, hv0, hd0, ⟨g1, t1, cs1, f1, p1, q1, hg1, ht1, hv1, hd1, ⟨g2, t2, cs2, f2, p2, q2, hg2, ht2, hv2, hd2, _, _⟩, _⟩, _⟩, _, _⟩ := h'
  obtain rfl := Option.some.inj (gFirst.symm.trans hg0)
  obtain rfl := Option.some.inj (gRounds.symm.trans hg1)
  obtain rfl := Option.some.inj (gQuart.symm.trans hg2)
  obtain rfl := Option.some.inj (tFirst.symm.trans ht0)
  obtain rfl := Option.some.inj (tRounds.symm.trans ht1)
  obtain rfl := Option.some.inj (tQuart.symm.trans ht2)
  have e0 : Lib.TabIs Tryd.prog W "reliquary/digest.first" .u32 Dig.Plain.hh := by
    unfold Lib.TabIs
    rw [hv0, ← Lib.cells_of_tab Tryd.underlying140 Tryd.underlying63 (by kernel_rfl) (by kernel_rfl) hd0]
  have e1 : Lib.TabIs Tryd.prog W "reliquary/digest.rounds" .u32 Dig.Plain.kk := by
    unfold Lib.TabIs
    rw [hv1, ← Lib.cells_of_tab Tryd.underlying166 Tryd.underlying63 (by kernel_rfl) (by kernel_rfl) hd1]
  obtain ⟨xs, m, _, hx, hl, hn, hel⟩ := DataW.trod_array Tryd.underlying187 hd2
  have hc4 : Tryd.prog.cellsOf 186 = 4 := by kernel_rfl
  have hx1 : xs.map (·.1) = quads.map (Lib.tabData .i64) := by
    have := congrArg Prod.fst hx
    simp only [DataW.agg.injEq] at this
    exact this.symm
  have hrow : ∀ j, j < 8 → (cs2.toList.drop (j * 4)).take 4 = (quads.getD j []).map fun z => Value.int .i64 z := by
    intro j hj
    have h1 := hel j hj
    rw [hc4] at h1
    obtain ⟨y, hy⟩ : ∃ y, xs[j]? = some y := ⟨xs[j]'(by omega), by simp [hn, hj]⟩
    rw [hy] at h1
    obtain ⟨y1, y2⟩ := y
    have e1 : y1 = Lib.tabData .i64 (quads.getD j []) := by
      have h2 : (xs.map (·.1))[j]? = some y1 := by simp [hy]
      rw [hx1] at h2
      have hq : j < quads.length := hj
      simp only [List.getElem?_map, List.getElem?_eq_getElem hq, Option.map_some, Option.some.injEq] at h2
      rw [← h2]
      simp [List.getD, hq]
    subst e1
    exact Lib.cells_of_tab Tryd.underlying186 Tryd.underlying3 (by kernel_rfl) (by kernel_rfl) h1
  have hcell : ∀ i, i < 32 → W.cell? ⟨2, i, none⟩ = some (.int .i64 (Seal.Plain.qt.getD i 0)) := by
    intro i hi
    have h1 := hrow (i / 4) (by omega)
    have h2 := congrArg (·[i % 4]?) h1
    simp only [List.getElem?_take, List.getElem?_drop, List.getElem?_map] at h2
    rw [if_pos (by omega), show i / 4 * 4 + i % 4 = i by omega] at h2
    obtain ⟨q1, q2⟩ := quads_at i hi
    have q3 : (quads.getD (i / 4) [])[i % 4]? = some (Seal.Plain.qt.getD i 0) := by
      rw [← q1]
      have : i % 4 < (quads.getD (i / 4) []).length := by omega
      generalize quads.getD (i / 4) [] = Q at this ⊢
      simp [List.getD, this]
    rw [q3] at h2
    have h3 := World.var?_cell gQuart hv2 i
    rw [h3]
    simpa using h2
  refine ⟨⟨?_, fun i hi => e0.cell gFirst i hi, fun i hi => e1.cell gRounds i hi⟩, cell_block (hcell 0 (by omega)), hcell⟩
  have := cell_block (e1.cell gRounds 0 (by decide))
  omega
def putTab (cs : Array Value) : Obj → Obj
  | .cells _ t frozen => .cells cs t frozen
  | o => o
/-- A world for the witness: the settled one, the tables holding what their initialisers lay. -/
noncomputable def laidWorld (os : Os) : World :=
  { World.holding Tryd.prog os ⟨#[], #[], []⟩ with heap := (((World.holding Tryd.prog os ⟨#[], #[], []⟩).heap.modify 0 (putTab (u32s Dig.Plain.hh))).modify 1 (putTab (u32s Dig.Plain.kk))).modify 2 (putTab (Seal.Plain.qt.map (Value.int .i64)).toArray) }
def numOf : Option Value → Int
  | some (.int _ z) => z
  | _ => 0
theorem cells5 : Tryd.prog.cellsOf 5 = 1 := by kernel_rfl
theorem cellsS : Tryd.prog.cellsOf 23 = 32 := by kernel_rfl
theorem open_sumL {H : Type} {enc : TypeId × Value → H} {W : World} {base : Nat} {sp : Nat → Bool} {held : Bool} {fuel : Nat} {cs : List Value} {x : DataW H × List MemPlace} (h : DataW.trod enc Tryd.prog W base sp held fuel 23 cs = some x) : ∃ D : List Int, cs = D.map (Value.int .u8) ∧ D.length = 32 ∧ Byt D := by
  obtain ⟨xs, m, _, _, hl, hn, hel⟩ := DataW.trod_array Tryd.underlying23 h
  rw [cellsS] at hl
  have key : ∀ i, i < 32 → ∃ z, cs[i]? = some (.int .u8 z) ∧ 0 ≤ z ∧ z ≤ 255 := by
    intro i hi
    have := hel i hi
    rw [cells5, Nat.mul_one] at this
    have hx : ∃ y, xs[i]? = some y := ⟨xs[i]'(by omega), by simp [hn, hi]⟩
    obtain ⟨y, hy⟩ := hx
    rw [hy] at this
    obtain ⟨z, hz, _, hw⟩ := DataW.trod_int Tryd.underlying5 this
    have hb := bounds_u8 hw
    refine ⟨z, ?_, by omega, by omega⟩
    have h1 := congrArg (·[0]?) hz
    simpa [List.getElem?_take, List.getElem?_drop] using h1
  refine ⟨(List.range 32).map fun i => numOf cs[i]?, ?_, by simp, ?_⟩
  · apply List.ext_getElem
    · simp [hl]
    · intro i h1 h2
      obtain ⟨z, hz, _⟩ := key i (by omega)
      have : cs[i] = .int .u8 z := by
        rw [List.getElem?_eq_getElem h1] at hz
        exact Option.some.inj hz
      simp [this, hz, numOf]
  · intro i
    by_cases hi : i < 32
    · obtain ⟨z, hz, h0, h1⟩ := key i hi
      simp [hi, hz, h0, h1, numOf]
    · simp [hi]
theorem open_sum {H : Type} {enc : TypeId × Value → H} {W : World} {base : Nat} {v : Value} {d : DataW H} {p : List MemPlace} (hval : Value.okWide Tryd.prog W .any base 23 v) (h : DataW.Trod enc Tryd.prog W 0 (fun _ => true) true 23 v d p) :
    ∃ D : List Int, v = .agg (u8s D) ∧ D.length = 32 ∧ Byt D := by
  simp only [Value.okWide, Tryd.underlying23] at hval
  obtain ⟨cs, rfl, h2, _⟩ := hval
  obtain ⟨fuel, hf⟩ := h
  have hcs : (Value.agg cs).cells = cs := rfl
  rw [hcs] at hf
  obtain ⟨D, hD, l, b⟩ := open_sumL hf
  exact ⟨D, by rw [u8s, ← hD], l, b⟩
end Go.Proofs.YtipdaaajnbjnjaaDoor
namespace Go.Proofs.YtipdaaajnbjnjaaDoor
set_option maxRecDepth 100000
set_option linter.unusedVariables false
open Go.RowKit Plain
/-- A disk that is neither down nor told to stop. -/
def Up (d : Disk.Dk) : Prop := d.down = false ∧ d.st = false
theorem dwr_up {d : Disk.Dk} (h : Up d) (p : Nat) (S : List Int) : dwr d p S = (Disk.wrOk d p S, 0) := by simp [dwr, h.1, h.2]
theorem up_wr {d : Disk.Dk} (h : Up d) (p : Nat) (S : List Int) : Up (Disk.wrOk d p S) := h
/-- The places that are written. -/
def pls (j : Jt) (k n : Nat) : List Nat := (List.range n).map fun x => plc j (k + x)
theorem pls_succ (j : Jt) (k n : Nat) : pls j k (n + 1) = plc j k :: pls j (k + 1) n := by
  unfold pls
  rw [List.range_succ_eq_map, List.map_cons, List.map_map]
  congr 1
  apply List.map_congr_left
  intro x _
  simp only [Function.comp]
  congr 1
  omega
/-- What holds behind records that were written. -/
structure ApU (j : Jt) (d : Disk.Dk) (nx : Int) (s : Jst) (n : Nat) (y : Ast) : Prop where
  up : Up y.1
  nn : y.1.n = d.n
  pl : y.1.pl = d.pl
  ops : y.1.ops = d.ops ++ (pls j (s.start + s.count) n).map fun (p : Nat) => ((2 : Int), (p : Int))
  uw : ∃ W : List (Nat × List Int), y.1.uw = d.uw ++ W ∧ W.map Prod.fst = pls j (s.start + s.count) n
  left : y.1.left = d.left
  nx : y.2.1 = nx + (n : Int)
  er : y.2.2.1 = 0
  st : y.2.2.2.start = s.start
  ct : y.2.2.2.count = s.count + n
  tg : y.2.2.2.tag.length = 32 ∧ Byt y.2.2.2.tag
theorem apL_up (j : Jt) : ∀ (L : List ((Int × List Int) × Bool)) (d : Disk.Dk) (nx : Int) (s : Jst), Up d → s.tag.length = 32 ∧ Byt s.tag → ApU j d nx s L.length (apL j (d, nx, 0, s) L)
  | [], d, nx, s, h, ht => ⟨h, rfl, rfl, by simp [pls, apL], ⟨[], by simp [apL], rfl⟩, rfl, by show nx = nx + ((0 : Nat) : Int); omega, rfl, rfl, rfl, ht⟩
  | r :: L, d, nx, s, h, ht => by
    have e : apS j (d, nx, 0, s) r = (Disk.wrOk d (plc j (s.start + s.count)) (apT j (d, nx, 0, s) r), nx + 1, 0, nxS j s (plc j (s.start + s.count)) (apT j (d, nx, 0, s) r)) := by
      unfold apS
      rw [if_neg (by simp), dwr_up h]
      rfl
    have e2 : apL j (d, nx, 0, s) (r :: L) = apL j (Disk.wrOk d (plc j (s.start + s.count)) (apT j (d, nx, 0, s) r), nx + 1, 0, nxS j s (plc j (s.start + s.count)) (apT j (d, nx, 0, s) r)) L := by rw [← e]; rfl
    rw [e2]
    have ih := apL_up j L (Disk.wrOk d (plc j (s.start + s.count)) (apT j (d, nx, 0, s) r)) (nx + 1) (nxS j s (plc j (s.start + s.count)) (apT j (d, nx, 0, s) r)) (up_wr h _ _) ⟨length_dsha _, byt_dsha _⟩
    generalize apL j (Disk.wrOk d (plc j (s.start + s.count)) (apT j (d, nx, 0, s) r), nx + 1, 0, nxS j s (plc j (s.start + s.count)) (apT j (d, nx, 0, s) r)) L = y at ih ⊢
    have hst : (nxS j s (plc j (s.start + s.count)) (apT j (d, nx, 0, s) r)).start + (nxS j s (plc j (s.start + s.count)) (apT j (d, nx, 0, s) r)).count = s.start + s.count + 1 := rfl
    have ho := ih.ops
    obtain ⟨W, hW1, hW2⟩ := ih.uw
    rw [hst] at ho hW2
    refine ⟨ih.up, ih.nn, ih.pl, ?_, ⟨(plc j (s.start + s.count), apT j (d, nx, 0, s) r) :: W, ?_, ?_⟩, ?_, ?_, ih.er, ih.st, ?_, ih.tg⟩
    · rw [ho, List.length_cons, pls_succ]
      simp [Disk.wrOk]
    · rw [hW1]
      simp [Disk.wrOk]
    · rw [List.length_cons, pls_succ, List.map_cons, hW2]
    · rw [ih.left]
      simp [Disk.wrOk, h.2]
    · rw [ih.nx, List.length_cons]
      omega
    · rw [ih.ct, List.length_cons]
      show s.count + 1 + L.length = _
      omega
/-- Append where the disk tells no error. -/
theorem appM_up (j : Jt) (ok : j.Ok) (d : Disk.Dk) (L : List (Int × List Int)) (hd : Up d) (hb : bad L = false) (h1 : j.st.count + L.length ≤ j.size) (h2 : j.nx + (L.length : Int) ≤ j.lim) : ApU j d j.nx j.st L.length (appM j d L) := by
  have ht : tke j L.length = 0 := by
    unfold tke
    rw [if_neg (by omega), if_neg (by omega)]
  have h := apL_up j (ofP L) d j.nx j.st hd ⟨ok.st.lt, ok.st.bt⟩
  rw [len_ofP] at h
  have e : appM j d L = apL j (d, j.nx, 0, j.st) (ofP L) := by
    unfold appM
    rw [if_neg (by rw [hb]; simp), if_neg (fun h => h ht), if_neg (fun hh => hh h.er)]
  rw [e]
  exact h
theorem ApU.okS {j : Jt} {d : Disk.Dk} {nx : Int} {s : Jst} {n : Nat} {y : Ast} (h : ApU j d nx s n y) (h1 : s.start ≤ 1000000) (h2 : s.count + n ≤ 1000000) : OkS y.2.2.2 := ⟨h.tg.1, h.tg.2, by rw [h.st]; omega, by rw [h.ct]; omega⟩
end Go.Proofs.YtipdaaajnbjnjaaDoor
