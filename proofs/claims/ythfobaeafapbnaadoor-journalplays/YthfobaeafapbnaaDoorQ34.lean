/-
 What the rows of this seat give the walks: the three tables out of the rows' list; a digest and a ref that came in by value. And what follows it.
-/
import Derived.Test.YthfobaeafapbnaaDoorCards
import Derived.Test.YthfobaeafapbnaaDoorTie
import Derived.ProofKit
import Derived.OpenShut
import Derived.ShutString
import Derived.ChangeOld
import Derived.Below
import Derived.Deep.DeepHandedRow
import Derived.Lib.LaidTab
import Derived.Deep.Grids
import Derived.Test.YthfobaeafapbnaaDoorQ33
import Derived.Test.YthfobaeafapbnaaDoorQ00
import Derived.Test.YthfobaeafapbnaaDoorQ15
import Derived.Test.YthfobaeafapbnaaDoorQ24
import Derived.Test.YthfobaeafapbnaaDoorQ32
import Derived.Test.YthfobaeafapbnaaDoorQ27
import Derived.Test.YthfobaeafapbnaaDoorQ25
set_option linter.unusedVariables false
set_option maxRecDepth 100000
namespace Go.Proofs.YthfobaeafapbnaaDoor
open Go.RowKit Plain Go.WideShapes
theorem gFirst : Tryd.prog.globalNamed "reliquary/digest.first" = some 0 := by kernel_rfl
theorem gRounds : Tryd.prog.globalNamed "reliquary/digest.rounds" = some 1 := by kernel_rfl
theorem gQuart : Tryd.prog.globalNamed "reliquary/cipher.quarters" = some 2 := by kernel_rfl
theorem tFirst : (Tryd.prog.globals[0]?).map (·.type) = some 141 := by kernel_rfl
theorem tRounds : (Tryd.prog.globals[1]?).map (·.type) = some 163 := by kernel_rfl
theorem tQuart : (Tryd.prog.globals[2]?).map (·.type) = some 182 := by kernel_rfl
def quads : List (List Int) := [[0, 4, 8, 12], [1, 5, 9, 13], [2, 6, 10, 14], [3, 7, 11, 15], [0, 5, 10, 15], [1, 6, 11, 12], [2, 7, 8, 13], [3, 4, 9, 14]]
def laid3 : List (String × DataW Unit) := [("reliquary/digest.first", Lib.tabData .u32 Dig.Plain.hh), ("reliquary/digest.rounds", Lib.tabData .u32 Dig.Plain.kk), ("reliquary/cipher.quarters", .agg (quads.map (Lib.tabData .i64)))]
theorem cell_block {w : World} {b o : Nat} {v : Value} (h : w.cell? ⟨b, o, none⟩ = some v) : b < w.heap.size := by
 apply Nat.lt_of_not_le
 intro hle
 simp [World.cell?, Array.getElem?_eq_none hle] at h
theorem quads_at (i : Nat) (h : i < 32) : (quads.getD (i / 4) []).getD (i % 4) 0 = Seal.Plain.qt.getD i 0 /\ (quads.getD (i / 4) []).length = 4 := by
 have key : ∀ k : Fin 32, (quads.getD (k.val / 4) []).getD (k.val % 4) 0 = Seal.Plain.qt.getD k.val 0 /\ (quads.getD (k.val / 4) []).length = 4 := by decide +kernel
 exact key ⟨i, h⟩
theorem tabs_of_laid {W : World} (h : laidMetH Tryd.prog laid3 W) : Dig.Tabs W /\ Seal.Tab W := by
 have h' : laidMet Tryd.prog laid3 W := h
 obtain ⟨ps, ⟨g0, t0, cs0, f0, p0, q0, hg0, ht0, hv0, hd0, ⟨g1, t1, cs1, f1, p1, q1, hg1, ht1, hv1, hd1, ⟨g2, t2, cs2, f2, p2, q2, hg2, ht2, hv2, hd2, _, _⟩, _⟩, _⟩, _, _⟩ := h'
 obtain rfl := Option.some.inj (gFirst.symm.trans hg0)
 obtain rfl := Option.some.inj (gRounds.symm.trans hg1)
 obtain rfl := Option.some.inj (gQuart.symm.trans hg2)
 obtain rfl := Option.some.inj (tFirst.symm.trans ht0)
 obtain rfl := Option.some.inj (tRounds.symm.trans ht1)
 obtain rfl := Option.some.inj (tQuart.symm.trans ht2)
 have e0 : Lib.TabIs Tryd.prog W "reliquary/digest.first" .u32 Dig.Plain.hh := by
  unfold Lib.TabIs
  rw [hv0, <- Lib.cells_of_tab Tryd.underlying141 Tryd.underlying71 (by kernel_rfl) (by kernel_rfl) hd0]
 have e1 : Lib.TabIs Tryd.prog W "reliquary/digest.rounds" .u32 Dig.Plain.kk := by
  unfold Lib.TabIs
  rw [hv1, <- Lib.cells_of_tab Tryd.underlying163 Tryd.underlying71 (by kernel_rfl) (by kernel_rfl) hd1]
 obtain ⟨xs, m, _, hx, hl, hn, hel⟩ := DataW.trod_array Tryd.underlying182 hd2
 have hc4 : Tryd.prog.cellsOf 181 = 4 := by kernel_rfl
 have hx1 : xs.map (·.1) = quads.map (Lib.tabData .i64) := by
  have := congrArg Prod.fst hx
  simp only [DataW.agg.injEq] at this
  exact this.symm
 have hrow : ∀ j, j < 8 -> (cs2.toList.drop (j * 4)).take 4 = (quads.getD j []).map fun z => Value.int .i64 z := by
  intro j hj
  have h1 := hel j hj
  rw [hc4] at h1
  obtain ⟨y, hy⟩ : ∃ y, xs[j]? = some y := ⟨xs[j]'(by omega), by simp [hn, hj]⟩
  rw [hy] at h1
  obtain ⟨y1, y2⟩ := y
  have e1 : y1 = Lib.tabData .i64 (quads.getD j []) := by
   have h2 : (xs.map (·.1))[j]? = some y1 := by simp [hy]
   rw [hx1] at h2
   have hq : j < quads.length := hj
   simp only [List.getElem?_map, List.getElem?_eq_getElem hq, Option.map_some, Option.some.injEq] at h2
   rw [<- h2]
   simp [List.getD, hq]
  subst e1
  exact Lib.cells_of_tab Tryd.underlying181 Tryd.underlying3 (by kernel_rfl) (by kernel_rfl) h1
 have hcell : ∀ i, i < 32 -> W.cell? ⟨2, i, none⟩ = some (.int .i64 (Seal.Plain.qt.getD i 0)) := by
  intro i hi
  have h1 := hrow (i / 4) (by omega)
  have h2 := congrArg (·[i % 4]?) h1
  simp only [List.getElem?_take, List.getElem?_drop, List.getElem?_map] at h2
  rw [if_pos (by omega), show i / 4 * 4 + i % 4 = i by omega] at h2
  obtain ⟨q1, q2⟩ := quads_at i hi
  have q3 : (quads.getD (i / 4) [])[i % 4]? = some (Seal.Plain.qt.getD i 0) := by
   rw [<- q1]
   have : i % 4 < (quads.getD (i / 4) []).length := by omega
   generalize quads.getD (i / 4) [] = Q at this ⊢
   simp [List.getD, this]
  rw [q3] at h2
  have h3 := World.var?_cell gQuart hv2 i
  rw [h3]
  simpa using h2
 refine ⟨⟨?_, fun i hi => e0.cell gFirst i hi, fun i hi => e1.cell gRounds i hi⟩, cell_block (hcell 0 (by omega)), hcell⟩
 have := cell_block (e1.cell gRounds 0 (by decide))
 omega
def putTab (cs : Array Value) : Obj -> Obj
 | .cells _ t frozen => .cells cs t frozen
 | o => o
noncomputable def laidWorld (os : Os) : World :=
 { World.holding Tryd.prog os ⟨#[], #[], []⟩ with heap := (((World.holding Tryd.prog os ⟨#[], #[], []⟩).heap.modify 0 (putTab (u32s Dig.Plain.hh))).modify 1 (putTab (u32s Dig.Plain.kk))).modify 2 (putTab (Seal.Plain.qt.map (Value.int .i64)).toArray) }
def numOf : Option Value -> Int
 | some (.int _ z) => z
 | _ => 0
theorem cells5 : Tryd.prog.cellsOf 5 = 1 := by kernel_rfl
theorem cellsS : Tryd.prog.cellsOf 23 = 32 := by kernel_rfl
theorem open_sumL {H : Type} {enc : TypeId × Value -> H} {W : World} {base : Nat} {sp : Nat -> Bool} {held : Bool} {fuel : Nat} {cs : List Value} {x : DataW H × List MemPlace} (h : DataW.trod enc Tryd.prog W base sp held fuel 23 cs = some x) : ∃ D : List Int, cs = D.map (Value.int .u8) /\ D.length = 32 /\ Byt D := by
 obtain ⟨xs, m, _, _, hl, hn, hel⟩ := DataW.trod_array Tryd.underlying23 h
 rw [cellsS] at hl
 have key : ∀ i, i < 32 -> ∃ z, cs[i]? = some (.int .u8 z) /\ 0 <= z /\ z <= 255 := by
  intro i hi
  have := hel i hi
  rw [cells5, Nat.mul_one] at this
  have hx : ∃ y, xs[i]? = some y := ⟨xs[i]'(by omega), by simp [hn, hi]⟩
  obtain ⟨y, hy⟩ := hx
  rw [hy] at this
  obtain ⟨z, hz, _, hw⟩ := DataW.trod_int Tryd.underlying5 this
  have hb := bounds_u8 hw
  refine ⟨z, ?_, by omega, by omega⟩
  have h1 := congrArg (·[0]?) hz
  simpa [List.getElem?_take, List.getElem?_drop] using h1
 refine ⟨(List.range 32).map fun i => numOf cs[i]?, ?_, by simp, ?_⟩
 ·apply List.ext_getElem
  ·simp [hl]
  ·intro i h1 h2
   obtain ⟨z, hz, _⟩ := key i (by omega)
   have : cs[i] = .int .u8 z := by
    rw [List.getElem?_eq_getElem h1] at hz
    exact Option.some.inj hz
   simp [this, hz, numOf]
 ·intro i
  by_cases hi : i < 32
  ·obtain ⟨z, hz, h0, h1⟩ := key i hi
   simp [hi, hz, h0, h1, numOf]
  ·simp [hi]
theorem open_sum {H : Type} {enc : TypeId × Value -> H} {W : World} {base : Nat} {v : Value} {d : DataW H} {p : List MemPlace} (hval : Value.okWide Tryd.prog W .any base 23 v) (h : DataW.Trod enc Tryd.prog W 0 (fun _ => true) true 23 v d p) :
  ∃ D : List Int, v = .agg (u8s D) /\ D.length = 32 /\ Byt D := by
 simp only [Value.okWide, Tryd.underlying23] at hval
 obtain ⟨cs, rfl, h2, _⟩ := hval
 obtain ⟨fuel, hf⟩ := h
 have hcs : (Value.agg cs).cells = cs := rfl
 rw [hcs] at hf
 obtain ⟨D, hD, l, b⟩ := open_sumL hf
 exact ⟨D, by rw [u8s, <- hD], l, b⟩
theorem cellsSt : Tryd.prog.cellsOf 26 = 34 := by kernel_rfl
theorem cellsU64 : Tryd.prog.cellsOf 24 = 1 := by kernel_rfl
theorem open_stateL {H : Type} {enc : TypeId × Value -> H} {W : World} {base : Nat} {sp : Nat -> Bool} {held : Bool} {fuel : Nat} {cs : List Value} {x : DataW H × List MemPlace} (h : DataW.trod enc Tryd.prog W base sp held fuel 26 cs = some x) : ∃ s : Jst, cs = scs s /\ OkS s := by
 obtain ⟨xs, k, hk, hxy, hl, hxl, hf⟩ := DataW.trod_struct Tryd.underlying26 h
 rw [cellsSt] at hl
 have hxl2 : xs.length = 3 := hxl
 match xs, hxl2 with
 | [y0, y1, y2], _ =>
  have g0 : DataW.trod enc Tryd.prog W base sp held k 24 ((cs.drop 0).take (Tryd.prog.cellsOf 24)) = some y0 := hf 0 _ rfl
  have g1 : DataW.trod enc Tryd.prog W base sp held k 24 ((cs.drop 1).take (Tryd.prog.cellsOf 24)) = some y1 := hf 1 _ rfl
  have g2 : DataW.trod enc Tryd.prog W base sp held k 23 ((cs.drop 2).take (Tryd.prog.cellsOf 23)) = some y2 := hf 2 _ rfl
  rw [cellsU64] at g0 g1
  rw [cellsS] at g2
  obtain ⟨z0, e0, _, w0⟩ := DataW.trod_int Tryd.underlying24 g0
  obtain ⟨z1, e1, _, w1⟩ := DataW.trod_int Tryd.underlying24 g1
  obtain ⟨d, e2, ld, bd⟩ := open_sumL g2
  have b0 := bounds_u64 w0
  have b1 := bounds_u64 w1
  obtain ⟨n0, rfl⟩ := Int.eq_ofNat_of_zero_le b0.1
  obtain ⟨n1, rfl⟩ := Int.eq_ofNat_of_zero_le b1.1
  refine ⟨⟨n0, n1, d⟩, ?_, ⟨ld, bd, by show n0 <= _; omega, by show n1 <= _; omega⟩⟩
  have st : ∀ p q, (cs.drop p).take q ++ cs.drop (p + q) = cs.drop p := fun p q => by rw [<- List.drop_drop, List.take_append_drop]
  have s0 := st 0 1
  have s1 := st 1 1
  have s2 := st 2 32
  rw [List.drop_zero] at s0 e0
  rw [e0] at s0
  rw [e1] at s1
  rw [e2, List.drop_of_length_le (show cs.length <= 2 + 32 by omega), List.append_nil] at s2
  rw [<- s0, <- s1, <- s2]
  rfl
theorem open_state {H : Type} {enc : TypeId × Value -> H} {W : World} {base : Nat} {v : Value} {d : DataW H} {p : List MemPlace} (hval : Value.okWide Tryd.prog W .any base 26 v) (h : DataW.Trod enc Tryd.prog W 0 (fun _ => true) true 26 v d p) :
  ∃ s : Jst, v = .agg (sa s) /\ OkS s := by
 simp only [Value.okWide, Tryd.underlying26] at hval
 obtain ⟨cs, rfl, h2, _⟩ := hval
 obtain ⟨fuel, hf⟩ := h
 have hcs : (Value.agg cs).cells = cs := rfl
 rw [hcs] at hf
 obtain ⟨s, hs, ok⟩ := open_stateL hf
 exact ⟨s, by rw [sa, <- hs], ok⟩
end Go.Proofs.YthfobaeafapbnaaDoor
namespace Go.Proofs.YthfobaeafapbnaaDoor
open Go.RowKit Plain
def RwK (r' : Disk.Rd) (x : Int) (e : Ending) (w2 w3 : World) : Prop := ∃ v', e = .returned (.tuple #[v', .int .i64 x]) /\ Disk.Rv w3 v' r' /\ Below w2.heap.size w2 w3
theorem rwrite_j {k : Nat} {d : Disk.Dk} {r : Disk.Rd} (hJ : Disk.J k d r) (hk : k < 900000) (p : Nat) (hp : p < d.n) (B : List Int) (hl : B.length = 192) :
  ∃ r', Disk.J (k + 1) (dwr d p B).1 r' /\ ∀ w2 v, Disk.Rv w2 v r -> Calls Tryd.prog 46 #[v, .int .i64 (p : Int), .string (strOfNums B)] w2 fun e w3 => RwK r' (dwr d p B).2 e w2 w3 := by
 have l1 := hJ.l1
 have l2 := hJ.l2
 have e1 := hJ.way
 have e2 := hJ.ops
 have hrf : Disk.rfit r.n (p : Int) B.length = 0 := by
  rw [hJ.n]
  unfold Disk.rfit
  rw [if_pos (by simp; omega), if_pos hl]
 cases hd : d.down with
 | true =>
  have e : dwr d p B = (d, 13) := by unfold dwr; rw [if_pos hd]
  rw [e]
  refine ⟨r, hJ.on, fun w2 v hv => ?_⟩
  obtain ⟨vd, vw, vo, rfl, h1, h2, h3⟩ := hv
  rw [hJ.down, hd]
  refine (Disk.rwrite_down w2 r.n vd vw vo r.left (Disk.oneR h1) (Disk.oneR h2) (Disk.oneO h3) (p : Int) (strOfNums B)).mono ?_
  rintro e w3 ⟨rfl, hb⟩
  exact ⟨_, rfl, ⟨vd, vw, vo, by rw [hJ.down, hd], h1.below hb, h2.below hb, h3.below hb⟩, hb⟩
 | false =>
  have hd' : ¬ d.down = true := by rw [hd]; decide
  by_cases hstop : d.st = true /\ d.left = 0
  ·have hrl : r.left = 0 := by rw [hJ.st hstop.1]; exact hstop.2
   have e : dwr d p B = ({ d with down := true }, 13) := by unfold dwr; rw [if_neg hd', if_pos hstop]
   rw [e]
   refine ⟨{ r with down := true }, ⟨hJ.n, hJ.pl, hJ.way, rfl, hJ.st, hJ.no, hJ.lo, hJ.ops, by show r.done.length + r.way.length <= k + 1; omega, by show r.ops.length <= k + 1; omega⟩, fun w2 v hv => ?_⟩
   obtain ⟨vd, vw, vo, rfl, h1, h2, h3⟩ := hv
   rw [hJ.down, hd, hrl]
   refine (Disk.rwrite_stop w2 r.n vd vw vo (Disk.oneR h1) (Disk.oneR h2) (Disk.oneO h3) (p : Int) (strOfNums B) B.length (Disk.size_str B) hrf).mono ?_
   rintro e w3 ⟨rfl, hb⟩
   exact ⟨_, rfl, ⟨vd, vw, vo, by first | rfl | rw [hrl], h1.below hb, h2.below hb, h3.below hb⟩, hb⟩
  ·have e : dwr d p B = (Disk.wrOk d p B, 0) := by unfold dwr; rw [if_neg hd', if_neg hstop]
   rw [e]
   by_cases hst : d.st = true
   ·have hrl := hJ.st hst
    have hlo := hJ.lo
    have hpos : 0 < r.left := by rw [hrl]; have : d.left ≠ 0 := fun h => hstop ⟨hst, h⟩; omega
    refine ⟨{ r with left := r.left - 1, way := r.way ++ [(p, B)], ops := r.ops ++ [(2, (p : Int))] }, ⟨hJ.n, hJ.pl, by show r.way ++ [(p, B)] = d.uw ++ [(p, B)]; rw [e1], hJ.down, fun _ => by show r.left - 1 = if d.st then d.left - 1 else d.left; rw [if_pos hst, hrl], fun h => absurd h (by rw [show (Disk.wrOk d p B).st = d.st from rfl, hst]; simp), by show 0 <= (if d.st then d.left - 1 else d.left) /\ (if d.st then d.left - 1 else d.left) <= _; rw [if_pos hst]; omega, by show r.ops ++ _ = d.ops ++ _; rw [e2], by show r.done.length + (r.way ++ [(p, B)]).length <= k + 1; simp; omega, by show (r.ops ++ [(2, (p : Int))]).length <= k + 1; simp; omega⟩, fun w2 v hv => ?_⟩
    obtain ⟨vd, vw, vo, rfl, h1, h2, h3⟩ := hv
    rw [hJ.down, hd]
    refine (Disk.rwrite_left w2 r.n vd vw vo r.left r.way r.ops (Disk.oneR h1) h2 h3 (by omega) (by omega) p B hrf hpos (by omega)).mono ?_
    rintro e w3 ⟨vw', vo', rfl, hb, h4, h5⟩
    exact ⟨_, rfl, ⟨vd, vw', vo', by first | rfl | (rw [hJ.down, hd]), h1.below hb, h4, h5⟩, hb⟩
   ·have hst' : d.st = false := by simpa using hst
    have hrl := hJ.no hst'
    refine ⟨{ r with way := r.way ++ [(p, B)], ops := r.ops ++ [(2, (p : Int))] }, ⟨hJ.n, hJ.pl, by show r.way ++ [(p, B)] = d.uw ++ [(p, B)]; rw [e1], hJ.down, fun h => by rw [show (Disk.wrOk d p B).st = d.st from rfl] at h; exact absurd h hst, fun _ => hrl, by show 0 <= (if d.st then d.left - 1 else d.left) /\ (if d.st then d.left - 1 else d.left) <= _; rw [if_neg hst]; exact hJ.lo, by show r.ops ++ _ = d.ops ++ _; rw [e2], by show r.done.length + (r.way ++ [(p, B)]).length <= k + 1; simp; omega, by show (r.ops ++ [(2, (p : Int))]).length <= k + 1; simp; omega⟩, fun w2 v hv => ?_⟩
    obtain ⟨vd, vw, vo, rfl, h1, h2, h3⟩ := hv
    rw [hJ.down, hd]
    refine (Disk.rwrite_on w2 r.n vd vw vo r.left r.way r.ops (Disk.oneR h1) h2 h3 (by omega) (by omega) p B hrf (by omega)).mono ?_
    rintro e w3 ⟨vw', vo', rfl, hb, h4, h5⟩
    exact ⟨_, rfl, ⟨vd, vw', vo', by first | rfl | (rw [hJ.down, hd]), h1.below hb, h4, h5⟩, hb⟩
attribute [local go_sem] Oper.semAt_some
theorem zeroS13 : (Tryd.prog.info? 42).map (·.zero) = some (some (.agg (sa zs))) := by kernel_rfl
theorem infoS13 : (Tryd.prog.info? 42).map (·.size) = some 34 := by kernel_rfl
def sq (a c : Int) (t : List Int) : List Value := .int .u64 a :: .int .u64 c :: t.map (Value.int .u8)
theorem len_sq (a c : Int) (t : List Int) (h : t.length = 32) : (sq a c t).length = 34 := by simp [sq, h]
theorem sq_t (a c : Int) (t u : List Int) (h : t.length = 32) (hu : u.length = 32) : splice (sq a c t) 2 (u.map (Value.int .u8)) = sq a c u := by simp [splice, sq, h, hu]
theorem builtS (parts : List (Nat × Value)) : Tryd.prog.built 42 parts = Instr.fill (fun i => #[(0, 1), (1, 1), (2, 32)][i]?) (sq 0 0 z32).toArray parts := by kernel_rfl
theorem built_S13 (s : Jst) (hs : OkS s) : Tryd.prog.built 42 [(0, .int .u64 (s.start : Int)), (1, .int .u64 (s.count : Int)), (2, .agg (u8s s.tag))] = some (sa s) := by
 have hz : z32.length = 32 := len_z32
 have hu : (u8s s.tag).toList = s.tag.map (Value.int .u8) := by simp [u8s]
 rw [builtS, fill_val _ _ 0 0 _ rfl _ rfl (by rw [List.size_toArray, len_sq _ _ _ hz]; omega), List.setIfInBounds_toArray, show (sq 0 0 z32).set 0 (.int .u64 (s.start : Int)) = sq (s.start : Int) 0 z32 from rfl]
 rw [fill_val _ _ 1 1 _ rfl _ rfl (by rw [List.size_toArray, len_sq _ _ _ hz]; omega), List.setIfInBounds_toArray, show (sq (s.start : Int) 0 z32).set 1 (.int .u64 (s.count : Int)) = sq (s.start : Int) (s.count : Int) z32 from rfl]
 rw [fill_step _ _ 2 2 32 _ _ rfl (by rw [size_u8s, hs.lt]) (by rw [List.size_toArray, len_sq _ _ _ hz]; omega), hu, sq_t _ _ _ _ hz hs.lt, Instr.fill]
 rfl
theorem stateOf_any (s : Jst) (hs : OkS s) (w : World) : Calls Tryd.prog 9 #[.agg (sa s)] w fun e w' => e = .returned (.agg (sa s)) /\ Below w.heap.size w w' := by
 obtain ⟨S, hS⟩ : ∃ S, w.heap.size = S := ⟨_, rfl⟩
 obtain ⟨w1, hw1⟩ : ∃ w1, (w.alloc (.cells (sa s) 26)).alloc (.cells (sa zs) 42) = w1 := ⟨_, rfl⟩
 have hs2 : (w.alloc (.cells (sa s) 26)).heap.size = S + 1 := by simp [hS]
 have hb1 : Below w.heap.size w w1 := by rw [<- hw1]; exact ((Below.refl _ _).alloc (Nat.le_refl _) _).alloc (by simp) _
 have k1 : w1.heap[S]? = some (.cells (sa s) 26 (0, 0)) := by rw [<- hw1]; exact al_old (al_at hS)
 have k2 : w1.heap[S + 1]? = some (.cells (sa zs) 42 (0, 0)) := by rw [<- hw1]; exact al_at hs2
 have HR : Box (w1.rangeAt S 2 (s.tag.map (Value.int .u8)) /\ w1.cell? ⟨S, 0, none⟩ = some (.int .u64 (s.start : Int)) /\ w1.cell? ⟨S, 1, none⟩ = some (.int .u64 (s.count : Int))) := ⟨fun j v hv => by
  rw [cell_of_row _ _ _ _ _ _ k1, Nat.add_comm]
  simpa [sa, scs] using hv, by rw [cell_of_row _ _ _ _ _ _ k1]; rfl, by rw [cell_of_row _ _ _ _ _ _ k1]; rfl⟩
 have HX : Box (w1.heap[S + 1]? = some (.cells (sa zs) 42 (0, 0))) := ⟨k2⟩
 have HB : Box (Below w.heap.size w w1 /\ w.heap.size = S) := ⟨hb1, hS⟩
 have HT : Box ((Tryd.prog.info? 23).map (·.size) = some (s.tag.map (Value.int .u8)).length) := ⟨by rw [List.length_map, hs.lt]; exact infoSum⟩
 have HI : Box ((Tryd.prog.info? 42).map (·.size) = some (sa s).size) := ⟨by rw [size_sa hs]; exact infoS13⟩
 have HBU : Box (Tryd.prog.built 42 [(0, .int .u64 (s.start : Int)), (1, .int .u64 (s.count : Int)), (2, .agg (s.tag.map (Value.int .u8)).toArray)] = some (sa s)) := ⟨built_S13 s hs⟩
 have HZ : Box ((sa s).size = (sa zs).size) := ⟨by rw [size_sa hs, size_sa okS_zs]⟩
 have c0 := HR.out.2.1
 have c1 := HR.out.2.2
 clear hs k1 k2 hb1
 go_enter Tryd.func9, Tryd.ntmps9
 go_upto_region 1 with (refine atAlloc _ ?_; refine wpList_run rfl _ _ (exec_alloc 42 rfl _ zeroS13) ?_)
 (try rw [hs2])
 (try simp only [hw1])
 clear hw1 hs2 hS
 go_wp2_with (first
  | (refine atLoad 23 ?_; refine wpList_ldMid rfl 23 _ _ rfl Tryd.underlying23 rfl S 2 rfl (s.tag.map (Value.int .u8)) HT.out HR.out.1 ?_)
  | (refine atBuild _ ?_; refine wpList_run rfl _ _ (exec_built 42 [(0, .tmp 4), (1, .tmp 6), (2, .tmp 8)] rfl _ rfl _ HBU.out) ?_)
  | (refine atStore _ ?_; refine wpList_store_row rfl 42 _ _ rfl (S + 1) (sa s) rfl rfl 42 (sa zs) HX.out HI.out HZ.out.symm (all_sa s) ?_))
 refine bodyPost_ret (results_cell_row (p := 2) (ty := 42) rfl _ _ (S + 1) 42 (sa s) (0, 0) _ rfl (setRow_heap _ _ _ _ _ _ HX.out) Tryd.underlying42 rfl HI.out) rfl ?_
 exact ⟨rfl, below_but HB.out.1 (but_setRow _ _ _) (by have := HB.out.2; omega) HB.out.1.size⟩
end Go.Proofs.YthfobaeafapbnaaDoor
namespace Go.Proofs.YthfobaeafapbnaaDoor
open Go.RowKit Plain
attribute [local go_sem] Oper.semAt_some
def rq (K : List Int) (f n : Int) (s : Jst) (x y : Int) : List Value := K.map (Value.int .u8) ++ (.int .i64 f :: .int .u64 n :: (scs s ++ [.int .u64 x, .int .u64 y]))
theorem len_rq (K : List Int) (f n : Int) (s : Jst) (x y : Int) (hK : K.length = 32) (hs : OkS s) : (rq K f n s x y).length = 70 := by simp [rq, hK, len_scs hs]
theorem rq_key (K L : List Int) (f n : Int) (s : Jst) (x y : Int) (hK : K.length = 32) (hL : L.length = 32) : splice (rq K f n s x y) 0 (L.map (Value.int .u8)) = rq L f n s x y := by
 simp [splice, rq, hL, hK]
theorem rq_f (K : List Int) (f n m : Int) (s : Jst) (x y : Int) (hK : K.length = 32) : (rq K f n s x y).set 32 (.int .i64 m) = rq K m n s x y := by
 simp [rq, hK]
theorem rq_n (K : List Int) (f n m : Int) (s : Jst) (x y : Int) (hK : K.length = 32) : (rq K f n s x y).set 33 (.int .u64 m) = rq K f m s x y := by
 simp [rq, hK]
theorem rq_s (K : List Int) (f n : Int) (s t : Jst) (x y : Int) (hK : K.length = 32) (hs : OkS s) (ht : OkS t) : splice (rq K f n s x y) 34 (scs t) = rq K f n t x y := by
 simp [splice, rq, List.take_append, List.drop_append, hK, len_scs hs, len_scs ht]
 rw [List.take_of_length_le (by simp [hK]), List.drop_of_length_le (by simp [hK])]
 rfl
theorem rq_x (K : List Int) (f n : Int) (s : Jst) (x y z : Int) (hK : K.length = 32) (hs : OkS s) : (rq K f n s x y).set 68 (.int .u64 z) = rq K f n s z y := by
 simp [rq, hK, len_scs hs]
theorem rq_y (K : List Int) (f n : Int) (s : Jst) (x y z : Int) (hK : K.length = 32) (hs : OkS s) : (rq K f n s x y).set 69 (.int .u64 z) = rq K f n s x z := by
 simp [rq, hK, len_scs hs]
theorem all_rq (K : List Int) (f n : Int) (s : Jst) (x y : Int) : (rq K f n s x y).toArray.all (·.oneCell') = true := by
 rw [List.all_toArray, List.all_eq_true]
 intro u hu
 simp only [rq, List.mem_append, List.mem_cons, List.mem_map, List.not_mem_nil, or_false] at hu
 rcases hu with ⟨z, _, rfl⟩ | rfl | rfl | h | rfl | rfl
 ·rfl
 ·rfl
 ·rfl
 ·exact one_scs s u h
 ·rfl
 ·rfl
theorem zeroRj : (Tryd.prog.info? 44).map (·.zero) = some (some (.agg (rq z32 0 0 zs 0 0).toArray)) := by kernel_rfl
theorem infoRj : (Tryd.prog.info? 44).map (·.size) = some 70 := by kernel_rfl
theorem builtRj (parts : List (Nat × Value)) : Tryd.prog.built 44 parts = Instr.fill (fun i => #[(0, 32), (32, 1), (33, 1), (34, 34), (68, 1), (69, 1)][i]?) (rq z32 0 0 zs 0 0).toArray parts := by kernel_rfl
theorem built_Rj (K : List Int) (f n : Int) (s : Jst) (x y : Int) (hk : K.length = 32) (hs : OkS s) : Tryd.prog.built 44 [(0, .agg (u8s K)), (1, .int .i64 f), (2, .int .u64 n), (3, .agg (sa s)), (4, .int .u64 x), (5, .int .u64 y)] = some (rq K f n s x y).toArray := by
 have hz : z32.length = 32 := len_z32
 have hu : (u8s K).toList = K.map (Value.int .u8) := by simp [u8s]
 rw [builtRj, fill_step _ _ 0 0 32 _ _ rfl (by rw [size_u8s, hk]) (by rw [List.size_toArray, len_rq _ _ _ _ _ _ hz okS_zs]; omega), hu, rq_key _ _ _ _ _ _ _ hz hk]
 rw [fill_val _ _ 1 32 _ rfl _ rfl (by rw [List.size_toArray, len_rq _ _ _ _ _ _ hk okS_zs]; omega), List.setIfInBounds_toArray, rq_f _ _ _ _ _ _ _ hk]
 rw [fill_val _ _ 2 33 _ rfl _ rfl (by rw [List.size_toArray, len_rq _ _ _ _ _ _ hk okS_zs]; omega), List.setIfInBounds_toArray, rq_n _ _ _ _ _ _ _ hk]
 rw [fill_step _ _ 3 34 34 _ _ rfl (size_sa hs) (by rw [List.size_toArray, len_rq _ _ _ _ _ _ hk okS_zs]; omega), toList_sa, rq_s _ _ _ _ _ _ _ hk okS_zs hs]
 rw [fill_val _ _ 4 68 _ rfl _ rfl (by rw [List.size_toArray, len_rq _ _ _ _ _ _ hk hs]; omega), List.setIfInBounds_toArray, rq_x _ _ _ _ _ _ _ hk hs]
 rw [fill_val _ _ 5 69 _ rfl _ rfl (by rw [List.size_toArray, len_rq _ _ _ _ _ _ hk hs]; omega), List.setIfInBounds_toArray, rq_y _ _ _ _ _ _ _ hk hs, Instr.fill]
set_option maxHeartbeats 2000000 in
theorem rnew13_ok (P f n : Nat) (h1 : 1 <= n) (hfit : f + n <= P) (hP : P <= 4096) (K : List Int) (hK : K.length = 32) (s : Jst) (hs : OkS s) (hst : s.start < n) (hct : s.count <= n) (nx lim : Int) (hn : 1 <= nx /\ nx <= 18446744073709551615) (hl : 0 <= lim /\ lim <= 9223372036854775807) (w : World) :
  Calls Tryd.prog 8 #[.int .i64 (P : Int), .agg (u8s K), .int .i64 (f : Int), .int .i64 (n : Int), .agg (sa s), .int .u64 nx, .int .u64 lim] w fun e w' => e = .returned (.tuple #[.agg (rq K (f : Int) (n : Int) s nx lim).toArray, .int .i64 0]) /\ Below w.heap.size w w' := by
 obtain ⟨S, hS⟩ : ∃ S, w.heap.size = S := ⟨_, rfl⟩
 obtain ⟨AK, hAK⟩ : ∃ A, u8s K = A := ⟨_, rfl⟩
 obtain ⟨AR, hAR⟩ : ∃ A, (rq K (f : Int) (n : Int) s nx lim).toArray = A := ⟨_, rfl⟩
 obtain ⟨AZ, hAZ⟩ : ∃ A, (rq z32 0 0 zs 0 0).toArray = A := ⟨_, rfl⟩
 obtain ⟨w1, hw1⟩ : ∃ w1, ((w.alloc (.cells AK 23)).alloc (.cells (sa s) 42)).alloc (.cells AZ 44) = w1 := ⟨_, rfl⟩
 have hs1 : (w.alloc (.cells AK 23)).heap.size = S + 1 := by simp [hS]
 have hs2 : ((w.alloc (.cells AK 23)).alloc (.cells (sa s) 42)).heap.size = S + 2 := by simp [hS]
 have hb1 : Below w.heap.size w w1 := by rw [<- hw1]; exact (((Below.refl _ _).alloc (Nat.le_refl _) _).alloc (by simp) _).alloc (by simp; omega) _
 have k1 : w1.heap[S]? = some (.cells AK 23 (0, 0)) := by rw [<- hw1]; exact al_old (al_old (al_at hS))
 have k2 : w1.heap[S + 1]? = some (.cells (sa s) 42 (0, 0)) := by rw [<- hw1]; exact al_old (al_at hs1)
 have k3 : w1.heap[S + 2]? = some (.cells AZ 44 (0, 0)) := by rw [<- hw1]; exact al_at hs2
 have HZ : Box ((Tryd.prog.info? 44).map (·.zero) = some (some (.agg AZ))) := ⟨hAZ ▸ zeroRj⟩
 have HRa : Box (w1.rangeAt S 0 (K.map (Value.int .u8))) := ⟨fun i v hv => by
  rw [cell_of_row _ _ _ _ _ _ k1, Nat.zero_add, <- hAK]
  simpa [u8s] using hv⟩
 have HRb : Box (w1.rangeAt (S + 1) 0 (scs s)) := ⟨range_sa k2⟩
 have HX : Box (w1.heap[S + 2]? = some (.cells AZ 44 (0, 0))) := ⟨k3⟩
 have c0 : w1.cell? ⟨S + 1, 0, none⟩ = some (.int .u64 (s.start : Int)) := by rw [cell_of_row _ _ _ _ _ _ k2]; rfl
 have c1 : w1.cell? ⟨S + 1, 1, none⟩ = some (.int .u64 (s.count : Int)) := by rw [cell_of_row _ _ _ _ _ _ k2]; rfl
 have HIL : Box ((Tryd.prog.info? 23).map (·.size) = some (K.map (Value.int .u8)).length /\ (Tryd.prog.info? 42).map (·.size) = some (scs s).length /\ (Tryd.prog.info? 44).map (·.size) = some AR.size /\ AZ.size = AR.size /\ AR.all (·.oneCell') = true) := ⟨by rw [List.length_map, hK]; exact infoSum, by rw [len_scs hs]; exact infoS13, by rw [<- hAR, List.size_toArray, len_rq _ _ _ _ _ _ hK hs]; exact infoRj, by rw [<- hAR, <- hAZ, List.size_toArray, List.size_toArray, len_rq _ _ _ _ _ _ hK hs, len_rq _ _ _ _ _ _ len_z32 okS_zs], by rw [<- hAR]; exact all_rq _ _ _ _ _ _⟩
 have HBJ : Box (Tryd.prog.built 44 [(0, .agg AK), (1, .int .i64 (f : Int)), (2, .int .u64 (n : Int)), (3, .agg (sa s)), (4, .int .u64 nx), (5, .int .u64 lim)] = some AR) := ⟨by rw [<- hAK, <- hAR]; exact built_Rj K _ _ s nx lim hK hs⟩
 have HAK : Box ((K.map (Value.int .u8)).toArray = AK /\ (scs s).toArray = sa s) := ⟨by rw [<- hAK]; rfl, rfl⟩
 have HB : Box (Below w.heap.size w w1 /\ w.heap.size = S) := ⟨hb1, hS⟩
 obtain ⟨r, hr⟩ : ∃ r, P - f = r := ⟨_, rfl⟩
 have hwr : IntKind.i64.wrap ((P : Int) - (f : Int)) = (r : Int) := by rw [IntKind.wrap_i64]; omega
 have hwn : IntKind.u64.wrap (n : Int) = (n : Int) := by rw [IntKind.wrap_u64]; omega
 have g1 : ¬ (f : Int) < 0 := by omega
 have g2 : ¬ (n : Int) < 1 := by omega
 have g3 : decide (P < f) = false := by simp; omega
 have g4 : decide (r < n) = false := by simp; omega
 have g5 : decide (n <= s.start) = false := by simp; omega
 have g6 : decide (n < s.count) = false := by simp; omega
 have g7 : (nx == 0) = false := by simp; omega
 have g8 : ¬ (9223372036854775807 : Int) < lim := by omega
 rw [hAK, hAR]
 clear hK h1 hfit hP hs hst hct hn hl k1 k2 k3 hb1 hAK hAR hr hAZ
 go_enter Tryd.func8, Tryd.ntmps8
 go_upto_region 1 with (refine atAlloc _ ?_; refine wpList_run rfl _ _ (exec_alloc 44 rfl _ HZ.out) ?_)
 (try rw [hs2])
 (try rw [hs1])
 (try simp only [hS, hw1])
 clear hs1 hs2 hw1 hS
 go_wp2_with (first
  | (refine atLoad 23 ?_; refine wpList_ldMid rfl 23 _ _ rfl Tryd.underlying23 rfl S 0 rfl (K.map (Value.int .u8)) HIL.out.1 HRa.out ?_; rw [HAK.out.1])
  | (refine atLoad 42 ?_; refine wpList_ldMid rfl 42 _ _ rfl Tryd.underlying42 rfl (S + 1) 0 rfl (scs s) HIL.out.2.1 HRb.out ?_; rw [HAK.out.2])
  | (refine atBuild 44 ?_; refine wpList_run rfl _ _ (exec_built 44 [(0, .tmp 57), (1, .tmp 58), (2, .tmp 60), (3, .tmp 61), (4, .tmp 62), (5, .tmp 63)] rfl [(0, .agg AK), (1, .int .i64 (f : Int)), (2, .int .u64 (n : Int)), (3, .agg (sa s)), (4, .int .u64 nx), (5, .int .u64 lim)] rfl _ HBJ.out) ?_)
  | (refine atStore _ ?_; refine wpList_store_row rfl 44 _ _ rfl (S + 2) AR rfl rfl 44 AZ HX.out HIL.out.2.2.1 HIL.out.2.2.2.1 HIL.out.2.2.2.2 ?_))
 refine bodyPost_ret (results_row2 (t := 14) (u := 15) rfl _ Tryd.underlying44 rfl _ _ (S + 2) AR HIL.out.2.2.1 rfl (setRow_heap _ _ _ _ _ _ HX.out)) rfl ?_
 exact ⟨rfl, below_but HB.out.1 (but_setRow _ _ _) (by have := HB.out.2; omega) HB.out.1.size⟩
end Go.Proofs.YthfobaeafapbnaaDoor
namespace Go.Proofs.YthfobaeafapbnaaDoor
open Go.RowKit Plain
theorem results_rows3 {fn : Func} {t1 t2 t3 : TypeId} {t u v x : Tmp} (h : fn.results = #[.cell t t1, .cell u t2, .cell v t3, .tmp x]) (d1 d2 d3 : TypeDesc) (hu1 : Tryd.prog.underlying t1 = some d1) (hd1 : d1.isRow = true) (hu2 : Tryd.prog.underlying t2 = some d2) (hd2 : d2.isRow = true) (hu3 : Tryd.prog.underlying t3 = some d3) (hd3 : d3.isRow = true) (tmps : Array Value) (w : World) (b1 b2 b3 : Nat) (c1 c2 c3 : List Value)
  (i1 : (Tryd.prog.info? t1).map (·.size) = some c1.length) (i2 : (Tryd.prog.info? t2).map (·.size) = some c2.length) (i3 : (Tryd.prog.info? t3).map (·.size) = some c3.length)
  (ht : tmps.getD t undef = .pointer (some ⟨b1, 0, none⟩)) (hu : tmps.getD u undef = .pointer (some ⟨b2, 0, none⟩)) (hv : tmps.getD v undef = .pointer (some ⟨b3, 0, none⟩)) (r1 : w.rangeAt b1 0 c1) (r2 : w.rangeAt b2 0 c2) (r3 : w.rangeAt b3 0 c3) :
  (results fn tmps).run Tryd.prog w = .ok (.tuple #[.agg c1.toArray, .agg c2.toArray, .agg c3.toArray, tmps.getD x undef]) w := by
 have l1 := run_loadVar_mid (P := Tryd.prog) w b1 0 t1 c1 d1 r1 hu1 hd1 i1
 have l2 := run_loadVar_mid (P := Tryd.prog) w b2 0 t2 c2 d2 r2 hu2 hd2 i2
 have l3 := run_loadVar_mid (P := Tryd.prog) w b3 0 t3 c3 d3 r3 hu3 hd3 i3
 simp only [Array.getD_eq_getD_getElem?] at ht hu hv
 simp [results, h, ht, hu, hv, l1, l2, l3, asAddr]
def pls (j : Jt) (k n : Nat) : List Nat := (List.range n).map fun x => plc j (k + x)
end Go.Proofs.YthfobaeafapbnaaDoor
