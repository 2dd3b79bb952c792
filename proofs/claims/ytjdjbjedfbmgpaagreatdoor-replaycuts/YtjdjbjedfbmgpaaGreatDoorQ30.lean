/-
 What the rows of this seat give the walks: the three tables out of the rows' list; a digest and a ref that came in by value. And what follows it.
-/
import Derived.Test.YtjdjbjedfbmgpaaGreatDoorCards
import Derived.Test.YtjdjbjedfbmgpaaGreatDoorTie
import Derived.ProofKit
import Derived.OpenShut
import Derived.ShutString
import Derived.ChangeOld
import Derived.Below
import Derived.Deep.DeepHandedRow
import Derived.Lib.LaidTab
import Derived.Deep.Grids
import Derived.Test.YtjdjbjedfbmgpaaGreatDoorQ29
import Derived.Test.YtjdjbjedfbmgpaaGreatDoorQ00
import Derived.Test.YtjdjbjedfbmgpaaGreatDoorQ12
import Derived.Test.YtjdjbjedfbmgpaaGreatDoorQ23
import Derived.Test.YtjdjbjedfbmgpaaGreatDoorQ24
import Derived.Lib.AppendStr
import Derived.Test.YtjdjbjedfbmgpaaGreatDoorQ06
import Derived.Test.YtjdjbjedfbmgpaaGreatDoorQ15
import Derived.Test.YtjdjbjedfbmgpaaGreatDoorQ27
set_option linter.unusedVariables false
set_option maxRecDepth 100000
set_option maxRecDepth 100000
namespace Go.Proofs.YtjdjbjedfbmgpaaGreatDoor
open Go.RowKit Plain Go.WideShapes
theorem gFirst : Tryz.prog.globalNamed "reliquary/digest.first" = some 0 := by kernel_rfl
theorem gRounds : Tryz.prog.globalNamed "reliquary/digest.rounds" = some 1 := by kernel_rfl
theorem gQuart : Tryz.prog.globalNamed "reliquary/cipher.quarters" = some 2 := by kernel_rfl
theorem tFirst : (Tryz.prog.globals[0]?).map (·.type) = some 179 := by kernel_rfl
theorem tRounds : (Tryz.prog.globals[1]?).map (·.type) = some 202 := by kernel_rfl
theorem tQuart : (Tryz.prog.globals[2]?).map (·.type) = some 237 := by kernel_rfl
def quads : List (List Int) := [[0, 4, 8, 12], [1, 5, 9, 13], [2, 6, 10, 14], [3, 7, 11, 15], [0, 5, 10, 15], [1, 6, 11, 12], [2, 7, 8, 13], [3, 4, 9, 14]]
def laid3 : List (String × DataW Unit) := [("reliquary/digest.first", Lib.tabData .u32 Dig.Plain.hh), ("reliquary/digest.rounds", Lib.tabData .u32 Dig.Plain.kk), ("reliquary/cipher.quarters", .agg (quads.map (Lib.tabData .i64)))]
theorem cell_block {w : World} {b o : Nat} {v : Value} (h : w.cell? ⟨b, o, none⟩ = some v) : b < w.heap.size := by
 apply Nat.lt_of_not_le
 intro hle
 simp [World.cell?, Array.getElem?_eq_none hle] at h
theorem quads_at (i : Nat) (h : i < 32) : (quads.getD (i / 4) []).getD (i % 4) 0 = Seal.Plain.qt.getD i 0 /\ (quads.getD (i / 4) []).length = 4 := by
 have key : ∀ k : Fin 32, (quads.getD (k.val / 4) []).getD (k.val % 4) 0 = Seal.Plain.qt.getD k.val 0 /\ (quads.getD (k.val / 4) []).length = 4 := by decide +kernel
 exact key ⟨i, h⟩
theorem tabs_of_laid {W : World} (h : laidMetH Tryz.prog laid3 W) : Dig.Tabs W /\ Seal.Tab W := by
 have h' : laidMet Tryz.prog laid3 W := h
 obtain ⟨ps, ⟨g0, t0, cs0, f0, p0, q0, hg0, ht0, hv0, hd0, ⟨g1, t1, cs1, f1, p1, q1, hg1, ht1, hv1, hd1, ⟨g2, t2, cs2, f2, p2, q2, hg2, ht2, hv2, hd2, _, _⟩, _⟩, _⟩, _, _⟩ := h'
 obtain rfl := Option.some.inj (gFirst.symm.trans hg0)
 obtain rfl := Option.some.inj (gRounds.symm.trans hg1)
 obtain rfl := Option.some.inj (gQuart.symm.trans hg2)
 obtain rfl := Option.some.inj (tFirst.symm.trans ht0)
 obtain rfl := Option.some.inj (tRounds.symm.trans ht1)
 obtain rfl := Option.some.inj (tQuart.symm.trans ht2)
 have e0 : Lib.TabIs Tryz.prog W "reliquary/digest.first" .u32 Dig.Plain.hh := by
  unfold Lib.TabIs
  rw [hv0, <- Lib.cells_of_tab Tryz.underlying179 Tryz.underlying76 (by kernel_rfl) (by kernel_rfl) hd0]
 have e1 : Lib.TabIs Tryz.prog W "reliquary/digest.rounds" .u32 Dig.Plain.kk := by
  unfold Lib.TabIs
  rw [hv1, <- Lib.cells_of_tab Tryz.underlying202 Tryz.underlying76 (by kernel_rfl) (by kernel_rfl) hd1]
 obtain ⟨xs, m, _, hx, hl, hn, hel⟩ := DataW.trod_array Tryz.underlying237 hd2
 have hc4 : Tryz.prog.cellsOf 236 = 4 := by kernel_rfl
 have hx1 : xs.map (·.1) = quads.map (Lib.tabData .i64) := by
  have := congrArg Prod.fst hx
  simp only [DataW.agg.injEq] at this
  exact this.symm
 have hrow : ∀ j, j < 8 -> (cs2.toList.drop (j * 4)).take 4 = (quads.getD j []).map fun z => Value.int .i64 z := by
  intro j hj
  have h1 := hel j hj
  rw [hc4] at h1
  obtain ⟨y, hy⟩ : ∃ y, xs[j]? = some y := ⟨xs[j]'(by omega), by simp [hn, hj]⟩
  rw [hy] at h1
  obtain ⟨y1, y2⟩ := y
  have e1 : y1 = Lib.tabData .i64 (quads.getD j []) := by
   have h2 : (xs.map (·.1))[j]? = some y1 := by simp [hy]
   rw [hx1] at h2
   have hq : j < quads.length := hj
   simp only [List.getElem?_map, List.getElem?_eq_getElem hq, Option.map_some, Option.some.injEq] at h2
   rw [<- h2]
   simp [List.getD, hq]
  subst e1
  exact Lib.cells_of_tab Tryz.underlying236 Tryz.underlying3 (by kernel_rfl) (by kernel_rfl) h1
 have hcell : ∀ i, i < 32 -> W.cell? ⟨2, i, none⟩ = some (.int .i64 (Seal.Plain.qt.getD i 0)) := by
  intro i hi
  have h1 := hrow (i / 4) (by omega)
  have h2 := congrArg (·[i % 4]?) h1
  simp only [List.getElem?_take, List.getElem?_drop, List.getElem?_map] at h2
  rw [if_pos (by omega), show i / 4 * 4 + i % 4 = i by omega] at h2
  obtain ⟨q1, q2⟩ := quads_at i hi
  have q3 : (quads.getD (i / 4) [])[i % 4]? = some (Seal.Plain.qt.getD i 0) := by
   rw [<- q1]
   have : i % 4 < (quads.getD (i / 4) []).length := by omega
   generalize quads.getD (i / 4) [] = Q at this ⊢
   simp [List.getD, this]
  rw [q3] at h2
  have h3 := World.var?_cell gQuart hv2 i
  rw [h3]
  simpa using h2
 refine ⟨⟨?_, fun i hi => e0.cell gFirst i hi, fun i hi => e1.cell gRounds i hi⟩, cell_block (hcell 0 (by omega)), hcell⟩
 have := cell_block (e1.cell gRounds 0 (by decide))
 omega
def putTab (cs : Array Value) : Obj -> Obj
 | .cells _ t frozen => .cells cs t frozen
 | o => o
noncomputable def laidWorld (os : Os) : World :=
 { World.holding Tryz.prog os ⟨#[], #[], []⟩ with heap := (((World.holding Tryz.prog os ⟨#[], #[], []⟩).heap.modify 0 (putTab (u32s Dig.Plain.hh))).modify 1 (putTab (u32s Dig.Plain.kk))).modify 2 (putTab (Seal.Plain.qt.map (Value.int .i64)).toArray) }
def numOf : Option Value -> Int
 | some (.int _ z) => z
 | _ => 0
theorem cells5 : Tryz.prog.cellsOf 5 = 1 := by kernel_rfl
theorem cellsS : Tryz.prog.cellsOf 23 = 32 := by kernel_rfl
theorem open_sumL {H : Type} {enc : TypeId × Value -> H} {W : World} {base : Nat} {sp : Nat -> Bool} {held : Bool} {fuel : Nat} {cs : List Value} {x : DataW H × List MemPlace} (h : DataW.trod enc Tryz.prog W base sp held fuel 23 cs = some x) : ∃ D : List Int, cs = D.map (Value.int .u8) /\ D.length = 32 /\ Byt D := by
 obtain ⟨xs, m, _, _, hl, hn, hel⟩ := DataW.trod_array Tryz.underlying23 h
 rw [cellsS] at hl
 have key : ∀ i, i < 32 -> ∃ z, cs[i]? = some (.int .u8 z) /\ 0 <= z /\ z <= 255 := by
  intro i hi
  have := hel i hi
  rw [cells5, Nat.mul_one] at this
  have hx : ∃ y, xs[i]? = some y := ⟨xs[i]'(by omega), by simp [hn, hi]⟩
  obtain ⟨y, hy⟩ := hx
  rw [hy] at this
  obtain ⟨z, hz, _, hw⟩ := DataW.trod_int Tryz.underlying5 this
  have hb := bounds_u8 hw
  refine ⟨z, ?_, by omega, by omega⟩
  have h1 := congrArg (·[0]?) hz
  simpa [List.getElem?_take, List.getElem?_drop] using h1
 refine ⟨(List.range 32).map fun i => numOf cs[i]?, ?_, by simp, ?_⟩
 ·apply List.ext_getElem
  ·simp [hl]
  ·intro i h1 h2
   obtain ⟨z, hz, _⟩ := key i (by omega)
   have : cs[i] = .int .u8 z := by
    rw [List.getElem?_eq_getElem h1] at hz
    exact Option.some.inj hz
   simp [this, hz, numOf]
 ·intro i
  by_cases hi : i < 32
  ·obtain ⟨z, hz, h0, h1⟩ := key i hi
   simp [hi, hz, h0, h1, numOf]
  ·simp [hi]
theorem open_sum {H : Type} {enc : TypeId × Value -> H} {W : World} {base : Nat} {v : Value} {d : DataW H} {p : List MemPlace} (hval : Value.okWide Tryz.prog W .any base 23 v) (h : DataW.Trod enc Tryz.prog W 0 (fun _ => true) true 23 v d p) :
  ∃ D : List Int, v = .agg (u8s D) /\ D.length = 32 /\ Byt D := by
 simp only [Value.okWide, Tryz.underlying23] at hval
 obtain ⟨cs, rfl, h2, _⟩ := hval
 obtain ⟨fuel, hf⟩ := h
 have hcs : (Value.agg cs).cells = cs := rfl
 rw [hcs] at hf
 obtain ⟨D, hD, l, b⟩ := open_sumL hf
 exact ⟨D, by rw [u8s, <- hD], l, b⟩
end Go.Proofs.YtjdjbjedfbmgpaaGreatDoor
namespace Go.Proofs.YtjdjbjedfbmgpaaGreatDoor
open Go.RowKit Plain
def RwK (r' : Disk.Rd) (x : Int) (e : Ending) (w2 w3 : World) : Prop := ∃ v', e = .returned (.tuple #[v', .int .i64 x]) /\ Disk.Rv w3 v' r' /\ Below w2.heap.size w2 w3
theorem rwrite_j {k : Nat} {d : Disk.Dk} {r : Disk.Rd} (hJ : Disk.J k d r) (hk : k < 900000) (p : Nat) (hp : p < d.n) (B : List Int) (hl : B.length = 192) :
  ∃ r', Disk.J (k + 1) (dwr d p B).1 r' /\ ∀ w2 v, Disk.Rv w2 v r -> Calls Tryz.prog 23 #[v, .int .i64 (p : Int), .string (strOfNums B)] w2 fun e w3 => RwK r' (dwr d p B).2 e w2 w3 := by
 have l1 := hJ.l1
 have l2 := hJ.l2
 have e1 := hJ.way
 have e2 := hJ.ops
 have hrf : Disk.rfit r.n (p : Int) B.length = 0 := by
  rw [hJ.n]
  unfold Disk.rfit
  rw [if_pos (by simp; omega), if_pos hl]
 cases hd : d.down with
 | true =>
  have e : dwr d p B = (d, 13) := by unfold dwr; rw [if_pos hd]
  rw [e]
  refine ⟨r, hJ.on, fun w2 v hv => ?_⟩
  obtain ⟨vd, vw, vo, rfl, h1, h2, h3⟩ := hv
  rw [hJ.down, hd]
  refine (Disk.rwrite_down w2 r.n vd vw vo r.left (Disk.oneR h1) (Disk.oneR h2) (Disk.oneO h3) (p : Int) (strOfNums B)).mono ?_
  rintro e w3 ⟨rfl, hb⟩
  exact ⟨_, rfl, ⟨vd, vw, vo, by rw [hJ.down, hd], h1.below hb, h2.below hb, h3.below hb⟩, hb⟩
 | false =>
  have hd' : ¬ d.down = true := by rw [hd]; decide
  by_cases hstop : d.st = true /\ d.left = 0
  ·have hrl : r.left = 0 := by rw [hJ.st hstop.1]; exact hstop.2
   have e : dwr d p B = ({ d with down := true }, 13) := by unfold dwr; rw [if_neg hd', if_pos hstop]
   rw [e]
   refine ⟨{ r with down := true }, ⟨hJ.n, hJ.pl, hJ.way, rfl, hJ.st, hJ.no, hJ.lo, hJ.ops, by show r.done.length + r.way.length <= k + 1; omega, by show r.ops.length <= k + 1; omega⟩, fun w2 v hv => ?_⟩
   obtain ⟨vd, vw, vo, rfl, h1, h2, h3⟩ := hv
   rw [hJ.down, hd, hrl]
   refine (Disk.rwrite_stop w2 r.n vd vw vo (Disk.oneR h1) (Disk.oneR h2) (Disk.oneO h3) (p : Int) (strOfNums B) B.length (Disk.size_str B) hrf).mono ?_
   rintro e w3 ⟨rfl, hb⟩
   exact ⟨_, rfl, ⟨vd, vw, vo, by first | rfl | rw [hrl], h1.below hb, h2.below hb, h3.below hb⟩, hb⟩
  ·have e : dwr d p B = (Disk.wrOk d p B, 0) := by unfold dwr; rw [if_neg hd', if_neg hstop]
   rw [e]
   by_cases hst : d.st = true
   ·have hrl := hJ.st hst
    have hlo := hJ.lo
    have hpos : 0 < r.left := by rw [hrl]; have : d.left ≠ 0 := fun h => hstop ⟨hst, h⟩; omega
    refine ⟨{ r with left := r.left - 1, way := r.way ++ [(p, B)], ops := r.ops ++ [(2, (p : Int))] }, ⟨hJ.n, hJ.pl, by show r.way ++ [(p, B)] = d.uw ++ [(p, B)]; rw [e1], hJ.down, fun _ => by show r.left - 1 = if d.st then d.left - 1 else d.left; rw [if_pos hst, hrl], fun h => absurd h (by rw [show (Disk.wrOk d p B).st = d.st from rfl, hst]; simp), by show 0 <= (if d.st then d.left - 1 else d.left) /\ (if d.st then d.left - 1 else d.left) <= _; rw [if_pos hst]; omega, by show r.ops ++ _ = d.ops ++ _; rw [e2], by show r.done.length + (r.way ++ [(p, B)]).length <= k + 1; simp; omega, by show (r.ops ++ [(2, (p : Int))]).length <= k + 1; simp; omega⟩, fun w2 v hv => ?_⟩
    obtain ⟨vd, vw, vo, rfl, h1, h2, h3⟩ := hv
    rw [hJ.down, hd]
    refine (Disk.rwrite_left w2 r.n vd vw vo r.left r.way r.ops (Disk.oneR h1) h2 h3 (by omega) (by omega) p B hrf hpos (by omega)).mono ?_
    rintro e w3 ⟨vw', vo', rfl, hb, h4, h5⟩
    exact ⟨_, rfl, ⟨vd, vw', vo', by first | rfl | (rw [hJ.down, hd]), h1.below hb, h4, h5⟩, hb⟩
   ·have hst' : d.st = false := by simpa using hst
    have hrl := hJ.no hst'
    refine ⟨{ r with way := r.way ++ [(p, B)], ops := r.ops ++ [(2, (p : Int))] }, ⟨hJ.n, hJ.pl, by show r.way ++ [(p, B)] = d.uw ++ [(p, B)]; rw [e1], hJ.down, fun h => by rw [show (Disk.wrOk d p B).st = d.st from rfl] at h; exact absurd h hst, fun _ => hrl, by show 0 <= (if d.st then d.left - 1 else d.left) /\ (if d.st then d.left - 1 else d.left) <= _; rw [if_neg hst]; exact hJ.lo, by show r.ops ++ _ = d.ops ++ _; rw [e2], by show r.done.length + (r.way ++ [(p, B)]).length <= k + 1; simp; omega, by show (r.ops ++ [(2, (p : Int))]).length <= k + 1; simp; omega⟩, fun w2 v hv => ?_⟩
    obtain ⟨vd, vw, vo, rfl, h1, h2, h3⟩ := hv
    rw [hJ.down, hd]
    refine (Disk.rwrite_on w2 r.n vd vw vo r.left r.way r.ops (Disk.oneR h1) h2 h3 (by omega) (by omega) p B hrf (by omega)).mono ?_
    rintro e w3 ⟨vw', vo', rfl, hb, h4, h5⟩
    exact ⟨_, rfl, ⟨vd, vw', vo', by first | rfl | (rw [hJ.down, hd]), h1.below hb, h4, h5⟩, hb⟩
attribute [local go_sem] Oper.semAt_some
theorem zeroS13 : (Tryz.prog.info? 42).map (·.zero) = some (some (.agg (sa zs))) := by kernel_rfl
theorem infoS13 : (Tryz.prog.info? 42).map (·.size) = some 34 := by kernel_rfl
def sq (a c : Int) (t : List Int) : List Value := .int .u64 a :: .int .u64 c :: t.map (Value.int .u8)
theorem len_sq (a c : Int) (t : List Int) (h : t.length = 32) : (sq a c t).length = 34 := by simp [sq, h]
theorem sq_t (a c : Int) (t u : List Int) (h : t.length = 32) (hu : u.length = 32) : splice (sq a c t) 2 (u.map (Value.int .u8)) = sq a c u := by simp [splice, sq, h, hu]
theorem builtS (parts : List (Nat × Value)) : Tryz.prog.built 42 parts = Instr.fill (fun i => #[(0, 1), (1, 1), (2, 32)][i]?) (sq 0 0 z32).toArray parts := by kernel_rfl
theorem built_S0 : Tryz.prog.built 42 [] = some (sa zs) := by kernel_rfl
theorem built_S13 (s : Jst) (hs : OkS s) : Tryz.prog.built 42 [(0, .int .u64 (s.start : Int)), (1, .int .u64 (s.count : Int)), (2, .agg (u8s s.tag))] = some (sa s) := by
 have hz : z32.length = 32 := len_z32
 have hu : (u8s s.tag).toList = s.tag.map (Value.int .u8) := by simp [u8s]
 rw [builtS, fill_val _ _ 0 0 _ rfl _ rfl (by rw [List.size_toArray, len_sq _ _ _ hz]; omega), List.setIfInBounds_toArray, show (sq 0 0 z32).set 0 (.int .u64 (s.start : Int)) = sq (s.start : Int) 0 z32 from rfl]
 rw [fill_val _ _ 1 1 _ rfl _ rfl (by rw [List.size_toArray, len_sq _ _ _ hz]; omega), List.setIfInBounds_toArray, show (sq (s.start : Int) 0 z32).set 1 (.int .u64 (s.count : Int)) = sq (s.start : Int) (s.count : Int) z32 from rfl]
 rw [fill_step _ _ 2 2 32 _ _ rfl (by rw [size_u8s, hs.lt]) (by rw [List.size_toArray, len_sq _ _ _ hz]; omega), hu, sq_t _ _ _ _ hz hs.lt, Instr.fill]
 rfl
theorem stateOf_any (s : Jst) (hs : OkS s) (w : World) : Calls Tryz.prog 26 #[.agg (sa s)] w fun e w' => e = .returned (.agg (sa s)) /\ Below w.heap.size w w' := by
 obtain ⟨S, hS⟩ : ∃ S, w.heap.size = S := ⟨_, rfl⟩
 obtain ⟨w1, hw1⟩ : ∃ w1, (w.alloc (.cells (sa s) 27)).alloc (.cells (sa zs) 42) = w1 := ⟨_, rfl⟩
 have hs2 : (w.alloc (.cells (sa s) 27)).heap.size = S + 1 := by simp [hS]
 have hb1 : Below w.heap.size w w1 := by rw [<- hw1]; exact ((Below.refl _ _).alloc (Nat.le_refl _) _).alloc (by simp) _
 have k1 : w1.heap[S]? = some (.cells (sa s) 27 (0, 0)) := by rw [<- hw1]; exact al_old (al_at hS)
 have k2 : w1.heap[S + 1]? = some (.cells (sa zs) 42 (0, 0)) := by rw [<- hw1]; exact al_at hs2
 have HR : Box (w1.rangeAt S 2 (s.tag.map (Value.int .u8)) /\ w1.cell? ⟨S, 0, none⟩ = some (.int .u64 (s.start : Int)) /\ w1.cell? ⟨S, 1, none⟩ = some (.int .u64 (s.count : Int))) := ⟨fun j v hv => by
  rw [cell_of_row _ _ _ _ _ _ k1, Nat.add_comm]
  simpa [sa, scs] using hv, by rw [cell_of_row _ _ _ _ _ _ k1]; rfl, by rw [cell_of_row _ _ _ _ _ _ k1]; rfl⟩
 have HX : Box (w1.heap[S + 1]? = some (.cells (sa zs) 42 (0, 0))) := ⟨k2⟩
 have HB : Box (Below w.heap.size w w1 /\ w.heap.size = S) := ⟨hb1, hS⟩
 have HT : Box ((Tryz.prog.info? 23).map (·.size) = some (s.tag.map (Value.int .u8)).length) := ⟨by rw [List.length_map, hs.lt]; exact infoSum⟩
 have HI : Box ((Tryz.prog.info? 42).map (·.size) = some (sa s).size) := ⟨by rw [size_sa hs]; exact infoS13⟩
 have HBU : Box (Tryz.prog.built 42 [(0, .int .u64 (s.start : Int)), (1, .int .u64 (s.count : Int)), (2, .agg (s.tag.map (Value.int .u8)).toArray)] = some (sa s)) := ⟨built_S13 s hs⟩
 have HZ : Box ((sa s).size = (sa zs).size) := ⟨by rw [size_sa hs, size_sa okS_zs]⟩
 have c0 := HR.out.2.1
 have c1 := HR.out.2.2
 clear hs k1 k2 hb1
 go_enter Tryz.func26, Tryz.ntmps26
 go_upto_region 1 with (refine atAlloc _ ?_; refine wpList_run rfl _ _ (exec_alloc 42 rfl _ zeroS13) ?_)
 (try rw [hs2])
 (try simp only [hw1])
 clear hw1 hs2 hS
 go_wp2_with (first
  | (refine atLoad 23 ?_; refine wpList_ldMid rfl 23 _ _ rfl Tryz.underlying23 rfl S 2 rfl (s.tag.map (Value.int .u8)) HT.out HR.out.1 ?_)
  | (refine atBuild _ ?_; refine wpList_run rfl _ _ (exec_built 42 [(0, .tmp 4), (1, .tmp 6), (2, .tmp 8)] rfl _ rfl _ HBU.out) ?_)
  | (refine atStore _ ?_; refine wpList_store_row rfl 42 _ _ rfl (S + 1) (sa s) rfl rfl 42 (sa zs) HX.out HI.out HZ.out.symm (all_sa s) ?_))
 refine bodyPost_ret (results_cell_row (p := 2) (ty := 42) rfl _ _ (S + 1) 42 (sa s) (0, 0) _ rfl (setRow_heap _ _ _ _ _ _ HX.out) Tryz.underlying42 rfl HI.out) rfl ?_
 exact ⟨rfl, below_but HB.out.1 (but_setRow _ _ _) (by have := HB.out.2; omega) HB.out.1.size⟩
end Go.Proofs.YtjdjbjedfbmgpaaGreatDoor
namespace Go.Proofs.YtjdjbjedfbmgpaaGreatDoor
open Go.RowKit Plain
attribute [local go_sem] Oper.semAt_some
def rq (K : List Int) (f n : Int) (s : Jst) (x y : Int) : List Value := K.map (Value.int .u8) ++ (.int .i64 f :: .int .u64 n :: (scs s ++ [.int .u64 x, .int .u64 y]))
theorem len_rq (K : List Int) (f n : Int) (s : Jst) (x y : Int) (hK : K.length = 32) (hs : OkS s) : (rq K f n s x y).length = 70 := by simp [rq, hK, len_scs hs]
theorem rq_key (K L : List Int) (f n : Int) (s : Jst) (x y : Int) (hK : K.length = 32) (hL : L.length = 32) : splice (rq K f n s x y) 0 (L.map (Value.int .u8)) = rq L f n s x y := by
 simp [splice, rq, hL, hK]
theorem rq_f (K : List Int) (f n m : Int) (s : Jst) (x y : Int) (hK : K.length = 32) : (rq K f n s x y).set 32 (.int .i64 m) = rq K m n s x y := by
 simp [rq, hK]
theorem rq_n (K : List Int) (f n m : Int) (s : Jst) (x y : Int) (hK : K.length = 32) : (rq K f n s x y).set 33 (.int .u64 m) = rq K f m s x y := by
 simp [rq, hK]
theorem rq_s (K : List Int) (f n : Int) (s t : Jst) (x y : Int) (hK : K.length = 32) (hs : OkS s) (ht : OkS t) : splice (rq K f n s x y) 34 (scs t) = rq K f n t x y := by
 simp [splice, rq, List.take_append, List.drop_append, hK, len_scs hs, len_scs ht]
 rw [List.take_of_length_le (by simp [hK]), List.drop_of_length_le (by simp [hK])]
 rfl
theorem rq_x (K : List Int) (f n : Int) (s : Jst) (x y z : Int) (hK : K.length = 32) (hs : OkS s) : (rq K f n s x y).set 68 (.int .u64 z) = rq K f n s z y := by
 simp [rq, hK, len_scs hs]
theorem rq_y (K : List Int) (f n : Int) (s : Jst) (x y z : Int) (hK : K.length = 32) (hs : OkS s) : (rq K f n s x y).set 69 (.int .u64 z) = rq K f n s x z := by
 simp [rq, hK, len_scs hs]
theorem all_rq (K : List Int) (f n : Int) (s : Jst) (x y : Int) : (rq K f n s x y).toArray.all (·.oneCell') = true := by
 rw [List.all_toArray, List.all_eq_true]
 intro u hu
 simp only [rq, List.mem_append, List.mem_cons, List.mem_map, List.not_mem_nil, or_false] at hu
 rcases hu with ⟨z, _, rfl⟩ | rfl | rfl | h | rfl | rfl
 ·rfl
 ·rfl
 ·rfl
 ·exact one_scs s u h
 ·rfl
 ·rfl
theorem zeroRj : (Tryz.prog.info? 44).map (·.zero) = some (some (.agg (rq z32 0 0 zs 0 0).toArray)) := by kernel_rfl
theorem infoRj : (Tryz.prog.info? 44).map (·.size) = some 70 := by kernel_rfl
theorem builtRj (parts : List (Nat × Value)) : Tryz.prog.built 44 parts = Instr.fill (fun i => #[(0, 32), (32, 1), (33, 1), (34, 34), (68, 1), (69, 1)][i]?) (rq z32 0 0 zs 0 0).toArray parts := by kernel_rfl
theorem built_Rj (K : List Int) (f n : Int) (s : Jst) (x y : Int) (hk : K.length = 32) (hs : OkS s) : Tryz.prog.built 44 [(0, .agg (u8s K)), (1, .int .i64 f), (2, .int .u64 n), (3, .agg (sa s)), (4, .int .u64 x), (5, .int .u64 y)] = some (rq K f n s x y).toArray := by
 have hz : z32.length = 32 := len_z32
 have hu : (u8s K).toList = K.map (Value.int .u8) := by simp [u8s]
 rw [builtRj, fill_step _ _ 0 0 32 _ _ rfl (by rw [size_u8s, hk]) (by rw [List.size_toArray, len_rq _ _ _ _ _ _ hz okS_zs]; omega), hu, rq_key _ _ _ _ _ _ _ hz hk]
 rw [fill_val _ _ 1 32 _ rfl _ rfl (by rw [List.size_toArray, len_rq _ _ _ _ _ _ hk okS_zs]; omega), List.setIfInBounds_toArray, rq_f _ _ _ _ _ _ _ hk]
 rw [fill_val _ _ 2 33 _ rfl _ rfl (by rw [List.size_toArray, len_rq _ _ _ _ _ _ hk okS_zs]; omega), List.setIfInBounds_toArray, rq_n _ _ _ _ _ _ _ hk]
 rw [fill_step _ _ 3 34 34 _ _ rfl (size_sa hs) (by rw [List.size_toArray, len_rq _ _ _ _ _ _ hk okS_zs]; omega), toList_sa, rq_s _ _ _ _ _ _ _ hk okS_zs hs]
 rw [fill_val _ _ 4 68 _ rfl _ rfl (by rw [List.size_toArray, len_rq _ _ _ _ _ _ hk hs]; omega), List.setIfInBounds_toArray, rq_x _ _ _ _ _ _ _ hk hs]
 rw [fill_val _ _ 5 69 _ rfl _ rfl (by rw [List.size_toArray, len_rq _ _ _ _ _ _ hk hs]; omega), List.setIfInBounds_toArray, rq_y _ _ _ _ _ _ _ hk hs, Instr.fill]
set_option maxHeartbeats 2000000 in
theorem rnew13_ok (P f n : Nat) (h1 : 1 <= n) (hfit : f + n <= P) (hP : P <= 4096) (K : List Int) (hK : K.length = 32) (s : Jst) (hs : OkS s) (hst : s.start < n) (hct : s.count <= n) (nx lim : Int) (hn : 1 <= nx /\ nx <= 18446744073709551615) (hl : 0 <= lim /\ lim <= 9223372036854775807) (w : World) :
  Calls Tryz.prog 9 #[.int .i64 (P : Int), .agg (u8s K), .int .i64 (f : Int), .int .i64 (n : Int), .agg (sa s), .int .u64 nx, .int .u64 lim] w fun e w' => e = .returned (.tuple #[.agg (rq K (f : Int) (n : Int) s nx lim).toArray, .int .i64 0]) /\ Below w.heap.size w w' := by
 obtain ⟨S, hS⟩ : ∃ S, w.heap.size = S := ⟨_, rfl⟩
 obtain ⟨AK, hAK⟩ : ∃ A, u8s K = A := ⟨_, rfl⟩
 obtain ⟨AR, hAR⟩ : ∃ A, (rq K (f : Int) (n : Int) s nx lim).toArray = A := ⟨_, rfl⟩
 obtain ⟨AZ, hAZ⟩ : ∃ A, (rq z32 0 0 zs 0 0).toArray = A := ⟨_, rfl⟩
 obtain ⟨w1, hw1⟩ : ∃ w1, ((w.alloc (.cells AK 23)).alloc (.cells (sa s) 42)).alloc (.cells AZ 44) = w1 := ⟨_, rfl⟩
 have hs1 : (w.alloc (.cells AK 23)).heap.size = S + 1 := by simp [hS]
 have hs2 : ((w.alloc (.cells AK 23)).alloc (.cells (sa s) 42)).heap.size = S + 2 := by simp [hS]
 have hb1 : Below w.heap.size w w1 := by rw [<- hw1]; exact (((Below.refl _ _).alloc (Nat.le_refl _) _).alloc (by simp) _).alloc (by simp; omega) _
 have k1 : w1.heap[S]? = some (.cells AK 23 (0, 0)) := by rw [<- hw1]; exact al_old (al_old (al_at hS))
 have k2 : w1.heap[S + 1]? = some (.cells (sa s) 42 (0, 0)) := by rw [<- hw1]; exact al_old (al_at hs1)
 have k3 : w1.heap[S + 2]? = some (.cells AZ 44 (0, 0)) := by rw [<- hw1]; exact al_at hs2
 have HZ : Box ((Tryz.prog.info? 44).map (·.zero) = some (some (.agg AZ))) := ⟨hAZ ▸ zeroRj⟩
 have HRa : Box (w1.rangeAt S 0 (K.map (Value.int .u8))) := ⟨fun i v hv => by
  rw [cell_of_row _ _ _ _ _ _ k1, Nat.zero_add, <- hAK]
  simpa [u8s] using hv⟩
 have HRb : Box (w1.rangeAt (S + 1) 0 (scs s)) := ⟨range_sa k2⟩
 have HX : Box (w1.heap[S + 2]? = some (.cells AZ 44 (0, 0))) := ⟨k3⟩
 have c0 : w1.cell? ⟨S + 1, 0, none⟩ = some (.int .u64 (s.start : Int)) := by rw [cell_of_row _ _ _ _ _ _ k2]; rfl
 have c1 : w1.cell? ⟨S + 1, 1, none⟩ = some (.int .u64 (s.count : Int)) := by rw [cell_of_row _ _ _ _ _ _ k2]; rfl
 have HIL : Box ((Tryz.prog.info? 23).map (·.size) = some (K.map (Value.int .u8)).length /\ (Tryz.prog.info? 42).map (·.size) = some (scs s).length /\ (Tryz.prog.info? 44).map (·.size) = some AR.size /\ AZ.size = AR.size /\ AR.all (·.oneCell') = true) := ⟨by rw [List.length_map, hK]; exact infoSum, by rw [len_scs hs]; exact infoS13, by rw [<- hAR, List.size_toArray, len_rq _ _ _ _ _ _ hK hs]; exact infoRj, by rw [<- hAR, <- hAZ, List.size_toArray, List.size_toArray, len_rq _ _ _ _ _ _ hK hs, len_rq _ _ _ _ _ _ len_z32 okS_zs], by rw [<- hAR]; exact all_rq _ _ _ _ _ _⟩
 have HBJ : Box (Tryz.prog.built 44 [(0, .agg AK), (1, .int .i64 (f : Int)), (2, .int .u64 (n : Int)), (3, .agg (sa s)), (4, .int .u64 nx), (5, .int .u64 lim)] = some AR) := ⟨by rw [<- hAK, <- hAR]; exact built_Rj K _ _ s nx lim hK hs⟩
 have HAK : Box ((K.map (Value.int .u8)).toArray = AK /\ (scs s).toArray = sa s) := ⟨by rw [<- hAK]; rfl, rfl⟩
 have HB : Box (Below w.heap.size w w1 /\ w.heap.size = S) := ⟨hb1, hS⟩
 obtain ⟨r, hr⟩ : ∃ r, P - f = r := ⟨_, rfl⟩
 have hwr : IntKind.i64.wrap ((P : Int) - (f : Int)) = (r : Int) := by rw [IntKind.wrap_i64]; omega
 have hwn : IntKind.u64.wrap (n : Int) = (n : Int) := by rw [IntKind.wrap_u64]; omega
 have g1 : ¬ (f : Int) < 0 := by omega
 have g2 : ¬ (n : Int) < 1 := by omega
 have g3 : decide (P < f) = false := by simp; omega
 have g4 : decide (r < n) = false := by simp; omega
 have g5 : decide (n <= s.start) = false := by simp; omega
 have g6 : decide (n < s.count) = false := by simp; omega
 have g7 : (nx == 0) = false := by simp; omega
 have g8 : ¬ (9223372036854775807 : Int) < lim := by omega
 rw [hAK, hAR]
 clear hK h1 hfit hP hs hst hct hn hl k1 k2 k3 hb1 hAK hAR hr hAZ
 go_enter Tryz.func9, Tryz.ntmps9
 go_upto_region 1 with (refine atAlloc _ ?_; refine wpList_run rfl _ _ (exec_alloc 44 rfl _ HZ.out) ?_)
 (try rw [hs2])
 (try rw [hs1])
 (try simp only [hS, hw1])
 clear hs1 hs2 hw1 hS
 go_wp2_with (first
  | (refine atLoad 23 ?_; refine wpList_ldMid rfl 23 _ _ rfl Tryz.underlying23 rfl S 0 rfl (K.map (Value.int .u8)) HIL.out.1 HRa.out ?_; rw [HAK.out.1])
  | (refine atLoad 42 ?_; refine wpList_ldMid rfl 42 _ _ rfl Tryz.underlying42 rfl (S + 1) 0 rfl (scs s) HIL.out.2.1 HRb.out ?_; rw [HAK.out.2])
  | (refine atBuild 44 ?_; refine wpList_run rfl _ _ (exec_built 44 [(0, .tmp 57), (1, .tmp 58), (2, .tmp 60), (3, .tmp 61), (4, .tmp 62), (5, .tmp 63)] rfl [(0, .agg AK), (1, .int .i64 (f : Int)), (2, .int .u64 (n : Int)), (3, .agg (sa s)), (4, .int .u64 nx), (5, .int .u64 lim)] rfl _ HBJ.out) ?_)
  | (refine atStore _ ?_; refine wpList_store_row rfl 44 _ _ rfl (S + 2) AR rfl rfl 44 AZ HX.out HIL.out.2.2.1 HIL.out.2.2.2.1 HIL.out.2.2.2.2 ?_))
 refine bodyPost_ret (results_row2 (t := 14) (u := 15) rfl _ Tryz.underlying44 rfl _ _ (S + 2) AR HIL.out.2.2.1 rfl (setRow_heap _ _ _ _ _ _ HX.out)) rfl ?_
 exact ⟨rfl, below_but HB.out.1 (but_setRow _ _ _) (by have := HB.out.2; omega) HB.out.1.size⟩
end Go.Proofs.YtjdjbjedfbmgpaaGreatDoor
namespace Go.Proofs.YtjdjbjedfbmgpaaGreatDoor
open Go.RowKit Plain
theorem results_rows3 {fn : Func} {t1 t2 t3 : TypeId} {t u v x : Tmp} (h : fn.results = #[.cell t t1, .cell u t2, .cell v t3, .tmp x]) (d1 d2 d3 : TypeDesc) (hu1 : Tryz.prog.underlying t1 = some d1) (hd1 : d1.isRow = true) (hu2 : Tryz.prog.underlying t2 = some d2) (hd2 : d2.isRow = true) (hu3 : Tryz.prog.underlying t3 = some d3) (hd3 : d3.isRow = true) (tmps : Array Value) (w : World) (b1 b2 b3 : Nat) (c1 c2 c3 : List Value)
  (i1 : (Tryz.prog.info? t1).map (·.size) = some c1.length) (i2 : (Tryz.prog.info? t2).map (·.size) = some c2.length) (i3 : (Tryz.prog.info? t3).map (·.size) = some c3.length)
  (ht : tmps.getD t undef = .pointer (some ⟨b1, 0, none⟩)) (hu : tmps.getD u undef = .pointer (some ⟨b2, 0, none⟩)) (hv : tmps.getD v undef = .pointer (some ⟨b3, 0, none⟩)) (r1 : w.rangeAt b1 0 c1) (r2 : w.rangeAt b2 0 c2) (r3 : w.rangeAt b3 0 c3) :
  (results fn tmps).run Tryz.prog w = .ok (.tuple #[.agg c1.toArray, .agg c2.toArray, .agg c3.toArray, tmps.getD x undef]) w := by
 have l1 := run_loadVar_mid (P := Tryz.prog) w b1 0 t1 c1 d1 r1 hu1 hd1 i1
 have l2 := run_loadVar_mid (P := Tryz.prog) w b2 0 t2 c2 d2 r2 hu2 hd2 i2
 have l3 := run_loadVar_mid (P := Tryz.prog) w b3 0 t3 c3 d3 r3 hu3 hd3 i3
 simp only [Array.getD_eq_getD_getElem?] at ht hu hv
 simp [results, h, ht, hu, hv, l1, l2, l3, asAddr]
def Up (d : Disk.Dk) : Prop := d.down = false /\ d.st = false
theorem dwr_up {d : Disk.Dk} (h : Up d) (p : Nat) (S : List Int) : dwr d p S = (Disk.wrOk d p S, 0) := by simp [dwr, h.1, h.2]
theorem up_wr {d : Disk.Dk} (h : Up d) (p : Nat) (S : List Int) : Up (Disk.wrOk d p S) := h
def pls (j : Jt) (k n : Nat) : List Nat := (List.range n).map fun x => plc j (k + x)
theorem pls_succ (j : Jt) (k n : Nat) : pls j k (n + 1) = plc j k :: pls j (k + 1) n := by
 unfold pls
 rw [List.range_succ_eq_map, List.map_cons, List.map_map]
 congr 1
 apply List.map_congr_left
 intro x _
 simp only [Function.comp]
 congr 1
 omega
structure ApU (j : Jt) (d : Disk.Dk) (nx : Int) (s : Jst) (n : Nat) (y : Ast) : Prop where
 up : Up y.1
 nn : y.1.n = d.n
 pl : y.1.pl = d.pl
 ops : y.1.ops = d.ops ++ (pls j (s.start + s.count) n).map fun (p : Nat) => ((2 : Int), (p : Int))
 uw : ∃ W : List (Nat × List Int), y.1.uw = d.uw ++ W /\ W.map Prod.fst = pls j (s.start + s.count) n
 left : y.1.left = d.left
 nx : y.2.1 = nx + (n : Int)
 er : y.2.2.1 = 0
 st : y.2.2.2.start = s.start
 ct : y.2.2.2.count = s.count + n
 tg : y.2.2.2.tag.length = 32 /\ Byt y.2.2.2.tag
theorem apL_up (j : Jt) : ∀ (L : List ((Int × List Int) × Bool)) (d : Disk.Dk) (nx : Int) (s : Jst), Up d -> s.tag.length = 32 /\ Byt s.tag -> ApU j d nx s L.length (apL j (d, nx, 0, s) L)
 | [], d, nx, s, h, ht => ⟨h, rfl, rfl, by simp [pls, apL], ⟨[], by simp [apL], rfl⟩, rfl, by show nx = nx + ((0 : Nat) : Int); omega, rfl, rfl, rfl, ht⟩
 | r :: L, d, nx, s, h, ht => by
  have e : apS j (d, nx, 0, s) r = (Disk.wrOk d (plc j (s.start + s.count)) (apT j (d, nx, 0, s) r), nx + 1, 0, nxS j s (plc j (s.start + s.count)) (apT j (d, nx, 0, s) r)) := by
   unfold apS
   rw [if_neg (by simp), dwr_up h]
   rfl
  have e2 : apL j (d, nx, 0, s) (r :: L) = apL j (Disk.wrOk d (plc j (s.start + s.count)) (apT j (d, nx, 0, s) r), nx + 1, 0, nxS j s (plc j (s.start + s.count)) (apT j (d, nx, 0, s) r)) L := by rw [<- e]; rfl
  rw [e2]
  have ih := apL_up j L (Disk.wrOk d (plc j (s.start + s.count)) (apT j (d, nx, 0, s) r)) (nx + 1) (nxS j s (plc j (s.start + s.count)) (apT j (d, nx, 0, s) r)) (up_wr h _ _) ⟨length_dsha _, byt_dsha _⟩
  generalize apL j (Disk.wrOk d (plc j (s.start + s.count)) (apT j (d, nx, 0, s) r), nx + 1, 0, nxS j s (plc j (s.start + s.count)) (apT j (d, nx, 0, s) r)) L = y at ih ⊢
  have hst : (nxS j s (plc j (s.start + s.count)) (apT j (d, nx, 0, s) r)).start + (nxS j s (plc j (s.start + s.count)) (apT j (d, nx, 0, s) r)).count = s.start + s.count + 1 := rfl
  have ho := ih.ops
  obtain ⟨W, hW1, hW2⟩ := ih.uw
  rw [hst] at ho hW2
  refine ⟨ih.up, ih.nn, ih.pl, ?_, ⟨(plc j (s.start + s.count), apT j (d, nx, 0, s) r) :: W, ?_, ?_⟩, ?_, ?_, ih.er, ih.st, ?_, ih.tg⟩
  ·rw [ho, List.length_cons, pls_succ]
   simp [Disk.wrOk]
  ·rw [hW1]
   simp [Disk.wrOk]
  ·rw [List.length_cons, pls_succ, List.map_cons, hW2]
  ·rw [ih.left]
   simp [Disk.wrOk, h.2]
  ·rw [ih.nx, List.length_cons]
   omega
  ·rw [ih.ct, List.length_cons]
   show s.count + 1 + L.length = _
   omega
theorem appM_up (j : Jt) (ok : j.Ok) (d : Disk.Dk) (L : List (Int × List Int)) (hd : Up d) (hb : bad L = false) (h1 : j.st.count + L.length <= j.size) (h2 : j.nx + (L.length : Int) <= j.lim) : ApU j d j.nx j.st L.length (appM j d L) := by
 have ht : tke j L.length = 0 := by
  unfold tke
  rw [if_neg (by omega), if_neg (by omega)]
 have h := apL_up j (ofP L) d j.nx j.st hd ⟨ok.st.lt, ok.st.bt⟩
 rw [len_ofP] at h
 have e : appM j d L = apL j (d, j.nx, 0, j.st) (ofP L) := by
  unfold appM
  rw [if_neg (by rw [hb]; simp), if_neg (fun h => h ht), if_neg (fun hh => hh h.er)]
 rw [e]
 exact h
theorem ApU.okS {j : Jt} {d : Disk.Dk} {nx : Int} {s : Jst} {n : Nat} {y : Ast} (h : ApU j d nx s n y) (h1 : s.start <= 1000000) (h2 : s.count + n <= 1000000) : OkS y.2.2.2 := ⟨h.tg.1, h.tg.2, by rw [h.st]; omega, by rw [h.ct]; omega⟩
theorem rof (a : Option Addr) (len cap : Nat) (M : List Int) (w : World) (hb : Bytes w a len M) (hl : len <= 900000) :
  Calls Tryz.prog 78 #[.slice a len cap] w fun e w' => e = .returned (.agg (u8s (dsha M))) /\ Below w.heap.size w w' := Dig.rof_any a len cap M w hb hl
theorem strCells_nums (L : List Int) (hL : Byt L) : Lib.strCells (strOfNums L) = L.map (Value.int .u8) := by
 unfold Lib.strCells
 rw [strOfNums_data, List.map_map]
 apply List.map_congr_left
 intro z hz
 obtain ⟨i, hi, rfl⟩ := List.getElem_of_mem hz
 have := hL i
 rw [List.getD, List.getElem?_eq_getElem hi, Option.getD_some] at this
 simp
 omega
theorem wpList_appStr {ops : Array Oper} {rest : List Oper} {o : Oper} {act : Act} {w : World} {Q : Exit -> Act -> World -> Prop} (hgd : o.guard = none) (s x : Operand)
  (ho : o.op = .call { callee := .builtin .append, args := #[s, x], argTypes := #[57, 9] }) (base n : Nat) (v : Value) (A L : List Int) (w0 : World)
  (hs : act.eval s = v) (hx : act.eval x = .string (strOfNums L)) (hown : w.ownsRow base 5 1 v n (A.map (Value.int .u8))) (hL : Byt L) (hl : n + L.length <= 140737488355328) (hbel : Below base w0 w) (hbase : base <= w.heap.size)
  (h : ∀ v' w', Box (w'.ownsRow base 5 1 v' (n + L.length) ((A ++ L).map (Value.int .u8)) /\ Below base w0 w' /\ base <= w'.heap.size) -> wpList Tryz.prog ops Q rest (act.put o.dst v') w') : wpList Tryz.prog ops Q (o :: rest) act w := by
 obtain ⟨i0, hi, hz0, hz1, hz2⟩ := info_parts info5
 have hsz := strOfNums_size L
 refine Lib.wpList_append_own_string w hgd s x 57 9 ho base 5 i0 Tryz.underlying57 Tryz.underlying9 hi hz0 hz1 hz2 v n _ hs hown (strOfNums L) hx (by rw [hsz]; unfold maxLen; omega) (by rw [hsz]; exact hl) hbase ?_
 intro v' w' h1 h2 _
 have hz := h2.size
 rw [hsz, strCells_nums L hL] at h1
 exact h v' w' ⟨by rw [List.map_append]; exact h1, hbel.grown h2 hbase (own_block_le hown), by omega⟩
theorem own_lit (w : World) (A : List Int) (B : Nat) (hB : B <= w.heap.size) (hA : A.length <= maxLen) : (w.alloc (.cells (u8s A) 5)).ownsRow B 5 1 (.slice (some ⟨w.heap.size, 0, none⟩) A.length A.length) A.length (A.map (Value.int .u8)) := by
 refine ⟨by simp, .inr ⟨w.heap.size, A.length, u8s A, rfl, hB, heap_alloc_new w _, Nat.le_refl _, hA, by simp [u8s], ?_⟩⟩
 simp [u8s]
 exact List.take_of_length_le (by simp)
theorem rput4 (x x' : Int) (w : World) (hx : 0 <= x /\ x <= 4294967295) (he : x' = x) :
  Calls Tryz.prog 75 #[.int .u64 x', .int .i64 4] w fun e w' => ∃ a' cap', e = .returned (.slice a' 4 cap') /\ Bytes w' a' 4 (bytesOf x 4) /\ Below w.heap.size w w' :=
 by subst he; exact (rput_any x' 4 4 w ⟨hx.1, by omega⟩ rfl (by omega)).mono fun e w' ⟨a', cap', he, ho⟩ => ⟨a', cap', he, ho.bytes (bytesOf_bd _ 4), ho.2.2⟩
set_option maxHeartbeats 2000000 in
theorem rlink_any (tag : List Int) (p : Int) (L : List Int) (w : World) (ht : tag.length = 32) (htb : Byt tag) (hp : 0 <= p /\ p <= 4294967295) (hL : Byt L) (hl : L.length <= 800000) :
  Calls Tryz.prog 42 #[.agg (u8s tag), .int .u32 p, .string (strOfNums L)] w fun e w' => e = .returned (.agg (u8s (lnk tag p L))) /\ Below w.heap.size w w' := by
 unfold lnk
 obtain ⟨X, HX⟩ : ∃ X, Box (dsha (lk tag p L) = X) := ⟨_, ⟨rfl⟩⟩
 have HXs : Box ((u8s X).size = 32) := ⟨by rw [<- HX.out, size_u8s, length_dsha]⟩
 obtain ⟨S, hS⟩ : ∃ S, w.heap.size = S := ⟨_, rfl⟩
 have HS : Box (w.heap.size = S /\ w.heap.size <= S + 1) := ⟨hS, by omega⟩
 have HL : Box (Byt L /\ L.length <= 800000 /\ Byt (lk tag p L)) := ⟨hL, hl, byt_cons _ _ (by omega) (byt_app _ _ htb (byt_app _ _ (bytesOf_bd _ 4) hL))⟩
 obtain ⟨s, HSt⟩ : ∃ s, Box (strOfNums L = s) := ⟨_, ⟨rfl⟩⟩
 have HD : Box ([255] ++ tag ++ bytesOf p 4 ++ L = lk tag p L) := ⟨by simp [lk]⟩
 obtain ⟨AT, hAT⟩ : ∃ A, u8s tag = A := ⟨_, rfl⟩
 obtain ⟨w1, hw1⟩ : ∃ w1, (w.alloc (.cells AT 23)).alloc (.cells (u8s z32) 23) = w1 := ⟨_, rfl⟩
 have hb1 : Below w.heap.size w w1 := by rw [<- hw1]; exact ((Below.refl _ _).alloc (Nat.le_refl _) _).alloc (by simp) _
 have r0 : w1.heap[S]? = some (.cells (u8s tag) 23 (0, 0)) := by rw [<- hw1, hAT]; exact al_old (al_at hS)
 have r1 : w1.heap[S + 1]? = some (.cells (u8s z32) 23 (0, 0)) := by rw [<- hw1]; exact al_at (by simp [hS])
 have hsz1 : w1.heap.size = S + 2 := by rw [<- hw1]; simp [hS]
 have hbt : Bytes w1 (some ⟨S, 0, none⟩) 32 tag := by have := bytes_of_row htb r0; rwa [ht] at this
 have H1 : Box (w1.heap[S + 1]? = some (.cells (u8s z32) 23 (0, 0)) /\ Below w.heap.size w w1 /\ w1.heap.size = S + 2 /\ Bytes w1 (some ⟨S, 0, none⟩) 32 tag) := ⟨r1, hb1, hsz1, hbt⟩
 have hs2 : (w.alloc (.cells AT 23)).heap.size = S + 1 := by simp [hS]
 have HTG : Box (Byt tag /\ tag.length = 32) := ⟨htb, ht⟩
 rw [HSt.out, hAT]
 clear hL hl ht htb hb1 r0 r1 hsz1 hbt hAT
 generalize lk tag p L = M at HX HL HD
 go_enter Tryz.func42, Tryz.ntmps42
 go_upto_region 1 with (refine wpList_run rfl _ _ (exec_alloc 23 rfl _ zeroSum) ?_)
 (try rw [hs2])
 (try simp only [hw1])
 clear hs2 hw1 hS
 have H2 : Box (Pu w1 (w1.alloc (.cells #[.int .u8 255] 5)) (S + 2) (.slice (some ⟨w1.heap.size, 0, none⟩) 1 1) 1 [255] /\ Bytes (w1.alloc (.cells #[.int .u8 255] 5)) (some ⟨S, 0, none⟩) 32 tag) := ⟨⟨own_lit w1 [255] (S + 2) (by rw [H1.out.2.2.1]; exact Nat.le_refl _) (by simp [maxLen]), (Below.refl _ _).alloc (by rw [H1.out.2.2.1]; exact Nat.le_refl _) _, by simp [H1.out.2.2.1]⟩, H1.out.2.2.2.below ((Below.refl _ _).alloc (Nat.le_refl _) _)⟩
 go_upto_region 2 with fail
 generalize w1.alloc (.cells #[.int .u8 255] 5) = w2 at H2 ⊢
 generalize w1.heap.size = g1 at H2 ⊢
 go_upto_region 3 with (first
  | (at_builtin; refine Seal.wpList_app rfl (.tmp 9) (.tmp 10) rfl (S + 2) 1 32 _ _ [255] tag _ w2 rfl rfl H2.out.1.1 H2.out.2 (by decide) (Below.refl _ _) H2.out.1.2.2 ?_; intro v3 w3 h3; have H3 : Box (Pu w1 w3 (S + 2) v3 33 ([255] ++ tag)) := ⟨H2.out.1.app h3⟩; clear h3))
 clear H2
 go_upto_region 4 with (first
  | (go_at_call 75; refine Calls.mono (rput4 p _ _ hp (by first | rfl | (rw [IntKind.wrap_u64]; omega))) ?_; rintro e w4 ⟨a4, c4, rfl, hB, hb⟩; have H4 : Box (Pu w1 w4 (S + 2) v3 33 ([255] ++ tag) /\ Bytes w4 a4 4 (bytesOf p 4)) := ⟨H3.out.below hb, hB⟩; clear hb hB)
  | (at_builtin; refine Seal.wpList_app rfl (.tmp 12) (.tmp 15) rfl (S + 2) 33 4 _ _ ([255] ++ tag) (bytesOf p 4) _ w4 rfl rfl H4.out.1.1 H4.out.2 (by decide) (Below.refl _ _) H4.out.1.2.2 ?_; intro v5 w5 h5; have H5 : Box (Pu w1 w5 (S + 2) v5 37 ([255] ++ tag ++ bytesOf p 4)) := ⟨H4.out.1.app h5⟩; clear h5))
 clear H3 H4
 go_upto_region 5 with (first
  | (at_builtin; rw [<- HSt.out]; refine wpList_appStr rfl (.tmp 17) (.tmp 18) rfl (S + 2) 37 _ ([255] ++ tag ++ bytesOf p 4) L w5 rfl rfl H5.out.1 HL.out.1 (by have := HL.out.2.1; omega) (Below.refl _ _) H5.out.2.2 ?_; intro v6 w6 h6; have H6 : Box (Pu w1 w6 (S + 2) v6 (37 + L.length) M) := ⟨HD.out ▸ H5.out.app h6⟩; clear h6))
 obtain ⟨a6, c6, rfl⟩ := own_form H6.out.1
 have HC : Box (Calls Tryz.prog 78 #[.slice a6 (37 + L.length) c6] w6 fun e w' => e = .returned (.agg (u8s X)) /\ Below w6.heap.size w6 w') := ⟨by
  have := rof a6 (37 + L.length) c6 M w6 (own_bytes H6.out.1 HL.out.2.2) (by have := HL.out.2.1; omega)
  rwa [HX.out] at this⟩
 have H7 : Box (w6.heap[S + 1]? = some (.cells (u8s z32) 23 (0, 0)) /\ Below w.heap.size w w6) := ⟨(H6.out.2.1.block (S + 1) (by omega)).trans H1.out.1, H1.out.2.1.trans (H6.out.2.1.mono (by have := HS.out.1; omega))⟩
 clear H5 H6
 generalize 37 + L.length = len at HC ⊢
 go_wp2_with (first
  | (go_at_call 78; refine Calls.mono HC.out ?_; rintro e w7 ⟨rfl, hb⟩; have H8 : Box (w7.heap[S + 1]? = some (.cells (u8s z32) 23 (0, 0)) /\ Below w.heap.size w w7) := ⟨(hb.block _ (Array.getElem?_eq_some_iff.1 H7.out.1).1).trans H7.out.1, below_to H7.out.2 hb⟩; clear hb)
  | (refine wpList_store_row rfl 23 _ _ rfl (S + 1) (u8s X) rfl rfl 23 (u8s z32) H8.out.1 (by rw [HXs.out]; exact infoSum) (by rw [HXs.out, size_u8s]; exact len_z32) (all_u8s X) ?_))
 (try simp only [Exit.inBlock, Exit.then])
 refine bodyPost_ret (results_cell_row (p := 6) (ty := 23) rfl _ _ (S + 1) 23 (u8s X) (0, 0) _ rfl (setRow_heap _ _ _ _ _ _ H8.out.1) Tryz.underlying23 rfl (by rw [HXs.out]; exact infoSum)) rfl ?_
 exact ⟨by rw [HX.out], below_but H8.out.2 (but_setRow _ _ _) HS.out.2 H8.out.2.size⟩
end Go.Proofs.YtjdjbjedfbmgpaaGreatDoor
