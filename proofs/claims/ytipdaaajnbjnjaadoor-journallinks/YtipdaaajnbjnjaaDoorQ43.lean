/-
  Images as arguments: by value, in a slice, in slices of slices; bools in a slice. And what follows it.
-/
import Derived.Deep.Grids
import Derived.Deep.Slices
import Derived.Test.YtipdaaajnbjnjaaDoorQ27
import Derived.Test.YtipdaaajnbjnjaaDoorCards
import Derived.Test.YtipdaaajnbjnjaaDoorTie
import Derived.ProofKit
import Derived.OpenShut
import Derived.ShutString
import Derived.ChangeOld
import Derived.Below
import Derived.Deep.DeepHandedRow
import Derived.Lib.LaidTab
import Derived.Test.YtipdaaajnbjnjaaDoorQ42
import Derived.Test.YtipdaaajnbjnjaaDoorQ01
import Derived.Lib.AppendStr
import Derived.Test.YtipdaaajnbjnjaaDoorQ13
import Derived.Test.YtipdaaajnbjnjaaDoorQ25
import Derived.Test.YtipdaaajnbjnjaaDoorQ38
namespace Go.Proofs.YtipdaaajnbjnjaaDoor
set_option maxRecDepth 100000
open Go.ChangeShapes Go.WideShapes Go.RowKit Go.Proofs.YtipdaaajnbjnjaaDoor.Plain
set_option linter.unusedVariables false
theorem list_of {α : Type} (P : Nat → α → Prop) : ∀ n : Nat, (∀ i, i < n → ∃ x, P i x) → ∃ L : List α, L.length = n ∧ ∀ i (hi : i < L.length), P i L[i]
  | 0, _ => ⟨[], rfl, fun i hi => by simp at hi⟩
  | n + 1, h => by
    obtain ⟨L, h1, h2⟩ := list_of P n (fun i hi => h i (by omega))
    obtain ⟨x, hx⟩ := h n (by omega)
    refine ⟨L ++ [x], by simp [h1], fun i hi => ?_⟩
    by_cases e : i < L.length
    · rw [List.getElem_append_left e]
      exact h2 i e
    · have : i = L.length := by simp at hi; omega
      subst this
      rw [List.getElem_append_right (Nat.le_refl _)]
      simp only [Nat.sub_self, List.getElem_cons_zero]
      rw [h1]
      exact hx
/-- A row of truth values in memory. -/
def Bools (w : World) (a : Option Addr) (len : Nat) (K : List Bool) : Prop := K.length = len ∧ (0 < len → ∃ b off, a = some ⟨b, off, none⟩ ∧ b < w.heap.size ∧ ∀ i, i < len → w.cell? ⟨b, off + i, none⟩ = some (.bool (K.getD i false)))
theorem Bools.below {w w' : World} {a : Option Addr} {len : Nat} {K : List Bool} (h : Bools w a len K) (hb : Below w.heap.size w w') : Bools w' a len K := by
  refine ⟨h.1, fun h0 => ?_⟩
  obtain ⟨b, off, rfl, hbb, hc⟩ := h.2 h0
  exact ⟨b, off, rfl, Nat.lt_of_lt_of_le hbb hb.size, fun i hi => (hb.cell hbb).trans (hc i hi)⟩
/-- A slice of images, and what lies there. -/
structure Sx where
  a : Option Addr
  l : Nat
  c : Nat
  M : List Im
def slc (x : Sx) : List Value := [.slice x.a x.l x.c]
structure Igss (w : World) (a : Option Addr) (X : List Sx) : Prop where
  tb : Tb w a 1 slc X
  im : ∀ x ∈ X, x.M.length = x.l ∧ Imgs w x.a x.M ∧ x.l ≤ maxLen
theorem Igss.below {w w' : World} {a : Option Addr} {X : List Sx} (h : Igss w a X) (hb : Below w.heap.size w w') : Igss w' a X :=
  ⟨h.tb.below hb, fun x hx => ⟨(h.im x hx).1, (h.im x hx).2.1.below hb, (h.im x hx).2.2⟩⟩
end Go.Proofs.YtipdaaajnbjnjaaDoor
namespace Go.Proofs.YtipdaaajnbjnjaaDoor
set_option maxRecDepth 100000
set_option linter.unusedVariables false
open Go.RowKit Plain Go.WideShapes
theorem gFirst : Tryd.prog.globalNamed "reliquary/digest.first" = some 0 := by kernel_rfl
theorem gRounds : Tryd.prog.globalNamed "reliquary/digest.rounds" = some 1 := by kernel_rfl
theorem gQuart : Tryd.prog.globalNamed "reliquary/cipher.quarters" = some 2 := by kernel_rfl
theorem tFirst : (Tryd.prog.globals[0]?).map (·.type) = some 140 := by kernel_rfl
theorem tRounds : (Tryd.prog.globals[1]?).map (·.type) = some 166 := by kernel_rfl
theorem tQuart : (Tryd.prog.globals[2]?).map (·.type) = some 187 := by kernel_rfl
def quads : List (List Int) := [[0, 4, 8, 12], [1, 5, 9, 13], [2, 6, 10, 14], [3, 7, 11, 15], [0, 5, 10, 15], [1, 6, 11, 12], [2, 7, 8, 13], [3, 4, 9, 14]]
/-- What all rows list. -/
def laid3 : List (String × DataW Unit) := [("reliquary/digest.first", Lib.tabData .u32 Dig.Plain.hh), ("reliquary/digest.rounds", Lib.tabData .u32 Dig.Plain.kk), ("reliquary/cipher.quarters", .agg (quads.map (Lib.tabData .i64)))]
theorem cell_block {w : World} {b o : Nat} {v : Value} (h : w.cell? ⟨b, o, none⟩ = some v) : b < w.heap.size := by
  apply Nat.lt_of_not_le
  intro hle
  simp [World.cell?, Array.getElem?_eq_none hle] at h
theorem quads_at (i : Nat) (h : i < 32) : (quads.getD (i / 4) []).getD (i % 4) 0 = Seal.Plain.qt.getD i 0 ∧ (quads.getD (i / 4) []).length = 4 := by
  have key : ∀ k : Fin 32, (quads.getD (k.val / 4) []).getD (k.val % 4) 0 = Seal.Plain.qt.getD k.val 0 ∧ (quads.getD (k.val / 4) []).length = 4 := by decide +kernel
  exact key ⟨i, h⟩
/-- The three tables, out of the rows' list. -/
theorem tabs_of_laid {W : World} (h : laidMetH Tryd.prog laid3 W) : Dig.Tabs W ∧ Seal.Tab W := by
  have h' : laidMet Tryd.prog laid3 W := h
  obtain ⟨ps, ⟨g0, t0, cs0, f0, p0, q0, hg0, ht0, hv0, hd0, ⟨g1, t1, cs1, f1, p1, q1, hg1, ht1, hv1, hd1, ⟨g2, t2, cs2, f2, p2, q2, hg2, ht2, hv2, hd2, _, _⟩, _⟩, _⟩, _, _⟩ := h'
  obtain rfl := Option.some.inj (gFirst.symm.trans hg0)
  obtain rfl := Option.some.inj (gRounds.symm.trans hg1)
  obtain rfl := Option.some.inj (gQuart.symm.trans hg2)
  obtain rfl := Option.some.inj (tFirst.symm.trans ht0)
  obtain rfl := Option.some.inj (tRounds.symm.trans ht1)
  obtain rfl := Option.some.inj (tQuart.symm.trans ht2)
  have e0 : Lib.TabIs Tryd.prog W "reliquary/digest.first" .u32 Dig.Plain.hh := by
    unfold Lib.TabIs
    rw [hv0, ← Lib.cells_of_tab Tryd.underlying140 Tryd.underlying63 (by kernel_rfl) (by kernel_rfl) hd0]
  have e1 : Lib.TabIs Tryd.prog W "reliquary/digest.rounds" .u32 Dig.Plain.kk := by
    unfold Lib.TabIs
    rw [hv1, ← Lib.cells_of_tab Tryd.underlying166 Tryd.underlying63 (by kernel_rfl) (by kernel_rfl) hd1]
  obtain ⟨xs, m, _, hx, hl, hn, hel⟩ := DataW.trod_array Tryd.underlying187 hd2
  have hc4 : Tryd.prog.cellsOf 186 = 4 := by kernel_rfl
  have hx1 : xs.map (·.1) = quads.map (Lib.tabData .i64) := by
    have := congrArg Prod.fst hx
    simp only [DataW.agg.injEq] at this
    exact this.symm
  have hrow : ∀ j, j < 8 → (cs2.toList.drop (j * 4)).take 4 = (quads.getD j []).map fun z => Value.int .i64 z := by
    intro j hj
    have h1 := hel j hj
    rw [hc4] at h1
    obtain ⟨y, hy⟩ : ∃ y, xs[j]? = some y := ⟨xs[j]'(by omega), by simp [hn, hj]⟩
    rw [hy] at h1
    obtain ⟨y1, y2⟩ := y
    have e1 : y1 = Lib.tabData .i64 (quads.getD j []) := by
      have h2 : (xs.map (·.1))[j]? = some y1 := by simp [hy]
      rw [hx1] at h2
      have hq : j < quads.length := hj
      simp only [List.getElem?_map, List.getElem?_eq_getElem hq, Option.map_some, Option.some.injEq] at h2
      rw [← h2]
      simp [List.getD, hq]
    subst e1
    exact Lib.cells_of_tab Tryd.underlying186 Tryd.underlying3 (by kernel_rfl) (by kernel_rfl) h1
  have hcell : ∀ i, i < 32 → W.cell? ⟨2, i, none⟩ = some (.int .i64 (Seal.Plain.qt.getD i 0)) := by
    intro i hi
    have h1 := hrow (i / 4) (by omega)
    have h2 := congrArg (·[i % 4]?) h1
    simp only [List.getElem?_take, List.getElem?_drop, List.getElem?_map] at h2
    rw [if_pos (by omega), show i / 4 * 4 + i % 4 = i by omega] at h2
    obtain ⟨q1, q2⟩ := quads_at i hi
    have q3 : (quads.getD (i / 4) [])[i % 4]? = some (Seal.Plain.qt.getD i 0) := by
      rw [← q1]
      have : i % 4 < (quads.getD (i / 4) []).length := by omega
      generalize quads.getD (i / 4) [] = Q at this ⊢
      simp [List.getD, this]
    rw [q3] at h2
    have h3 := World.var?_cell gQuart hv2 i
    rw [h3]
    simpa using h2
  refine ⟨⟨?_, fun i hi => e0.cell gFirst i hi, fun i hi => e1.cell gRounds i hi⟩, cell_block (hcell 0 (by omega)), hcell⟩
  have := cell_block (e1.cell gRounds 0 (by decide))
  omega
def putTab (cs : Array Value) : Obj → Obj
  | .cells _ t frozen => .cells cs t frozen
  | o => o
/-- A world for the witness: the settled one, the tables holding what their initialisers lay. -/
noncomputable def laidWorld (os : Os) : World :=
  { World.holding Tryd.prog os ⟨#[], #[], []⟩ with heap := (((World.holding Tryd.prog os ⟨#[], #[], []⟩).heap.modify 0 (putTab (u32s Dig.Plain.hh))).modify 1 (putTab (u32s Dig.Plain.kk))).modify 2 (putTab (Seal.Plain.qt.map (Value.int .i64)).toArray) }
def numOf : Option Value → Int
  | some (.int _ z) => z
  | _ => 0
theorem cells5 : Tryd.prog.cellsOf 5 = 1 := by kernel_rfl
theorem cellsS : Tryd.prog.cellsOf 23 = 32 := by kernel_rfl
theorem open_sumL {H : Type} {enc : TypeId × Value → H} {W : World} {base : Nat} {sp : Nat → Bool} {held : Bool} {fuel : Nat} {cs : List Value} {x : DataW H × List MemPlace} (h : DataW.trod enc Tryd.prog W base sp held fuel 23 cs = some x) : ∃ D : List Int, cs = D.map (Value.int .u8) ∧ D.length = 32 ∧ Byt D := by
  obtain ⟨xs, m, _, _, hl, hn, hel⟩ := DataW.trod_array Tryd.underlying23 h
  rw [cellsS] at hl
  have key : ∀ i, i < 32 → ∃ z, cs[i]? = some (.int .u8 z) ∧ 0 ≤ z ∧ z ≤ 255 := by
    intro i hi
    have := hel i hi
    rw [cells5, Nat.mul_one] at this
    have hx : ∃ y, xs[i]? = some y := ⟨xs[i]'(by omega), by simp [hn, hi]⟩
    obtain ⟨y, hy⟩ := hx
    rw [hy] at this
    obtain ⟨z, hz, _, hw⟩ := DataW.trod_int Tryd.underlying5 this
    have hb := bounds_u8 hw
    refine ⟨z, ?_, by omega, by omega⟩
    have h1 := congrArg (·[0]?) hz
    simpa [List.getElem?_take, List.getElem?_drop] using h1
  refine ⟨(List.range 32).map fun i => numOf cs[i]?, ?_, by simp, ?_⟩
  · apply List.ext_getElem
    · simp [hl]
    · intro i h1 h2
      obtain ⟨z, hz, _⟩ := key i (by omega)
      have : cs[i] = .int .u8 z := by
        rw [List.getElem?_eq_getElem h1] at hz
        exact Option.some.inj hz
      simp [this, hz, numOf]
  · intro i
    by_cases hi : i < 32
    · obtain ⟨z, hz, h0, h1⟩ := key i hi
      simp [hi, hz, h0, h1, numOf]
    · simp [hi]
theorem open_sum {H : Type} {enc : TypeId × Value → H} {W : World} {base : Nat} {v : Value} {d : DataW H} {p : List MemPlace} (hval : Value.okWide Tryd.prog W .any base 23 v) (h : DataW.Trod enc Tryd.prog W 0 (fun _ => true) true 23 v d p) :
    ∃ D : List Int, v = .agg (u8s D) ∧ D.length = 32 ∧ Byt D := by
  simp only [Value.okWide, Tryd.underlying23] at hval
  obtain ⟨cs, rfl, h2, _⟩ := hval
  obtain ⟨fuel, hf⟩ := h
  have hcs : (Value.agg cs).cells = cs := rfl
  rw [hcs] at hf
  obtain ⟨D, hD, l, b⟩ := open_sumL hf
  exact ⟨D, by rw [u8s, ← hD], l, b⟩
end Go.Proofs.YtipdaaajnbjnjaaDoor
namespace Go.Proofs.YtipdaaajnbjnjaaDoor
set_option maxRecDepth 100000
set_option linter.unusedVariables false
open Go.RowKit Plain
theorem rof (a : Option Addr) (len cap : Nat) (M : List Int) (w : World) (hb : Bytes w a len M) (hl : len ≤ 900000) :
    Calls Tryd.prog 44 #[.slice a len cap] w fun e w' => e = .returned (.agg (u8s (dsha M))) ∧ Below w.heap.size w w' := Dig.rof_any a len cap M w hb hl
theorem strCells_nums (L : List Int) (hL : Byt L) : Lib.strCells (strOfNums L) = L.map (Value.int .u8) := by
  unfold Lib.strCells
  rw [strOfNums_data, List.map_map]
  apply List.map_congr_left
  intro z hz
  obtain ⟨i, hi, rfl⟩ := List.getElem_of_mem hz
  have := hL i
  rw [List.getD, List.getElem?_eq_getElem hi, Option.getD_some] at this
  simp
  omega
/-- The bytes of a string appended to a row of the call's own. -/
theorem wpList_appStr {ops : Array Oper} {rest : List Oper} {o : Oper} {act : Act} {w : World} {Q : Exit → Act → World → Prop} (hgd : o.guard = none) (s x : Operand)
    (ho : o.op = .call { callee := .builtin .append, args := #[s, x], argTypes := #[64, 9] }) (base n : Nat) (v : Value) (A L : List Int) (w0 : World)
    (hs : act.eval s = v) (hx : act.eval x = .string (strOfNums L)) (hown : w.ownsRow base 5 1 v n (A.map (Value.int .u8))) (hL : Byt L) (hl : n + L.length ≤ 140737488355328) (hbel : Below base w0 w) (hbase : base ≤ w.heap.size)
    (h : ∀ v' w', Box (w'.ownsRow base 5 1 v' (n + L.length) ((A ++ L).map (Value.int .u8)) ∧ Below base w0 w' ∧ base ≤ w'.heap.size) → wpList Tryd.prog ops Q rest (act.put o.dst v') w') : wpList Tryd.prog ops Q (o :: rest) act w := by
  obtain ⟨i0, hi, hz0, hz1, hz2⟩ := info_parts info5
  have hsz := strOfNums_size L
  refine Lib.wpList_append_own_string w hgd s x 64 9 ho base 5 i0 Tryd.underlying64 Tryd.underlying9 hi hz0 hz1 hz2 v n _ hs hown (strOfNums L) hx (by rw [hsz]; unfold maxLen; omega) (by rw [hsz]; exact hl) hbase ?_
  intro v' w' h1 h2 _
  have hz := h2.size
  rw [hsz, strCells_nums L hL] at h1
  exact h v' w' ⟨by rw [List.map_append]; exact h1, hbel.grown h2 hbase (own_block_le hown), by omega⟩
/-- Bytes that were just laid down in a block of their own. -/
theorem own_lit (w : World) (A : List Int) (B : Nat) (hB : B ≤ w.heap.size) (hA : A.length ≤ maxLen) : (w.alloc (.cells (u8s A) 5)).ownsRow B 5 1 (.slice (some ⟨w.heap.size, 0, none⟩) A.length A.length) A.length (A.map (Value.int .u8)) := by
  refine ⟨by simp, .inr ⟨w.heap.size, A.length, u8s A, rfl, hB, heap_alloc_new w _, Nat.le_refl _, hA, by simp [u8s], ?_⟩⟩
  simp [u8s]
  exact List.take_of_length_le (by simp)
theorem rput4 (x x' : Int) (w : World) (hx : 0 ≤ x ∧ x ≤ 4294967295) (he : x' = x) :
    Calls Tryd.prog 43 #[.int .u64 x', .int .i64 4] w fun e w' => ∃ a' cap', e = .returned (.slice a' 4 cap') ∧ Bytes w' a' 4 (bytesOf x 4) ∧ Below w.heap.size w w' :=
  by subst he; exact (rput_any x' 4 4 w ⟨hx.1, by omega⟩ rfl (by omega)).mono fun e w' ⟨a', cap', he, ho⟩ => ⟨a', cap', he, ho.bytes (bytesOf_bd _ 4), ho.2.2⟩
set_option maxHeartbeats 2000000 in
theorem rlink_any (tag : List Int) (p : Int) (L : List Int) (w : World) (ht : tag.length = 32) (htb : Byt tag) (hp : 0 ≤ p ∧ p ≤ 4294967295) (hL : Byt L) (hl : L.length ≤ 800000) :
    Calls Tryd.prog 21 #[.agg (u8s tag), .int .u32 p, .string (strOfNums L)] w fun e w' => e = .returned (.agg (u8s (lnk tag p L))) ∧ Below w.heap.size w w' := by
  unfold lnk
  obtain ⟨X, HX⟩ : ∃ X, Box (dsha (lk tag p L) = X) := ⟨_, ⟨rfl⟩⟩
  have HXs : Box ((u8s X).size = 32) := ⟨by rw [← HX.out, size_u8s, length_dsha]⟩
  obtain ⟨S, hS⟩ : ∃ S, w.heap.size = S := ⟨_, rfl⟩
  have HS : Box (w.heap.size = S ∧ w.heap.size ≤ S + 1) := ⟨hS, by omega⟩
  have HL : Box (Byt L ∧ L.length ≤ 800000 ∧ Byt (lk tag p L)) := ⟨hL, hl, byt_cons _ _ (by omega) (byt_app _ _ htb (byt_app _ _ (bytesOf_bd _ 4) hL))⟩
  obtain ⟨s, HSt⟩ : ∃ s, Box (strOfNums L = s) := ⟨_, ⟨rfl⟩⟩
  have HD : Box ([255] ++ tag ++ bytesOf p 4 ++ L = lk tag p L) := ⟨by simp [lk]⟩
  obtain ⟨AT, hAT⟩ : ∃ A, u8s tag = A := ⟨_, rfl⟩
  obtain ⟨w1, hw1⟩ : ∃ w1, (w.alloc (.cells AT 23)).alloc (.cells (u8s z32) 23) = w1 := ⟨_, rfl⟩
  have hb1 : Below w.heap.size w w1 := by rw [← hw1]; exact ((Below.refl _ _).alloc (Nat.le_refl _) _).alloc (by simp) _
  have r0 : w1.heap[S]? = some (.cells (u8s tag) 23 (0, 0)) := by rw [← hw1, hAT]; exact al_old (al_at hS)
  have r1 : w1.heap[S + 1]? = some (.cells (u8s z32) 23 (0, 0)) := by rw [← hw1]; exact al_at (by simp [hS])
  have hsz1 : w1.heap.size = S + 2 := by rw [← hw1]; simp [hS]
  have hbt : Bytes w1 (some ⟨S, 0, none⟩) 32 tag := by have := bytes_of_row htb r0; rwa [ht] at this
  have H1 : Box (w1.heap[S + 1]? = some (.cells (u8s z32) 23 (0, 0)) ∧ Below w.heap.size w w1 ∧ w1.heap.size = S + 2 ∧ Bytes w1 (some ⟨S, 0, none⟩) 32 tag) := ⟨r1, hb1, hsz1, hbt⟩
  have hs2 : (w.alloc (.cells AT 23)).heap.size = S + 1 := by simp [hS]
  have HTG : Box (Byt tag ∧ tag.length = 32) := ⟨htb, ht⟩
  rw [HSt.out, hAT]
  clear hL hl ht htb hb1 r0 r1 hsz1 hbt hAT
  generalize lk tag p L = M at HX HL HD
  go_enter Tryd.func21, Tryd.ntmps21
  go_upto_region 1 with (refine wpList_run rfl _ _ (exec_alloc 23 rfl _ zeroSum) ?_)
  (try rw [hs2])
  (try simp only [hw1])
  clear hs2 hw1 hS
  have H2 : Box (Pu w1 (w1.alloc (.cells #[.int .u8 255] 5)) (S + 2) (.slice (some ⟨w1.heap.size, 0, none⟩) 1 1) 1 [255] ∧ Bytes (w1.alloc (.cells #[.int .u8 255] 5)) (some ⟨S, 0, none⟩) 32 tag) := ⟨⟨own_lit w1 [255] (S + 2) (by rw [H1.out.2.2.1]; exact Nat.le_refl _) (by simp [maxLen]), (Below.refl _ _).alloc (by rw [H1.out.2.2.1]; exact Nat.le_refl _) _, by simp [H1.out.2.2.1]⟩, H1.out.2.2.2.below ((Below.refl _ _).alloc (Nat.le_refl _) _)⟩
  go_upto_region 2 with fail
  generalize w1.alloc (.cells #[.int .u8 255] 5) = w2 at H2 ⊢
  generalize w1.heap.size = g1 at H2 ⊢
  go_upto_region 3 with (first
    | (at_builtin; refine Seal.wpList_app rfl (.tmp 9) (.tmp 10) rfl (S + 2) 1 32 _ _ [255] tag _ w2 rfl rfl H2.out.1.1 H2.out.2 (by decide) (Below.refl _ _) H2.out.1.2.2 ?_; intro v3 w3 h3; have H3 : Box (Pu w1 w3 (S + 2) v3 33 ([255] ++ tag)) := ⟨H2.out.1.app h3⟩; clear h3))
  clear H2
  go_upto_region 4 with (first
    | (go_at_call 43; refine Calls.mono (rput4 p _ _ hp (by first | rfl | (rw [IntKind.wrap_u64]; omega))) ?_; rintro e w4 ⟨a4, c4, rfl, hB, hb⟩; have H4 : Box (Pu w1 w4 (S + 2) v3 33 ([255] ++ tag) ∧ Bytes w4 a4 4 (bytesOf p 4)) := ⟨H3.out.below hb, hB⟩; clear hb hB)
    | (at_builtin; refine Seal.wpList_app rfl (.tmp 12) (.tmp 15) rfl (S + 2) 33 4 _ _ ([255] ++ tag) (bytesOf p 4) _ w4 rfl rfl H4.out.1.1 H4.out.2 (by decide) (Below.refl _ _) H4.out.1.2.2 ?_; intro v5 w5 h5; have H5 : Box (Pu w1 w5 (S + 2) v5 37 ([255] ++ tag ++ bytesOf p 4)) := ⟨H4.out.1.app h5⟩; clear h5))
  clear H3 H4
  go_upto_region 5 with (first
    | (at_builtin; rw [← HSt.out]; refine wpList_appStr rfl (.tmp 17) (.tmp 18) rfl (S + 2) 37 _ ([255] ++ tag ++ bytesOf p 4) L w5 rfl rfl H5.out.1 HL.out.1 (by have := HL.out.2.1; omega) (Below.refl _ _) H5.out.2.2 ?_; intro v6 w6 h6; have H6 : Box (Pu w1 w6 (S + 2) v6 (37 + L.length) M) := ⟨HD.out ▸ H5.out.app h6⟩; clear h6))
  obtain ⟨a6, c6, rfl⟩ := own_form H6.out.1
  have HC : Box (Calls Tryd.prog 44 #[.slice a6 (37 + L.length) c6] w6 fun e w' => e = .returned (.agg (u8s X)) ∧ Below w6.heap.size w6 w') := ⟨by
    have := rof a6 (37 + L.length) c6 M w6 (own_bytes H6.out.1 HL.out.2.2) (by have := HL.out.2.1; omega)
    rwa [HX.out] at this⟩
  have H7 : Box (w6.heap[S + 1]? = some (.cells (u8s z32) 23 (0, 0)) ∧ Below w.heap.size w w6) := ⟨(H6.out.2.1.block (S + 1) (by omega)).trans H1.out.1, H1.out.2.1.trans (H6.out.2.1.mono (by have := HS.out.1; omega))⟩
  clear H5 H6
  generalize 37 + L.length = len at HC ⊢
  go_wp2_with (first
    | (go_at_call 44; refine Calls.mono HC.out ?_; rintro e w7 ⟨rfl, hb⟩; have H8 : Box (w7.heap[S + 1]? = some (.cells (u8s z32) 23 (0, 0)) ∧ Below w.heap.size w w7) := ⟨(hb.block _ (Array.getElem?_eq_some_iff.1 H7.out.1).1).trans H7.out.1, below_to H7.out.2 hb⟩; clear hb)
    | (refine wpList_store_row rfl 23 _ _ rfl (S + 1) (u8s X) rfl rfl 23 (u8s z32) H8.out.1 (by rw [HXs.out]; exact infoSum) (by rw [HXs.out, size_u8s]; exact len_z32) (all_u8s X) ?_))
  (try simp only [Exit.inBlock, Exit.then])
  refine bodyPost_ret (results_cell_row (p := 6) (ty := 23) rfl _ _ (S + 1) 23 (u8s X) (0, 0) _ rfl (setRow_heap _ _ _ _ _ _ H8.out.1) Tryd.underlying23 rfl (by rw [HXs.out]; exact infoSum)) rfl ?_
  exact ⟨by rw [HX.out], below_but H8.out.2 (but_setRow _ _ _) HS.out.2 H8.out.2.size⟩
end Go.Proofs.YtipdaaajnbjnjaaDoor
