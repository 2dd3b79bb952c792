/-
  The items below a node, as below of package vault hands them on, one by one. And what follows it.
-/
import Derived.RangeFuncNested
import Derived.RangeFuncBound
import Derived.RangeFuncCalls
import Derived.RangeFuncLeaves
import Derived.Shelf.RegionOpen
import Derived.OwnWalkIn
import Derived.TacticsInMore
import Derived.LoopNIn
import Derived.LoopIn
import Derived.Test.YthbbijaikcmaeaaGreatDoorX22
namespace Go.Proofs.YthbbijaikcmaeaaGreatDoor
set_option maxRecDepth 100000
set_option linter.unusedVariables false
set_option maxRecDepth 100000
open Go.RowKit Go.Shelf Plain Go.Proofs.YthbbijaikcmaeaaGreatDoor.Shap.Plain
attribute [local go_sem] Oper.semAt_some
theorem atLoadIn {F : Fence} {n : Nat} {P : Program} {ops : Array Oper} {Q : Exit → Act → World → Prop} {rest : List Oper} {a : Act} {w : World} (t : TypeId) {x : Operand} {d : Option Tmp} {ty : TypeId} {p : String} {af : Array Edge} {g : Option (Nat × Bool)} (h : wpListIn F n P ops Q ({ dst := d, op := .load t x, type := ty, pos := p, after := af, guard := g } :: rest) a w) : wpListIn F n P ops Q ({ dst := d, op := .load t x, type := ty, pos := p, after := af, guard := g } :: rest) a w := h
theorem wpListIn_ldMid {F : Fence} {n : Nat} {ops : Array Oper} {rest : List Oper} {o : Oper} {a : Act} {w : World} {Q : Exit → Act → World → Prop} (hg : o.guard = none) (t : TypeId) (d : TypeDesc) (x : Operand) (ho : o.op = .load t x) (hu : Tryz.prog.underlying t = some d) (hd : d.isRow = true) (b off : Nat) (hx : a.eval x = .pointer (some ⟨b, off, none⟩)) (cs : List Value) (hi : (Tryz.prog.info? t).map (·.size) = some cs.length) (hc : w.rangeAt b off cs)
    (h : wpListIn F n Tryz.prog ops Q rest (a.put o.dst (.agg cs.toArray)) w) : wpListIn F n Tryz.prog ops Q (o :: rest) a w := by
  refine wpListIn_plain hg fun K hK' => ?_
  unfold Oper.wpIn
  refine ⟨?_, ?_⟩
  · simp [Oper.about, ho]
  · rw [Oper.semAt_plain F _ _ (by rw [ho]; intro c hc'; cases hc'), exec_load_mid t d x ho hu hd b off hx cs hi hc]
    exact hK' _ _ h
def Kps (S : Nat → Prop) (A B : World) : Prop := A.heap.size ≤ B.heap.size ∧ ∀ k, S k → ∀ cs t f, A.heap[k]? = some (.cells cs t f) → B.heap[k]? = some (.cells cs t f)
theorem Kps.refl (S : Nat → Prop) (A : World) : Kps S A A := ⟨Nat.le_refl _, fun _ _ _ _ _ h => h⟩
theorem kps_t {S : Nat → Prop} {A B C : World} (h : Kps S A B) (k : Kps S B C) : Kps S A C := ⟨Nat.le_trans h.1 k.1, fun i hi cs t f e => k.2 i hi cs t f (h.2 i hi cs t f e)⟩
theorem kps_b {S : Nat → Prop} {w : World} (W : World) (l : Nat) (o o' : Obj) (_ : w.heap.size ≤ l) (h : W.heap[l]? = some o) (hc : o.isCells = false) (_ : o.isWalk = false) : Kps S W (W.putObj l o') := by
  refine ⟨by simp, fun k _ cs t f e => ?_⟩
  have hne : k ≠ l := fun e' => by
    subst e'
    rw [h] at e
    cases e
    cases hc
  rw [World.putObj_heap_other hne]
  exact e
theorem Kps.below {S : Nat → Prop} {A B : World} (h : Below A.heap.size A B) : Kps S A B := ⟨h.size, fun k _ cs t f e => (h.block k (Array.getElem?_eq_some_iff.1 e).1).trans e⟩
theorem Kps.block {S : Nat → Prop} {A B : World} (h : Kps S A B) {k : Nat} (hk : S k) {cs : Array Value} {t : TypeId} {f : Nat × Nat} (e : A.heap[k]? = some (.cells cs t f)) : B.heap[k]? = some (.cells cs t f) := h.2 k hk cs t f e
theorem Kps.ints {S : Nat → Prop} {A B : World} (h : Kps S A B) {a : Option Addr} {len : Nat} {L : List Int} (hI : Shap.Ints A a len L) (ha : ∀ ad, a = some ad → S ad.block) : Shap.Ints B a len L := by
  refine ⟨hI.1, fun hp => ?_⟩
  obtain ⟨b, o, e, hlt, hc⟩ := hI.2 hp
  have h0 := hc 0 hp
  have hx : ∃ cs t f, A.heap[b]? = some (.cells cs t f) := by
    unfold World.cell? at h0
    cases ho : A.heap[b]? with
    | none => simp [ho] at h0
    | some ob => cases ob <;> simp_all
  obtain ⟨cs, t, f, hx⟩ := hx
  have hy := h.2 b (ha _ e) cs t f hx
  refine ⟨b, o, e, Nat.lt_of_lt_of_le hlt h.1, fun i hi => ?_⟩
  have hq : B.cell? ⟨b, o + i, none⟩ = A.cell? ⟨b, o + i, none⟩ := World.cell?_of_block (show B.heap[b]? = A.heap[b]? by rw [hx, hy])
  rw [hq]
  exact hc i hi
def chn (n l i : Nat) : Nat := min 4 (wd n l - 4 * i)
structure Bel (W : World) (Bv Bi V D : Nat) (v : Vt) (sa : Option Addr) (sc : Nat) (it : Nat) : Prop where
  bv : W.heap[Bv]? = some (.cells #[.pointer (some ⟨V, 0, none⟩)] 31 (0, 0))
  bi : W.heap[Bi]? = some (.cells #[.int .i64 (it : Int)] 3 (0, 0))
  row : W.heap[V]? = some (.cells (vcs D v sa sc).toArray 79 (0, 0))
  ints : Shap.Ints W sa (wid v.n).length (wid v.n)
def belS (Bv Bi V : Nat) (sa : Option Addr) (k : Nat) : Prop := k = Bv ∨ k = Bi ∨ k = V ∨ ∃ ad, sa = some ad ∧ k = ad.block
theorem Bel.kps {W W' : World} {Bv Bi V D : Nat} {v : Vt} {sa : Option Addr} {sc it : Nat} {S : Nat → Prop} (h : Bel W Bv Bi V D v sa sc it) (hk : Kps S W W') (hS : ∀ k, belS Bv Bi V sa k → S k) : Bel W' Bv Bi V D v sa sc it :=
  ⟨hk.block (hS _ (.inl rfl)) h.bv, hk.block (hS _ (.inr (.inl rfl))) h.bi, hk.block (hS _ (.inr (.inr (.inl rfl)))) h.row, hk.ints h.ints (fun ad e => hS _ (.inr (.inr (.inr ⟨ad, e, rfl⟩))))⟩
theorem Bel.below {W W' : World} {Bv Bi V D : Nat} {v : Vt} {sa : Option Addr} {sc it : Nat} (h : Bel W Bv Bi V D v sa sc it) (hb : Below W.heap.size W W') : Bel W' Bv Bi V D v sa sc it := h.kps (S := fun _ => True) (Kps.below hb) (fun _ _ => trivial)
def encB (n l i : Nat) (k : Fin 4) : Array Value := #[.int .i64 (k.val : Int), .int .i64 (itm n l (4 * i + k.val) : Nat)]
def f4 (k : Nat) : Fin 4 := ⟨k % 4, Nat.mod_lt _ (by decide)⟩
def fr (m : Nat) : List (Fin 4) := (List.range m).map f4
theorem fr_succ (m : Nat) : fr (m + 1) = fr m ++ [f4 m] := by simp [fr, List.range_succ]
theorem fr_length (m : Nat) : (fr m).length = m := by simp [fr]
theorem f4_val (k : Nat) (h : k < 4) : (f4 k).val = k := Nat.mod_eq_of_lt h
theorem grown_below {w w' : World} (h : Below w.heap.size w w') : w.grownBy w' none := ⟨h.os, h.tape, h.output, h.size, fun k hk _ => h.block k hk⟩
theorem abides {β : Type} {B : Nat} {J : β → World → Prop} (h : AbidesFrom B J) {s : β} {W W' : World} (hs : J s W) (hb : Below W.heap.size W W') : J s W' := h s W W' none hs (grown_below hb) (fun r e => by cases e)
set_option maxHeartbeats 4000000 in
theorem below1_in (n : Nat) (hn : 1 ≤ n) (lo Bv Bi V D : Nat) (v : Vt) (ok : v.Ok) (sa : Option Addr) (sc : Nat) (l i : Nat) (hl : l + 1 ≤ topL v.n) (hi : i < wd v.n (l + 1)) (S : Nat → Prop) (hS : ∀ k, belS Bv Bi V sa k → S k) (J Jx : List (Fin 4) → World → Prop) (W : World) (hJa : AbidesFrom W.heap.size J)
    (hY : ∀ pre x W1, J pre W1 → pre.length < chn v.n l i → YieldAt Fence.wide (n - 1) Tryz.prog lo (encB v.n l i x) W1 fun e W' =>
      (e = .returned (.bool true) ∧ J (pre ++ [x]) W' ∧ Kps S W1 W') ∨ (e = .returned (.bool false) ∧ Jx (pre ++ [x]) W'))
    (hB : Bel W Bv Bi V D v sa sc (itm v.n (l + 1) i)) (h0 : J [] W) :
    CallsIn Fence.wide n Tryz.prog 86 #[.func (.yield lo) #[] #[], .pointer (some ⟨Bv, 0, none⟩), .pointer (some ⟨Bi, 0, none⟩)] W fun e W' => (∃ v, e = .returned v) ∧
      ((∃ ys, ys = fr (chn v.n l i) ∧ J ys W') ∨ (∃ pre, (∃ k, k ≤ chn v.n l i ∧ pre = fr k) ∧ Jx pre W')) := by
  obtain ⟨it, hit⟩ : ∃ it, itm v.n (l + 1) i = it := ⟨_, rfl⟩
  obtain ⟨L1, hL1⟩ : ∃ L1 : Int, ((l + 1 : Nat) : Int) = L1 := ⟨_, rfl⟩
  obtain ⟨vn, hvn⟩ : ∃ vn, v.n = vn := ⟨_, rfl⟩
  have hfact : ∀ x, Bel x Bv Bi V D v sa sc it → x.cell? ⟨Bv, 0, none⟩ = some (.pointer (some ⟨V, 0, none⟩)) ∧ x.cell? ⟨Bi, 0, none⟩ = some (.int .i64 (it : Int)) ∧ x.rangeAt V 34 [.slice sa (wid vn).length sc] ∧ Shap.Ints x sa (wid vn).length (wid vn) := fun x hx => by
    rw [← hvn]
    exact ⟨by rw [cell_of_row _ _ _ _ _ _ hx.bv]; rfl, by rw [cell_of_row _ _ _ _ _ _ hx.bi]; rfl, (vrd_of hx.row ok).shp, hx.ints⟩
  rw [hit] at hB
  have hlo := ok.lo
  have hhi := ok.hi
  have hbd := itm_lt v.n (topL v.n) (l + 1) i hl hi
  have hof := off_le v.n ok.lo ok.hi
  have hiw : i < 1024 := by
    have h1 := (shp_wid v.n hlo hhi).any (l + 1)
    rw [wid_wd v.n hlo hhi (l + 1) (by have := topL_bd v.n hlo hhi; omega)] at h1
    omega
  have hl6 : l + 1 ≤ 5 := by have := topL_bd v.n hlo hhi; omega
  have CL : Box (∀ x, Below W.heap.size W x → Calls Tryz.prog 83 #[.agg #[.slice sa (wid vn).length sc], .int .i64 (it : Int)] x fun e w' => e = .returned (.tuple #[.int .i64 L1, .int .i64 (i : Int), .int .i64 0]) ∧ Below x.heap.size x w') := ⟨fun x hx => by
    rw [← hit, ← hvn, ← hL1]
    have := (hfact x (hB.below hx)).2.2.2
    rw [← hvn] at this
    exact Shap.level_any sa (wid v.n).length sc _ _ _ _ (wid v.n) x this (shp_wid v.n ok.lo ok.hi) (by omega) (lvl_itm v.n (l + 1) i ok.lo ok.hi hl hi)⟩
  have HA : Box (∀ x, Below W.heap.size W x → x.cell? ⟨Bv, 0, none⟩ = some (.pointer (some ⟨V, 0, none⟩)) ∧ x.cell? ⟨Bi, 0, none⟩ = some (.int .i64 (it : Int)) ∧ x.rangeAt V 34 [.slice sa (wid vn).length sc] ∧ Shap.Ints x sa (wid vn).length (wid vn)) := ⟨fun x hx => hfact x (hB.below hx)⟩
  have HCI : Box (∀ x j, Bel x Bv Bi V D v sa sc it → j < wd vn l → Calls Tryz.prog 84 #[.agg #[.slice sa (wid vn).length sc], .int .i64 (l : Int), .int .i64 (j : Nat)] x fun e w' => e = .returned (.tuple #[.int .i64 (itm vn l j : Nat), .int .i64 0]) ∧ Below x.heap.size x w') := ⟨fun x j hx hj => by
    have hI := (hfact x hx).2.2.2
    subst hvn
    exact Shap.item_any sa (wid v.n).length sc _ _ _ _ (wid v.n) x hI (shp_wid v.n ok.lo ok.hi) (itm_itm v.n l j ok.lo ok.hi (by omega) hj)⟩
  have HCN : Box (∀ x j, Bel x Bv Bi V D v sa sc it → wd vn l ≤ j → Calls Tryz.prog 84 #[.agg #[.slice sa (wid vn).length sc], .int .i64 (l : Int), .int .i64 (j : Nat)] x fun e w' => e = .returned (.tuple #[.int .i64 0, .int .i64 12]) ∧ Below x.heap.size x w') := ⟨fun x j hx hj => by
    have hI := (hfact x hx).2.2.2
    subst hvn
    exact Shap.item_any sa (wid v.n).length sc _ _ _ _ (wid v.n) x hI (shp_wid v.n ok.lo ok.hi) (itm_none v.n l j ok.lo ok.hi (by omega) hj)⟩
  have HF : Box (∀ x, Bel x Bv Bi V D v sa sc it → x.cell? ⟨Bv, 0, none⟩ = some (.pointer (some ⟨V, 0, none⟩)) ∧ x.rangeAt V 34 [.slice sa (wid vn).length sc]) := ⟨fun x hx => ⟨(hfact x hx).1, (hfact x hx).2.2.1⟩⟩
  have HB : Box (Bel W Bv Bi V D v sa sc it) := ⟨hB⟩
  have HY : Box _ := ⟨hY⟩
  have HJ : Box (AbidesFrom W.heap.size J) := ⟨hJa⟩
  have H0 : Box (J [] W) := ⟨h0⟩
  have HS : Box (∀ k, belS Bv Bi V sa k → S k) := ⟨hS⟩
  have HI : Box (i < 1024 ∧ l + 1 ≤ 5 ∧ i < wd v.n (l + 1)) := ⟨hiw, hl6, hi⟩
  clear hfact hB hY hJa h0 hS hbd hof hiw hl6 hlo hhi hl hi hit
  refine callsIn_of_wp Tryz.func86 rfl trivial ?_ rfl
  simp only [Tryz.ntmps86, List.size_toArray, List.length_cons, List.length_nil, Nat.reduceAdd, Nat.reduceSub, Array.replicate_succ, Array.replicate_zero, List.push_toArray, List.append_toArray, List.nil_append, List.cons_append]
  have hw1 : IntKind.i64.wrap (L1 - 1) = (l : Int) := by rw [IntKind.wrap_i64, ← hL1]; have := HI.out; omega
  have hw2 : IntKind.i64.wrap (4 * (i : Int)) = 4 * (i : Int) := by rw [IntKind.wrap_i64]; have := HI.out; omega
  clear hL1
  gi_wp2
  refine wpIn_wide.2 ?_
  refine Seq.begin_any (by kernel_rfl) (fun wd hd => ?_)
  have HX0 : Box (Below W.heap.size W wd) := ⟨hd⟩
  clear hd
  refine Seq.take_lat (i := 0) (v := .pointer (some ⟨V, 0, none⟩)) rfl (by kernel_rfl) (by kernel_rfl) (by kernel_rfl) (fun _ _ _ h => h) (by rfl) (fun w' hLat => Disk.exec_load1 31 _ _ rfl Tryz.underlying31 rfl _ rfl _ (HA.out w' (below_to HX0.out hLat)).1) ?_
  try simp only [Act.put, List.setIfInBounds_toArray, List.set_cons_zero, List.set_cons_succ, List.getElem_toArray, List.getElem_cons_zero]
  refine Seq.take_lat (i := 1) (v := ?_) rfl (by kernel_rfl) (by kernel_rfl) (by kernel_rfl) (fun _ _ _ h => h) (by rfl) ?_ ?_
  rotate_left
  · intro w' hLat; change Below _ _ _ at hLat; go_simp <;> with_reducible rfl
  try simp only [Act.put, List.setIfInBounds_toArray, List.set_cons_zero, List.set_cons_succ, List.getElem_toArray, List.getElem_cons_zero, List.getElem_cons_succ]
  refine Seq.take_lat (i := 2) (v := ?_) rfl (by kernel_rfl) (by kernel_rfl) (by kernel_rfl) (fun _ _ _ h => h) (by rfl) ?_ ?_
  rotate_left
  · intro w' hLat; change Below _ _ _ at hLat; go_simp <;> with_reducible rfl
  try simp only [Act.put, List.setIfInBounds_toArray, List.set_cons_zero, List.set_cons_succ, List.getElem_toArray, List.getElem_cons_zero, List.getElem_cons_succ]
  refine Seq.take_lat (i := 3) (v := .agg #[.slice sa (wid vn).length sc]) rfl (by kernel_rfl) (by kernel_rfl) (by kernel_rfl) (fun _ _ _ h => h) (by rfl) (fun w' hLat => exec_load_mid 74 _ _ rfl Tryz.underlying74 rfl V 34 rfl [.slice sa (wid vn).length sc] infoShp (HA.out w' (below_to HX0.out hLat)).2.2.1) ?_
  try simp only [Act.put, List.setIfInBounds_toArray, List.set_cons_zero, List.set_cons_succ, List.getElem_toArray, List.getElem_cons_zero, List.getElem_cons_succ]
  refine Seq.take_lat (i := 4) (v := .int .i64 (it : Int)) rfl (by kernel_rfl) (by kernel_rfl) (by kernel_rfl) (fun _ _ _ h => h) (by rfl) (fun w' hLat => Disk.exec_load1 3 _ _ rfl Tryz.underlying3 rfl _ rfl _ (HA.out w' (below_to HX0.out hLat)).2.1) ?_
  try simp only [Act.put, List.setIfInBounds_toArray, List.set_cons_zero, List.set_cons_succ, List.getElem_toArray, List.getElem_cons_zero, List.getElem_cons_succ]
  refine Seq.only_lat (i := 5) rfl (by kernel_rfl) (fun KK hK => ?_)
  rw [if_pos (by rfl)]
  go_simp
  refine Calls.mono (CL.out wd HX0.out) ?_
  rintro e x1 ⟨rfl, hb⟩
  have HX1 : Box (Below W.heap.size W x1) := ⟨below_to HX0.out hb⟩
  refine hK.out _ _ hb ?_
  clear hb
  clear hK KK
  try simp only [Act.put, List.setIfInBounds_toArray, List.set_cons_zero, List.set_cons_succ, List.getElem_toArray, List.getElem_cons_zero, List.getElem_cons_succ]
  refine Seq.take_lat (i := 6) (v := ?_) rfl (by kernel_rfl) (by kernel_rfl) (by kernel_rfl) (fun _ _ _ h => h) (by rfl) ?_ ?_
  rotate_left
  · intro w' hLat; change Below _ _ _ at hLat; go_simp <;> with_reducible rfl
  try simp only [Act.put, List.setIfInBounds_toArray, List.set_cons_zero, List.set_cons_succ, List.getElem_toArray, List.getElem_cons_zero, List.getElem_cons_succ]
  refine Seq.take_lat (i := 7) (v := ?_) rfl (by kernel_rfl) (by kernel_rfl) (by kernel_rfl) (fun _ _ _ h => h) (by rfl) ?_ ?_
  rotate_left
  · intro w' hLat; change Below _ _ _ at hLat; go_simp <;> with_reducible rfl
  try simp only [Act.put, List.setIfInBounds_toArray, List.set_cons_zero, List.set_cons_succ, List.getElem_toArray, List.getElem_cons_zero, List.getElem_cons_succ]
  refine Seq.take_lat (i := 8) (v := ?_) rfl (by kernel_rfl) (by kernel_rfl) (by kernel_rfl) (fun _ _ _ h => h) (by rfl) ?_ ?_
  rotate_left
  · intro w' hLat; change Below _ _ _ at hLat; go_simp <;> with_reducible rfl
  try simp only [Act.put, List.setIfInBounds_toArray, List.set_cons_zero, List.set_cons_succ, List.getElem_toArray, List.getElem_cons_zero, List.getElem_cons_succ]
  refine Seq.take_lat (i := 9) (v := ?_) rfl (by kernel_rfl) (by kernel_rfl) (by kernel_rfl) (fun _ _ _ h => h) (by rfl) ?_ ?_
  rotate_left
  · intro w' hLat; change Below _ _ _ at hLat; go_simp <;> with_reducible rfl
  try simp only [Act.put, List.setIfInBounds_toArray, List.set_cons_zero, List.set_cons_succ, List.getElem_toArray, List.getElem_cons_zero, List.getElem_cons_succ]
  refine Seq.take_lat (i := 10) (v := ?_) rfl (by kernel_rfl) (by kernel_rfl) (by kernel_rfl) (fun _ _ _ h => h) (by rfl) ?_ ?_
  rotate_left
  · intro w' hLat; change Below _ _ _ at hLat; go_simp <;> with_reducible rfl
  try simp only [Act.put, List.setIfInBounds_toArray, List.set_cons_zero, List.set_cons_succ, List.getElem_toArray, List.getElem_cons_zero, List.getElem_cons_succ]
  refine Seq.take_lat (i := 11) (v := ?_) rfl (by kernel_rfl) (by kernel_rfl) (by kernel_rfl) (fun _ _ _ h => h) (by rfl) ?_ ?_
  rotate_left
  · intro w' hLat; change Below _ _ _ at hLat; go_simp <;> with_reducible rfl
  try simp only [Act.put, List.setIfInBounds_toArray, List.set_cons_zero, List.set_cons_succ, List.getElem_toArray, List.getElem_cons_zero, List.getElem_cons_succ]
  refine Seq.take_lat (i := 12) (v := ?_) rfl (by kernel_rfl) (by kernel_rfl) (by kernel_rfl) (fun _ _ _ h => h) (by rfl) ?_ ?_
  rotate_left
  · intro w' hLat; change Below _ _ _ at hLat; go_simp <;> with_reducible rfl
  try simp only [Act.put, List.setIfInBounds_toArray, List.set_cons_zero, List.set_cons_succ, List.getElem_toArray, List.getElem_cons_zero, List.getElem_cons_succ]
  refine wpAnyH_done (by kernel_rfl) ?_ _
  have HJ1 : Box (J [] x1) := ⟨abides HJ.out H0.out HX1.out⟩
  have HB1 : Box (Bel x1 Bv Bi V D v sa sc it) := ⟨HB.out.below HX1.out⟩
  clear H0 HB CL HA HX0 HX1
  gi_wp2
  gi_loopw [20] (fun i' wr => ∃ k : Nat, k ≤ chn v.n l i ∧ i' = .int .i64 (k : Int) ∧ Box (J (fr k) wr) ∧ Box (Bel wr Bv Bi V D v sa sc it)) (fun i' _ => 4 - (intOf i').toNat)
  case atStart => exact ⟨0, Nat.zero_le _, rfl, HJ1, HB1⟩
  case round =>
    clear HJ1 HB1
    obtain ⟨k, hk, rfl, hJs, hBs⟩ := hrel
    have hc4 : chn v.n l i ≤ 4 := Nat.min_le_left _ _
    by_cases hlt : k < 4
    · have hw3 : IntKind.i64.wrap (4 * (i : Int) + (k : Int)) = ((4 * i + k : Nat) : Int) := by rw [IntKind.wrap_i64]; have := HI.out; omega
      have hw4 : IntKind.i64.wrap ((k : Int) + 1) = ((k + 1 : Nat) : Int) := by rw [IntKind.wrap_i64]; omega
      have hk4 : decide ((k : Int) < 4) = true := by simp; omega
      obtain ⟨f1, f2⟩ := HF.out wr hBs.out
      have HR : Box (wr.rangeAt V 34 [.slice sa (wid vn).length sc]) := ⟨f2⟩
      clear f2
      by_cases hex : 4 * i + k < Plain.wd vn l
      · have hkc : k < chn v.n l i := by unfold chn; rw [hvn]; omega
        have HI2 : Box _ := ⟨HCI.out wr (4 * i + k) hBs.out hex⟩
        generalize hq : 4 * i + k = q at *
        gi_wp2_with (first
          | (refine ⟨trivial, ?_⟩; gi_at_call 84; refine (callsIn_wide.2 HI2.out).mono ?_; rintro e x2 ⟨rfl, hb⟩; have HX2 : Box (Below wr.heap.size wr x2) := ⟨hb⟩; clear hb; obtain ⟨fn, tmps, assign, body, hy, hR⟩ := HY.out (fr k) (f4 k) x2 (abides HJ.out hJs.out HX2.out) (by rw [fr_length]; exact hkc); have HRR : Box _ := ⟨hR⟩; clear hR; simp only [encB, hvn, f4_val k hlt, hq] at hy)
          | (refine atLoadIn 74 ?_; refine wpListIn_ldMid rfl 74 _ _ rfl Tryz.underlying74 rfl V 34 rfl [.slice sa (wid vn).length sc] infoShp HR.out ?_))
        refine HRR.out.mono ?_
        rintro e W3 (⟨rfl, hJ3, hk3⟩ | ⟨rfl, hJx3⟩)
        · have HJ3 : Box (J (fr (k + 1)) W3) := ⟨by rw [fr_succ]; exact hJ3⟩
          have HB3 : Box (Bel W3 Bv Bi V D v sa sc it) := ⟨(hBs.out.below HX2.out).kps hk3 HS.out⟩
          clear hJ3 hk3
          gi_wp2
          go_roundw
          case rel => exact ⟨k + 1, hkc, rfl, HJ3, HB3⟩
          case measure => simp [intOf]; omega
        · have HJx : Box (Jx (fr (k + 1)) W3) := ⟨by rw [fr_succ]; exact hJx3⟩
          clear hJx3
          gi_wp2
          refine bodyPost_ret (results_none rfl _ _ _) rfl ?_
          exact ⟨⟨_, rfl⟩, .inr ⟨_, ⟨k + 1, hkc, rfl⟩, HJx.out⟩⟩
      · have HKC : Box (k = chn v.n l i) := ⟨by unfold chn at hk ⊢; rw [hvn] at hk ⊢; omega⟩
        have HI2 : Box _ := ⟨HCN.out wr (4 * i + k) hBs.out (by omega)⟩
        generalize hq : 4 * i + k = q at *
        refine wpIn_wide.2 ?_
        go_wp2_with (first
          | (go_at_call 84; refine HI2.out.mono ?_; rintro e x2 ⟨rfl, hb⟩; have HX2 : Box (J (fr k) x2) := ⟨abides HJ.out hJs.out hb⟩; clear hb)
          | (refine atLoad 74 ?_; refine wpList_ldMid rfl 74 _ _ rfl Tryz.underlying74 rfl V 34 rfl [.slice sa (wid vn).length sc] infoShp HR.out ?_))
        refine bodyPost_ret (results_none rfl _ _ _) rfl ?_
        exact ⟨⟨_, rfl⟩, .inl ⟨_, by rw [← HKC.out], HX2.out⟩⟩
    · have hk4 : decide ((k : Int) < 4) = false := by simp; omega
      have HKC : Box (k = chn v.n l i) := ⟨by omega⟩
      gi_wp2
      go_end0
      exact ⟨⟨_, rfl⟩, .inl ⟨_, by rw [← HKC.out], hJs.out⟩⟩
theorem below_stops (n : Nat) (hn : 1 ≤ n) (Bv Bi V D : Nat) (v : Vt) (ok : v.Ok) (sa : Option Addr) (sc : Nat) (l i : Nat) (hl : l + 1 ≤ topL v.n) (hi : i < wd v.n (l + 1)) (S : Nat → Prop) (hS : ∀ k, belS Bv Bi V sa k → S k) (w : World) (hB : Bel w Bv Bi V D v sa sc (itm v.n (l + 1) i)) :
    SeqStopsK Fence.wide n Tryz.prog 86 #[.pointer (some ⟨Bv, 0, none⟩), .pointer (some ⟨Bi, 0, none⟩)] (encB v.n l i) (Kps S) (fun ys => ys = fr (chn v.n l i)) (fun pre => ∃ k, k ≤ chn v.n l i ∧ pre = fr k) (chn v.n l i) w := fun lo J Jx W hW hJ _ hY h0 =>
  below1_in n hn lo Bv Bi V D v ok sa sc l i hl hi S hS J Jx W hJ hY (hB.below hW) h0
end Go.Proofs.YthbbijaikcmaeaaGreatDoor
namespace Go.Proofs.YthbbijaikcmaeaaGreatDoor
set_option maxRecDepth 100000
set_option linter.unusedVariables false
open Go.RowKit Go.Shelf Plain Go.Proofs.YthbbijaikcmaeaaGreatDoor.Shap.Plain
section
variable {P : Program} {t k e : TypeId}
theorem exec_look {o : Oper} {ρ : Operand → Value} {w : World} (m x : Operand) (ho : o.op = .lookup t m x false) (ht : P.underlying t = some (.map k e)) (hk : P.underlying k = some (.int .i64)) (z : Value) (hz : ∀ w : World, (zeroValue e).run P w = .ok z w) (b : Nat) (f : Int → Option Value) (hm : ρ m = .map (some b)) (hM : Mp w b f) (i : Int) (hx : ρ x = .int .i64 i) :
    (execOp ρ o).run P w = .ok (.value ((f i).getD z)) w := by
  have := hM.look ht hk z (hz w) i false
  unfold execOp
  simp only [ho, hm, hx, Sem.run_bind, this]
  rfl
theorem exec_lookOk {o : Oper} {ρ : Operand → Value} {w : World} (m x : Operand) (ho : o.op = .lookup t m x true) (ht : P.underlying t = some (.map k e)) (hk : P.underlying k = some (.int .i64)) (z : Value) (hz : ∀ w : World, (zeroValue e).run P w = .ok z w) (b : Nat) (f : Int → Option Value) (hm : ρ m = .map (some b)) (hM : Mp w b f) (i : Int) (hx : ρ x = .int .i64 i) :
    (execOp ρ o).run P w = .ok (.value (.tuple #[(f i).getD z, .bool (f i).isSome])) w := by
  have := hM.look ht hk z (hz w) i true
  unfold execOp
  simp only [ho, hm, hx, Sem.run_bind, this]
  rfl
theorem exec_put {o : Oper} {ρ : Operand → Value} {w : World} (m x y : Operand) (ho : o.op = .mapUpdate t m x y ∨ o.op = .insert t m x y) (ht : P.underlying t = some (.map k e)) (hk : P.underlying k = some (.int .i64)) (b : Nat) (f : Int → Option Value) (hm : ρ m = .map (some b)) (hM : Mp w b f) (i : Int) (hx : ρ x = .int .i64 i) :
    ∃ w', (execOp ρ o).run P w = .ok .skip w' ∧ Mp w' b (fput f i (ρ y)) ∧ But b w w' ∧ w'.heap.size = w.heap.size := by
  obtain ⟨w', h1, h2⟩ := hM.put ht hk i (ρ y)
  refine ⟨w', ?_, h2⟩
  unfold execOp
  rcases ho with ho | ho <;>
  · simp only [ho, hm, hx, Sem.run_bind, h1]
    rfl
variable {md : Region.Mode} {ops : Array Oper} {Q : Exit → Act → World → Prop}
theorem last_map {R : Nat} {i : Nat} {o : Oper} {fuel : Nat} {listed : Array Bool} {a : Act} {w : World} (ho : ops[i]? = some o) (hr : Region.ready md ops listed = [i]) (hw : Region.wanted o (yielded ops a.tmps) = true) (hd : Region.ready md ops (listed.setIfInBounds i true) = [])
    (m x y : Operand) (hop : o.op = .mapUpdate t m x y ∨ o.op = .insert t m x y) (ht : P.underlying t = some (.map k e)) (hk : P.underlying k = some (.int .i64)) (f : Int → Option Value) (hm : a.eval m = .map (some R)) (hM : Mp w R f) (j : Int) (hx : a.eval x = .int .i64 j) (v : Value) (hy : a.eval y = v)
    (h : ∀ w', Mp w' R (fput f j v) → But R w w' → w'.heap.size = w.heap.size → Q .normal (a.put o.dst undef) w') : wpAnyH P md ops Q (But R w) (fuel + 1) listed a w := by
  refine wpAnyH_all hr (by simp) (fun j' hj => ?_)
  simp only [List.mem_cons, List.not_mem_nil, or_false] at hj
  subst hj
  unfold wpOp
  simp only [ho, hw, if_true]
  obtain ⟨w', h1, h2, h3, h4⟩ := exec_put (ρ := a.eval) m x y hop ht hk R f hm hM j hx
  rw [hy] at h2
  refine .inl ?_
  unfold Oper.wp
  rw [h1]
  exact ⟨h3, wpAnyH_done hd (h w' h2 h3 h4) _⟩
end
theorem zeroRef (w : World) : (zeroValue 36).run Tryz.prog w = .ok (.agg (ra zr)) w := by kernel_rfl
theorem zeroNode (w : World) : (zeroValue 107).run Tryz.prog w = .ok (.agg (na zn)) w := by kernel_rfl
theorem zeroBytes (w : World) : (zeroValue 38).run Tryz.prog w = .ok (.slice none 0 0) w := by kernel_rfl
theorem range_simple {α : Type} {n : Nat} {g : Operand} {ps : Array Tmp} {assign body : Code} {Q : Exit → Act → World → Prop} {a : Act} {w : World} (S : Nat → Prop)
    (h1 : 1 ≤ n) {gf : Nat} {lb : Array Value} (hg : a.eval g = .func (.func gf) #[] lb) (eg : ∀ args w, (callFunc gf args).run Tryz.prog w = .ok (.enter gf args) w)
    {encs : α → Array Value} {T Tp : List α → Prop} {N : Nat} (hseq : SeqStopsK Fence.wide (n - 1) Tryz.prog gf lb encs (Kps S) T Tp N w) (hps : ∀ x, (encs x).size = ps.size)
    (I : List α → World → Prop) (Ix : Code → List α → World → Prop) (hI : OwnFrom w.heap.size I) (hIx : ∀ c, OwnFrom w.heap.size (Ix c)) (h0 : I [] w) (asg : Act → α → Act)
    (hassign : ∀ (l : Nat) (x : α) (W : World) (K : Act → World → Prop), K (asg a x) W →
      assign.wpIn (Fence.wide.inRound l) (n - 1 - 1) Tryz.prog (Exit.then K (fun _ _ _ => False)) { tmps := (ps.zip (encs x)).foldl (fun t (p, v) => t.setIfInBounds p v) a.tmps, defers := [] } W)
    (hbody : ∀ (l : Nat) (pre : List α) (x : α) (W : World), w.heap.size ≤ l → (∃ r, W.heap[l]? = some (.loop r)) → I pre W → pre.length < N → body.wpIn (Fence.wide.inRound l) (n - 1 - 1) Tryz.prog (ownPostG w.heap.size (Kps S) I Ix (pre ++ [x]) W) (asg a x) W)
    (hdone : ∀ (D : Nat) (xs : List α) (W : World), w.heap.size ≤ D → T xs → I xs W → W.heap[D]? = some (.deferred (some [])) → Q .normal { a with defers := { target := .collected D, args := #[] } :: a.defers } W)
    (hstop : ∀ (D : Nat) (c : Code) (pre : List α) (W : World), w.heap.size ≤ D → Tp pre → Ix c pre W → W.heap[D]? = some (.deferred (some [])) → c.wpIn Fence.wide n Tryz.prog Q { a with defers := { target := .collected D, args := #[] } :: a.defers } W) :
    (Code.rangeFunc g ps assign body).wpIn Fence.wide n Tryz.prog Q a w :=
  wpIn_rangeFunc_ownH rfl h1 hg trivial eg hseq kps_t (fun W l o o' h1 h2 h3 h4 => kps_b W l o o' h1 h2 h3 h4) (Below.refl _ _) hps I Ix hI hIx h0 (fun x a' _ => a' = asg a x) (fun x a' _ X Y row hs _ _ => hs)
    (fun l pre x W K hIp hK => hassign l x W K (hK _ _ (KeepsFrom.refl _ _) (Kps.refl _ _) hIp rfl))
    (fun l pre x a' W hl hr hIp hx hlt => by subst hx; exact hbody l pre x W hl hr hIp hlt) hdone hstop
theorem getM_len (K : List Int) (n : Nat) (d : Disk.Dk) (l i : Nat) (r : Rf) (h : (getM (Yk K) Xd n d l i r).2.1 = 0) : (getM (Yk K) Xd n d l i r).2.2.length = 160 := by
  unfold getM at h ⊢
  by_cases h0 : r.s = 0
  · simp [h0, y160]
  · simp only [h0, if_false] at h ⊢
    by_cases h1 : (Xd.rd d (pc n l i r)).2.1 ≠ 0
    · rw [if_pos h1] at h
      exact absurd h h1
    · rw [if_neg h1] at h ⊢
      by_cases h2 : r.d = (Yk K).hs l (pc n l i r) (Xd.rd d (pc n l i r)).2.2
      · simp only [if_pos h2] at h ⊢
        by_cases hF : Seal.Fit (Xd.rd d (pc n l i r)).2.2 160
        · have ho : (Yk K).op (pc n l i r) (Xd.rd d (pc n l i r)).2.2 = some (num (Xd.rd d (pc n l i r)).2.2 0 8, Seal.op K (pc n l i r : Nat) (Xd.rd d (pc n l i r)).2.2 160) := if_pos hF
          rw [ho] at h ⊢
          simp only at h ⊢
          split at h
          · rename_i h3
            rw [if_pos h3]
            exact Seal.length_op _ _ _ _
          · simp at h
        · have ho : (Yk K).op (pc n l i r) (Xd.rd d (pc n l i r)).2.2 = none := if_neg hF
          rw [ho] at h
          simp at h
      · simp [if_neg h2] at h
def fputs (n l i : Nat) (N : List Rf) (f : Int → Option Value) (ks : List (Fin 4)) : Int → Option Value := ks.foldl (fun g k => fput g (itm n l (4 * i + k.val) : Nat) (.agg (ra (N.getD k.val zr)))) f
theorem fputs_snoc (n l i : Nat) (N : List Rf) (f : Int → Option Value) (ks : List (Fin 4)) (k : Fin 4) : fputs n l i N f (ks ++ [k]) = fput (fputs n l i N f ks) (itm n l (4 * i + k.val) : Nat) (.agg (ra (N.getD k.val zr))) := by simp [fputs]
end Go.Proofs.YthbbijaikcmaeaaGreatDoor
