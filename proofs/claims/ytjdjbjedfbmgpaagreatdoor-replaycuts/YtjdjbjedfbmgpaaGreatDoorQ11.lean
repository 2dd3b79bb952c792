/-
 The reference of layer 6: its disk as a value, in a box of its own; noted, fits, At, New. And what follows it.
-/
import Derived.Laws.ResultCell
import Derived.Laws.Tables
import Derived.Test.YtjdjbjedfbmgpaaGreatDoorQ10
import Derived.Deep.WholeRow
set_option linter.unusedVariables false
set_option maxRecDepth 100000
set_option maxRecDepth 100000
namespace Go.Proofs.YtjdjbjedfbmgpaaGreatDoor.Disk.Plain
end Go.Proofs.YtjdjbjedfbmgpaaGreatDoor.Disk.Plain
namespace Go.Proofs.YtjdjbjedfbmgpaaGreatDoor.Disk
open Go.RowKit Go.Proofs.YtjdjbjedfbmgpaaGreatDoor.Plain Go.Proofs.YtjdjbjedfbmgpaaGreatDoor.Disk.Plain
def rv (n : Nat) (vd vw : Value) (l : Int) (b : Bool) (vo : Value) : List Value := [.int .i64 (n : Int), vd, vw, .int .i64 l, .bool b, vo]
def Rv (w : World) (v : Value) (r : Rd) : Prop := ∃ vd vw vo, v = .agg (rv r.n vd vw r.left r.down vo).toArray /\ Rw w vd r.done /\ Rw w vw r.way /\ Ro w vo r.ops
theorem Rv.below {w w' : World} {v : Value} {r : Rd} (h : Rv w v r) (hb : Below w.heap.size w w') : Rv w' v r := by
 obtain ⟨vd, vw, vo, rfl, h1, h2, h3⟩ := h
 exact ⟨vd, vw, vo, rfl, h1.below hb, h2.below hb, h3.below hb⟩
theorem one_own {w : World} {base n : Nat} {e : TypeId} {sz : Nat} {v : Value} {xs : List Value} (h : w.ownsRow base e sz v n xs) : v.oneCell' = true := by
 obtain ⟨a, c, rfl⟩ := own_form2 h
 rfl
theorem one_rv {n : Nat} {vd vw vo : Value} {l : Int} {b : Bool} (h1 : vd.oneCell' = true) (h2 : vw.oneCell' = true) (h3 : vo.oneCell' = true) : (rv n vd vw l b vo).toArray.all (·.oneCell') = true := by
 have e1 : (Value.int .i64 (n : Int)).oneCell' = true := rfl
 have e2 : (Value.int .i64 l).oneCell' = true := rfl
 have e3 : (Value.bool b).oneCell' = true := rfl
 simp [rv, h1, h2, h3, e1, e2, e3]
theorem infoD : (Tryz.prog.info? 36).map (·.size) = some 6 := by kernel_rfl
theorem own_turned {w w' : World} {base n : Nat} {e : TypeId} {sz : Nat} {v : Value} {xs : List Value} {fp : Nat -> Prop} (h : w.ownsRow base e sz v n xs) (t : Turned fp w w') (hn : ∀ k, v.ownBlock = some k -> ¬ fp k) : w'.ownsRow base e sz v n xs := own_same h (fun k hk => t.block k (h.lt k hk).2 (hn k hk))
def Two (S : Nat) (k : Nat) : Prop := k = S ∨ k = S + 1
structure Bx (S : Nat) (w0 w : World) (V : List Value) : Prop where
 hB : w.heap[S]? = some (.cells V.toArray 36 (0, 0))
 hR : ∃ Z : Array Value, w.heap[S + 1]? = some (.cells Z 36 (0, 0)) /\ Z.size = 6
 tu : Turned (Two S) w0 w
 sz : w0.heap.size = S
theorem Bx.lt {S : Nat} {w0 w : World} {V : List Value} (h : Bx S w0 w V) : S + 1 < w.heap.size := by
 obtain ⟨Z, h1, _⟩ := h.hR
 exact (Array.getElem?_eq_some_iff.1 h1).1
theorem Bx.below {S : Nat} {w0 w : World} {V : List Value} (h : Bx S w0 w V) : Below S w0 w := h.tu.below (by rw [h.sz]; exact Nat.le_refl _) (fun k hk => by rcases hk with rfl | rfl <;> omega)
theorem Bx.cell {S : Nat} {w0 w : World} {V : List Value} (h : Bx S w0 w V) (k : Nat) : w.cell? ⟨S, k, none⟩ = V.toArray[k]? := cell_of_row _ _ _ _ _ _ h.hB
theorem Bx.froz {S : Nat} {w0 w : World} {V : List Value} (h : Bx S w0 w V) (k : Nat) : w.frozen? ⟨S, k, none⟩ = false := frozen_of_row _ _ _ _ _ h.hB
theorem Bx.start (w : World) (V : List Value) (Z : Array Value) (hZ : Z.size = 6) : Bx w.heap.size w ((w.alloc (.cells V.toArray 36)).alloc (.cells Z 36)) V :=
 ⟨al_old (al_at rfl), ⟨Z, al_at (by simp), hZ⟩, Turned.of_below (((Below.refl _ w).alloc (Nat.le_refl _) _).alloc (by simp) _), rfl⟩
theorem Bx.on {S : Nat} {w0 w w' : World} {V : List Value} (h : Bx S w0 w V) (hb : Below w.heap.size w w') : Bx S w0 w' V := by
 obtain ⟨Z, h1, h2⟩ := h.hR
 have hl := h.lt
 exact ⟨(hb.block S (by omega)).trans h.hB, ⟨Z, (hb.block (S + 1) (by omega)).trans h1, h2⟩, h.tu.trans (Turned.of_below (fp := fun _ => False) hb) (fun k hk => hk.elim), h.sz⟩
theorem Bx.put {S : Nat} {w0 w : World} {V : List Value} (h : Bx S w0 w V) (k : Nat) (v : Value) : Bx S w0 (w.setCell ⟨S, k, none⟩ v) (V.set k v) := by
 obtain ⟨Z, h1, h2⟩ := h.hR
 refine ⟨?_, ⟨Z, (heap_setCell_other w ⟨S, k, none⟩ (S + 1) _ (by simp)).trans h1, h2⟩, turned_set h.tu (.inl rfl) v, h.sz⟩
 have := heap_setCell_same w S k _ _ v h.hB
 simpa using this
theorem wpList_stD {ops : Array Oper} {rest : List Oper} {o : Oper} {act : Act} {w : World} {Q : Exit -> Act -> World -> Prop} (hgd : o.guard = none) (x y : Operand) (ho : o.op = .store 36 x y) (S : Nat) (w0 : World) (V V' : List Value) (hx : act.eval x = .pointer (some ⟨S + 1, 0, none⟩)) (hy : act.eval y = .agg V'.toArray)
  (H : Bx S w0 w V) (hV : V'.length = 6) (h1 : V'.toArray.all (·.oneCell') = true)
  (h : ∀ w', w'.heap[S + 1]? = some (.cells V'.toArray 36 (0, 0)) -> Bx S w0 w' V -> Turned (fun k => k = S + 1) w w' -> wpList Tryz.prog ops Q rest (act.put o.dst undef) w') : wpList Tryz.prog ops Q (o :: rest) act w := by
 obtain ⟨Z, hR, hZ⟩ := H.hR
 have hr := run_storeVar_row (P := Tryz.prog) w (S + 1) _ 36 Z V'.toArray hR (by rw [infoD]; simp [hV]) (by simp [hZ, hV]) h1
 have t : Turned (fun k => k = S + 1) w (w.setRow (S + 1) V'.toArray) := ⟨rfl, rfl, rfl, by simp, fun k _ hk => setRow_other w (S + 1) k _ hk⟩
 refine wpList_plain hgd fun _ hK => ?_
 unfold Oper.wp execOp
 simp only [ho, hx, hy, Instr.storeAt, Instr.sureAddr, Sem.run_bind, Sem.run_pure, Result.andThen_ok, hr]
 refine hK _ _ (h _ (setRow_heap w (S + 1) Z _ _ _ hR) ⟨(setRow_other w (S + 1) S _ (by omega)).trans H.hB, ⟨_, setRow_heap w (S + 1) Z _ _ _ hR, by simp [hV]⟩, H.tu.trans t (fun k hk => .inl (.inr hk)), H.sz⟩ t)
theorem results_D {fn : Func} {t : Tmp} (h : fn.results = #[.cell t 36]) (tmps : Array Value) (w : World) (b : Nat) (V : List Value) (ht : tmps.getD t undef = .pointer (some ⟨b, 0, none⟩)) (hV : V.length = 6) (hg : w.heap[b]? = some (.cells V.toArray 36 (0, 0))) :
  (results fn tmps).run Tryz.prog w = .ok (.agg V.toArray) w :=
 results_cell_row h tmps w b _ _ _ _ ht hg Tryz.underlying36 rfl (by rw [infoD]; simp [hV])
theorem results_D2 {fn : Func} {t u : Tmp} (h : fn.results = #[.cell t 36, .tmp u]) (tmps : Array Value) (w : World) (b : Nat) (V : List Value) (ht : tmps.getD t undef = .pointer (some ⟨b, 0, none⟩)) (hV : V.length = 6) (hg : w.heap[b]? = some (.cells V.toArray 36 (0, 0))) :
  (results fn tmps).run Tryz.prog w = .ok (.tuple #[.agg V.toArray, tmps.getD u undef]) w := by
 have hl := run_loadVar_row (P := Tryz.prog) w b _ 36 _ _ _ hg Tryz.underlying36 rfl (by rw [infoD]; simp [hV])
 rw [results_cell_tmp h, ht]
 simp [asAddr, hl]
theorem results_D3 {fn : Func} {t u q : Tmp} (h : fn.results = #[.cell t 36, .tmp u, .tmp q]) (tmps : Array Value) (w : World) (b : Nat) (V : List Value) (ht : tmps.getD t undef = .pointer (some ⟨b, 0, none⟩)) (hV : V.length = 6) (hg : w.heap[b]? = some (.cells V.toArray 36 (0, 0))) :
  (results fn tmps).run Tryz.prog w = .ok (.tuple #[.agg V.toArray, tmps.getD u undef, tmps.getD q undef]) w := by
 have hl := run_loadVar_row (P := Tryz.prog) w b _ 36 _ _ _ hg Tryz.underlying36 rfl (by rw [infoD]; simp [hV])
 simp only [Array.getD_eq_getD_getElem?] at ht
 simp [results, h, ht, hl, asAddr]
theorem wpList_ldD {ops : Array Oper} {rest : List Oper} {o : Oper} {act : Act} {w : World} {Q : Exit -> Act -> World -> Prop} (hgd : o.guard = none) (x : Operand) (ho : o.op = .load 36 x) (S : Nat) (V : List Value) (hx : act.eval x = .pointer (some ⟨S, 0, none⟩)) (hB : w.heap[S]? = some (.cells V.toArray 36 (0, 0))) (hV : V.length = 6)
  (h : wpList Tryz.prog ops Q rest (act.put o.dst (.agg V.toArray)) w) : wpList Tryz.prog ops Q (o :: rest) act w :=
 wpList_load_row hgd 36 x ho S hx _ _ _ _ hB Tryz.underlying36 rfl (by rw [infoD]; simp [hV]) h
theorem app_end {S : Nat} {w0 w1 w2 w3 : World} {V : List Value} {e : TypeId} {sz n : Nat} {xs : List Value} {v2 v3 : Value} {o : Obj} (H : Bx S w0 w1 V) (hb : Below w1.heap.size w1 w2) (hv : ∀ k, v2.ownBlock = some k -> w1.heap.size <= k) (hown : w3.ownsRow 0 e sz v3 n xs) (hg : (w2.alloc o).grownBy w3 v2.ownBlock) (hblk : ∀ k, v3.ownBlock = some k -> v2.ownBlock = some k ∨ (w2.alloc o).heap.size <= k) :
  Box (w3.ownsRow 0 e sz v3 n xs /\ Bx S w0 w3 V /\ ∀ k, v3.ownBlock = some k -> S + 2 <= k) := by
 have hl := H.lt
 have hs := hb.size
 have hb3 : Below w1.heap.size w1 w3 := (hb.alloc hs _).grown hg (by simp; omega) (fun k hk => hv k hk)
 refine ⟨hown, H.on hb3, fun k hk => ?_⟩
 rcases hblk k hk with h | h
 ·have := hv k h; omega
 ·simp at h; omega
set_option maxRecDepth 20000 in
set_option maxHeartbeats 2000000 in
theorem rnoted_any (w : World) (n : Nat) (vd vw vo : Value) (l : Int) (b : Bool) (L : List (Int × Int)) (k i : Int) (hd : vd.oneCell' = true) (hw : vw.oneCell' = true) (h : Ro w vo L) (hl : L.length < 1000000) :
  Calls Tryz.prog 52 #[.agg (rv n vd vw l b vo).toArray, .int .i64 k, .int .i64 i] w fun e w' => ∃ v', e = .returned (.agg (rv n vd vw l b v').toArray) /\ Ro w' v' (L ++ [(k, i)]) /\ Below w.heap.size w w' /\ ∀ k, v'.ownBlock = some k -> w.heap.size <= k := by
 obtain ⟨a, cap, rfl⟩ := own_form2 h
 have H : Box (Bx w.heap.size w ((w.alloc (.cells (rv n vd vw l b (.slice a L.length cap)).toArray 36)).alloc (.cells #[.int .i64 0, .slice none 0 0, .slice none 0 0, .int .i64 0, .bool false, .slice none 0 0] 36)) (rv n vd vw l b (.slice a L.length cap))) := ⟨Bx.start w _ _ rfl⟩
 have HO : Box (Ro w (.slice a L.length cap) L) := ⟨h⟩
 have HB1 : Box ((0 + L.length) * 16 <= 140737488355328 /\ (L.length + 1) * 16 <= 140737488355328) := ⟨by omega, by omega⟩
 have H1 : Box (vd.oneCell' = true /\ vw.oneCell' = true) := ⟨hd, hw⟩
 obtain ⟨S, HS⟩ : ∃ S, Box (w.heap.size = S) := ⟨_, ⟨rfl⟩⟩
 clear h hl hd hw
 go_enter Tryz.func52, Tryz.ntmps52
 go_upto_region 1 with fail
 rw [HS.out] at H ⊢
 generalize (w.alloc (.cells (rv n vd vw l b (.slice a L.length cap)).toArray 36)).alloc (.cells #[.int .i64 0, .slice none 0 0, .slice none 0 0, .int .i64 0, .bool false, .slice none 0 0] 36) = w1 at H ⊢
 have c5 : w1.cell? ⟨S, 5, none⟩ = some (.slice a L.length cap) := H.out.cell 5
 have HO1 : Box (Ro w1 (.slice a L.length cap) L) := ⟨HO.out.below (HS.out ▸ H.out.below)⟩
 go_upto_region 3 with (at_builtin; refine wpList_appv rfl _ _ 34 rfl 166 2 16 (.agg (oc (0, 0)).toArray) Tryz.underlying34 infoO rfl (by decide) (.slice none 0 0) (.slice a L.length cap) 0 L.length [] (ocs L) rfl rfl (World.ownsRow_nil _ _ _ _) HO1.out (one_ocs L) (by decide) HB1.out.1 ?_; intro v2 w2 hown hgr hblk; rw [Nat.zero_add, List.nil_append] at hown; have H2 : Box (w2.ownsRow 0 166 2 v2 L.length (ocs L) /\ Below w1.heap.size w1 w2 /\ ∀ k, v2.ownBlock = some k -> w1.heap.size <= k) := ⟨hown, (Below.refl _ _).grown hgr (Nat.le_refl _) (fun k hk => by simp [Value.ownBlock] at hk), fun k hk => (hblk k hk).elim (fun h => by simp [Value.ownBlock] at h) id⟩; obtain ⟨a2, c2, rfl⟩ := own_form2 hown; clear hown hgr hblk)
 have H3 : Box (Bx S w w2 (rv n vd vw l b (.slice a L.length cap))) := ⟨H.out.on H2.out.2.1⟩
 clear c5
 go_upto_region 4 with (at_builtin; refine wpList_app2 rfl _ _ 34 rfl 166 2 16 (.agg (oc (0, 0)).toArray) Tryz.underlying34 infoO rfl (by decide) (.slice a2 L.length c2) L.length (ocs L) rfl (H2.out.1.alloc _) ⟨w2.heap.size, 0, none⟩ 1 1 (oc (k, i)) rfl rfl (news_new w2 (oc (k, i)) _) (one_oc _) HB1.out.2 (by decide) ?_; intro v3 w3 hown hgr hblk; have H4 : Box (w3.ownsRow 0 166 2 v3 (L.length + 1) (ocs L ++ oc (k, i)) /\ Bx S w w3 (rv n vd vw l b (.slice a L.length cap)) /\ ∀ k, v3.ownBlock = some k -> S + 2 <= k) := app_end H.out H2.out.2.1 H2.out.2.2 hown hgr hblk; obtain ⟨a3, c3, rfl⟩ := own_form2 hown; have c5 : w3.cell? ⟨S, 5, none⟩ = some (.slice a L.length cap) := H4.out.2.1.cell 5; have f5 := H4.out.2.1.froz 5; clear hown hgr hblk)
 have H5 : Box (Bx S w (w3.setCell ⟨S, 5, none⟩ (.slice a3 (L.length + 1) c3)) (rv n vd vw l b (.slice a3 (L.length + 1) c3))) := ⟨H4.out.2.1.put 5 _⟩
 have H6 : Box ((w3.setCell ⟨S, 5, none⟩ (.slice a3 (L.length + 1) c3)).ownsRow 0 166 2 (.slice a3 (L.length + 1) c3) (L.length + 1) (ocs L ++ oc (k, i)) /\ ∀ k, (Value.slice a3 (L.length + 1) c3).ownBlock = some k -> S + 2 <= k) := ⟨own_turned H4.out.1 (turned_set (Turned.refl _ _) (fp := fun k => k = S) rfl _) (fun k hk e => by have := H4.out.2.2 k hk; omega), H4.out.2.2⟩
 clear c5 f5 H4
 generalize w3.setCell ⟨S, 5, none⟩ (.slice a3 (L.length + 1) c3) = w4 at H5 H6 ⊢
 go_wp2_with (first
  | (refine wpList_ldD rfl _ rfl S (rv n vd vw l b (.slice a3 (L.length + 1) c3)) rfl H5.out.hB rfl ?_)
  | (refine wpList_stD rfl _ _ rfl S w _ (rv n vd vw l b (.slice a3 (L.length + 1) c3)) rfl rfl H5.out rfl (one_rv H1.out.1 H1.out.2 rfl) ?_; intro w5 h5 b5 t5))
 (try simp only [Exit.inBlock, Exit.then])
 refine bodyPost_ret (results_D rfl _ _ (S + 1) _ rfl rfl h5) rfl ?_
 refine ⟨_, rfl, ?_, HS.out ▸ b5.below, fun k hk => by have := H6.out.2 k hk; have := HS.out; omega⟩
 unfold Ro
 rw [ocs_snoc, List.length_append]
 exact own_turned H6.out.1 t5 (fun k hk e => by have := H6.out.2 k hk; omega)
end Go.Proofs.YtjdjbjedfbmgpaaGreatDoor.Disk
namespace Go.Proofs.YtjdjbjedfbmgpaaGreatDoor.Disk.Plain
end Go.Proofs.YtjdjbjedfbmgpaaGreatDoor.Disk.Plain
namespace Go.Proofs.YtjdjbjedfbmgpaaGreatDoor.Disk
open Go.RowKit Go.Proofs.YtjdjbjedfbmgpaaGreatDoor.Plain Go.Proofs.YtjdjbjedfbmgpaaGreatDoor.Disk.Plain
def rfit (n : Nat) (i : Int) (len : Nat) : Int := if decide (0 <= i /\ i < (n : Int)) then (if len = 192 then 0 else 1) else 12
theorem box_cells {w : World} {V : List Value} {t : TypeId} (k : Nat) : (w.alloc (.cells V.toArray t)).cell? ⟨w.heap.size, k, none⟩ = V.toArray[k]? := cell_of_row _ _ _ _ _ _ (al_at rfl)
set_option maxRecDepth 20000 in
set_option maxHeartbeats 2000000 in
theorem rfits_any (w : World) (n : Nat) (vd vw vo : Value) (l : Int) (b : Bool) (i : Int) (s : ByteArray) (len : Nat) (hs : s.size = len) :
  Calls Tryz.prog 50 #[.agg (rv n vd vw l b vo).toArray, .int .i64 i, .string s] w fun e w' => e = .returned (.int .i64 (rfit n i len)) /\ Below w.heap.size w w' := by
 have H : Box ((w.alloc (.cells (rv n vd vw l b vo).toArray 36)).cell? ⟨w.heap.size, 0, none⟩ = some (.int .i64 (n : Int))) := ⟨box_cells 0⟩
 have HB : Box (Below w.heap.size w (w.alloc (.cells (rv n vd vw l b vo).toArray 36))) := ⟨(Below.refl _ w).alloc (Nat.le_refl _) _⟩
 have E : Box (rfit n i len = if decide (0 <= i /\ i < (n : Int)) then (if len = 192 then 0 else 1) else 12) := ⟨rfl⟩
 obtain ⟨S, HS⟩ : ∃ S, Box (w.heap.size = S) := ⟨_, ⟨rfl⟩⟩
 go_enter Tryz.func50, Tryz.ntmps50
 go_upto_region 1 with fail
 rw [HS.out] at H HB ⊢
 generalize w.alloc (.cells (rv n vd vw l b vo).toArray 36) = w1 at H HB ⊢
 have c0 := H.out
 by_cases h0 : 0 <= i
 ·have d0 : decide (i < 0) = false := by simpa using h0
  by_cases h1 : i < (n : Int)
  ·have d1 : decide ((n : Int) <= i) = false := by simpa using h1
   by_cases hl : len = 192
   ·have hl' : ((s.size : Int) == 192) = true := by simp [hs, hl]
    go_wp2
    go_ret
    exact ⟨by rw [E.out]; simp [h0, h1, hl], HS.out ▸ HB.out⟩
   ·have hl' : ((s.size : Int) == 192) = false := by simp [hs]; omega
    go_wp2
    go_ret
    exact ⟨by rw [E.out]; simp [h0, h1, hl], HS.out ▸ HB.out⟩
  ·have d1 : decide ((n : Int) <= i) = true := by simp; omega
   go_wp2
   go_ret
   exact ⟨by rw [E.out, if_neg (by simp; omega)]; rfl, HS.out ▸ HB.out⟩
 ·have d0 : decide (i < 0) = true := by simp; omega
  go_wp2
  go_ret
  exact ⟨by rw [E.out, if_neg (by simp; omega)]; rfl, HS.out ▸ HB.out⟩
def rat (L : List (Nat × List Int)) (i : Nat) : List Int := (lastOf L i).getD z192
set_option maxRecDepth 20000 in
set_option maxHeartbeats 2000000 in
theorem rat_any (w : World) (n : Nat) (vd vw vo : Value) (l : Int) (b : Bool) (L : List (Nat × List Int)) (i : Nat) (h : Rw w vd L) (hl : L.length < 1000000) :
  Calls Tryz.prog 85 #[.agg (rv n vd vw l b vo).toArray, .int .i64 (i : Int)] w fun e w' => e = .returned (.string (strOfNums (rat L i))) /\ Below w.heap.size w w' := by
 have HB : Box (Below w.heap.size w (w.alloc (.cells (rv n vd vw l b vo).toArray 36))) := ⟨(Below.refl _ w).alloc (Nat.le_refl _) _⟩
 have H : Box ((w.alloc (.cells (rv n vd vw l b vo).toArray 36)).cell? ⟨w.heap.size, 1, none⟩ = some vd) := ⟨box_cells 1⟩
 have HW : Box (Calls Tryz.prog 84 #[vd, .int .i64 (i : Int)] (w.alloc (.cells (rv n vd vw l b vo).toArray 36)) fun e w' => e = .returned (lst L i) /\ w.alloc (.cells (rv n vd vw l b vo).toArray 36) = w') := ⟨rlast_any _ vd L i (h.below HB.out) hl⟩
 have HZ : Box (w.heap.size <= (w.alloc (.cells (rv n vd vw l b vo).toArray 36)).heap.size) := ⟨by simp⟩
 obtain ⟨a, cap, rfl⟩ := own_form2 h
 obtain ⟨S, HS⟩ : ∃ S, Box (w.heap.size = S) := ⟨_, ⟨rfl⟩⟩
 clear h hl
 go_enter Tryz.func85, Tryz.ntmps85
 go_upto_region 1 with fail
 rw [HS.out] at H HB HZ ⊢
 generalize w.alloc (.cells (rv n (.slice a L.length cap) vw l b vo).toArray 36) = w1 at H HB HW HZ ⊢
 have c1 := H.out
 cases hlo : lastOf L i with
 | some B =>
  have e1 : Box (lst L i = .tuple #[.string (strOfNums B), .bool true] /\ rat L i = B) := ⟨by rw [lst, hlo], by rw [rat, hlo]; rfl⟩
  rw [e1.out.1] at HW
  clear hlo
  go_wp2_with (go_at_call 84; refine HW.out.mono ?_; rintro e w' ⟨rfl, rfl⟩)
  go_ret
  exact ⟨by rw [e1.out.2]; rfl, HS.out ▸ HB.out⟩
 | none =>
  have e1 : Box (lst L i = .tuple #[.string ByteArray.empty, .bool false] /\ rat L i = z192) := ⟨by rw [lst, hlo], by rw [rat, hlo]; rfl⟩
  rw [e1.out.1] at HW
  clear hlo
  have HC : Box (Bytes (w1.alloc (.cells (u8s z192) 5)) (some ⟨w1.heap.size, 0, none⟩) 192 z192) := ⟨by have := bytes_of_row (w := w1.alloc (.cells (u8s z192) 5)) (g := w1.heap.size) (t := 5) (fr := (0, 0)) byt_z192 (al_at rfl); rwa [length_z192] at this⟩
  have HE : Box (Below S w (w1.alloc (.cells (u8s z192) 5))) := ⟨HB.out.alloc HZ.out _⟩
  go_wp2_with (first
   | (go_at_call 84; refine HW.out.mono ?_; rintro e w' ⟨rfl, rfl⟩)
   | (refine wpList_run rfl _ _ (exec_make192 _ _ rfl rfl rfl) ?_)
   | (refine wpList_run rfl _ _ (exec_conv _ rfl rfl HC.out) ?_))
  go_ret
  exact ⟨by rw [e1.out.2]; rfl, HS.out ▸ HE.out⟩
def rd0 (n : Nat) : Rd := ⟨n, [], [], -1, false, []⟩
theorem Rw.nil (w : World) : Rw w (.slice none 0 0) [] := World.ownsRow_nil _ _ _ _
theorem Ro.nil (w : World) : Ro w (.slice none 0 0) [] := World.ownsRow_nil _ _ _ _
theorem newD (w : World) (Z V : List Value) (hZ : Z.length = 6) (hV : V.length = 6) (h1 : V.toArray.all (·.oneCell') = true) : (storeVar 36 ⟨w.heap.size, 0, none⟩ (.agg V.toArray)).run Tryz.prog (w.alloc (.cells Z.toArray 36)) = .ok () (w.alloc (.cells V.toArray 36)) := by
 have := run_storeVar_row (P := Tryz.prog) (w.alloc (.cells Z.toArray 36)) w.heap.size _ 36 Z.toArray V.toArray (al_at rfl) (by rw [infoD]; simp [hV]) (by simp [hZ, hV]) h1
 rw [this, World.setRow_alloc_new]
theorem wpList_stN {ops : Array Oper} {rest : List Oper} {o : Oper} {act : Act} {w : World} {Q : Exit -> Act -> World -> Prop} (hgd : o.guard = none) (x y : Operand) (ho : o.op = .store 36 x y) (Z V : List Value) (hx : act.eval x = .pointer (some ⟨w.heap.size, 0, none⟩)) (hy : act.eval y = .agg V.toArray)
  (hZ : Z.length = 6) (hV : V.length = 6) (h1 : V.toArray.all (·.oneCell') = true)
  (h : wpList Tryz.prog ops Q rest (act.put o.dst undef) (w.alloc (.cells V.toArray 36))) : wpList Tryz.prog ops Q (o :: rest) act (w.alloc (.cells Z.toArray 36)) := by
 refine wpList_plain hgd fun _ hK => ?_
 unfold Oper.wp execOp
 simp only [ho, hx, hy, Instr.storeAt, Instr.sureAddr, Sem.run_bind, Sem.run_pure, Result.andThen_ok, newD w Z V hZ hV h1]
 exact hK _ _ h
theorem zeroD : (Tryz.prog.info? 36).map (·.zero) = some (some (.agg (rv 0 (.slice none 0 0) (.slice none 0 0) 0 false (.slice none 0 0)).toArray)) := by kernel_rfl
set_option maxRecDepth 20000 in
set_option maxHeartbeats 2000000 in
theorem rnew_any (w : World) (n : Nat) (hn : 1 <= n /\ n <= 4096) : Calls Tryz.prog 7 #[.int .i64 (n : Int)] w fun e w' => ∃ v, e = .returned (.tuple #[v, .int .i64 0]) /\ Rv w' v (rd0 n) /\ Below w.heap.size w w' := by
 have HB : Box (Below w.heap.size w (w.alloc (.cells (rv n (.slice none 0 0) (.slice none 0 0) (-1) false (.slice none 0 0)).toArray 36))) := ⟨(Below.refl _ w).alloc (Nat.le_refl _) _⟩
 have h1 : decide ((n : Int) < 1) = false := by simp; omega
 have h2 : decide (4096 < (n : Int)) = false := by simp; omega
 clear hn
 go_enter Tryz.func7, Tryz.ntmps7
 go_wp2_with (first
  | (refine wpList_run rfl _ _ (exec_alloc 36 rfl _ zeroD) ?_)
  | (refine wpList_stN rfl _ _ rfl _ (rv n (.slice none 0 0) (.slice none 0 0) (-1) false (.slice none 0 0)) rfl rfl rfl rfl (one_rv rfl rfl rfl) ?_))
 (try simp only [Exit.inBlock, Exit.then])
 refine bodyPost_ret (results_D2 rfl _ _ w.heap.size (rv n (.slice none 0 0) (.slice none 0 0) (-1) false (.slice none 0 0)) rfl rfl (al_at rfl)) rfl ?_
 exact ⟨_, rfl, ⟨_, _, _, rfl, Rw.nil _, Rw.nil _, Ro.nil _⟩, HB.out⟩
theorem Bx.old {S : Nat} {w0 w' : World} {V : List Value} (h : Bx S w0 w' V) {base n : Nat} {e : TypeId} {sz : Nat} {v : Value} {xs : List Value} (h1 : w0.ownsRow base e sz v n xs) : w'.ownsRow base e sz v n xs :=
 own_turned h1 h.tu (fun k hk e => by have := (h1.lt k hk).2; have := h.sz; rcases e with rfl | rfl <;> omega)
theorem own_new {S : Nat} {w w' : World} {base n : Nat} {e : TypeId} {sz : Nat} {v : Value} {xs : List Value} {fp : Nat -> Prop} (h1 : w.ownsRow base e sz v n xs) (t : Turned fp w w') (hf : ∀ k, fp k -> k < S + 2) (hk : ∀ k, v.ownBlock = some k -> S + 2 <= k) : w'.ownsRow base e sz v n xs :=
 own_turned h1 t (fun k hk' e => by have := hk k hk'; have := hf k e; omega)
end Go.Proofs.YtjdjbjedfbmgpaaGreatDoor.Disk
namespace Go.Proofs.YtjdjbjedfbmgpaaGreatDoor.Disk.Plain
end Go.Proofs.YtjdjbjedfbmgpaaGreatDoor.Disk.Plain
namespace Go.Proofs.YtjdjbjedfbmgpaaGreatDoor.Disk
open Go.RowKit Go.Proofs.YtjdjbjedfbmgpaaGreatDoor.Plain Go.Proofs.YtjdjbjedfbmgpaaGreatDoor.Disk.Plain
set_option maxRecDepth 20000 in
set_option maxHeartbeats 2000000 in
theorem rwrite_down (w : World) (n : Nat) (vd vw vo : Value) (l : Int) (hd : vd.oneCell' = true) (hw : vw.oneCell' = true) (ho : vo.oneCell' = true) (i : Int) (s : ByteArray) :
  Calls Tryz.prog 23 #[.agg (rv n vd vw l true vo).toArray, .int .i64 i, .string s] w fun e w' => e = .returned (.tuple #[.agg (rv n vd vw l true vo).toArray, .int .i64 13]) /\ Below w.heap.size w w' := by
 have H1 : Box (vd.oneCell' = true /\ vw.oneCell' = true /\ vo.oneCell' = true) := ⟨hd, hw, ho⟩
 clear hd hw ho
 have H : Box (Bx w.heap.size w ((w.alloc (.cells (rv n vd vw l true vo).toArray 36)).alloc (.cells #[.int .i64 0, .slice none 0 0, .slice none 0 0, .int .i64 0, .bool false, .slice none 0 0] 36)) (rv n vd vw l true vo)) := ⟨Bx.start w _ _ rfl⟩
 obtain ⟨S, HS⟩ : ∃ S, Box (w.heap.size = S) := ⟨_, ⟨rfl⟩⟩
 go_enter Tryz.func23, Tryz.ntmps23
 go_upto_region 1 with fail
 rw [HS.out] at H ⊢
 generalize (w.alloc (.cells (rv n vd vw l true vo).toArray 36)).alloc (.cells #[.int .i64 0, .slice none 0 0, .slice none 0 0, .int .i64 0, .bool false, .slice none 0 0] 36) = w1 at H ⊢
 have c4 : w1.cell? ⟨S, 4, none⟩ = some (.bool true) := H.out.cell 4
 go_wp2_with (first
  | (refine wpList_ldD rfl _ rfl S (rv n vd vw l true vo) rfl H.out.hB rfl ?_)
  | (refine wpList_stD rfl _ _ rfl S w _ (rv n vd vw l true vo) rfl rfl H.out rfl (one_rv H1.out.1 H1.out.2.1 H1.out.2.2) ?_; intro w5 h5 b5 t5))
 (try simp only [Exit.inBlock, Exit.then])
 refine bodyPost_ret (results_D2 rfl _ _ (S + 1) _ rfl rfl h5) rfl ?_
 exact ⟨rfl, HS.out ▸ b5.below⟩
set_option maxRecDepth 20000 in
set_option maxHeartbeats 2000000 in
theorem rwrite_stop (w : World) (n : Nat) (vd vw vo : Value) (hd : vd.oneCell' = true) (hw : vw.oneCell' = true) (ho : vo.oneCell' = true) (i : Int) (s : ByteArray) (len : Nat) (hs : s.size = len) (hx : rfit n i len = 0) :
  Calls Tryz.prog 23 #[.agg (rv n vd vw 0 false vo).toArray, .int .i64 i, .string s] w fun e w' => e = .returned (.tuple #[.agg (rv n vd vw 0 true vo).toArray, .int .i64 13]) /\ Below w.heap.size w w' := by
 have HX : Box (rfit n i len = 0) := ⟨hx⟩
 clear hx
 have H1 : Box (vd.oneCell' = true /\ vw.oneCell' = true /\ vo.oneCell' = true) := ⟨hd, hw, ho⟩
 clear hd hw ho
 have H : Box (Bx w.heap.size w ((w.alloc (.cells (rv n vd vw 0 false vo).toArray 36)).alloc (.cells #[.int .i64 0, .slice none 0 0, .slice none 0 0, .int .i64 0, .bool false, .slice none 0 0] 36)) (rv n vd vw 0 false vo)) := ⟨Bx.start w _ _ rfl⟩
 obtain ⟨S, HS⟩ : ∃ S, Box (w.heap.size = S) := ⟨_, ⟨rfl⟩⟩
 go_enter Tryz.func23, Tryz.ntmps23
 go_upto_region 1 with fail
 rw [HS.out] at H ⊢
 generalize (w.alloc (.cells (rv n vd vw 0 false vo).toArray 36)).alloc (.cells #[.int .i64 0, .slice none 0 0, .slice none 0 0, .int .i64 0, .bool false, .slice none 0 0] 36) = w1 at H ⊢
 have c4 : w1.cell? ⟨S, 4, none⟩ = some (.bool false) := H.out.cell 4
 have HF : Box (Calls Tryz.prog 50 #[.agg (rv n vd vw 0 false vo).toArray, .int .i64 i, .string s] w1 fun e w' => e = .returned (.int .i64 0) /\ Below w1.heap.size w1 w') := ⟨(rfits_any w1 n vd vw vo 0 false i s len hs).mono fun e w' h => ⟨by rw [h.1, HX.out], h.2⟩⟩
 go_upto_region 4 with (first
  | (refine wpList_ldD rfl _ rfl S (rv n vd vw 0 false vo) rfl H.out.hB rfl ?_)
  | (go_at_call 50; refine HF.out.mono ?_; rintro e w2 ⟨rfl, hb2⟩; have H2 : Box (Bx S w w2 (rv n vd vw 0 false vo)) := ⟨H.out.on hb2⟩; clear hb2))
 clear c4
 have c3 : w2.cell? ⟨S, 3, none⟩ = some (.int .i64 0) := H2.out.cell 3
 have c4 : w2.cell? ⟨S, 4, none⟩ = some (.bool false) := H2.out.cell 4
 have f4 := H2.out.froz 4
 have H3 : Box (Bx S w (w2.setCell ⟨S, 4, none⟩ (.bool true)) (rv n vd vw 0 true vo)) := ⟨H2.out.put 4 _⟩
 go_wp2_with (first
  | (refine wpList_ldD rfl _ rfl S (rv n vd vw 0 true vo) rfl H3.out.hB rfl ?_)
  | (refine wpList_stD rfl _ _ rfl S w _ (rv n vd vw 0 true vo) rfl rfl H3.out rfl (one_rv H1.out.1 H1.out.2.1 H1.out.2.2) ?_; intro w5 h5 b5 t5))
 (try simp only [Exit.inBlock, Exit.then])
 refine bodyPost_ret (results_D2 rfl _ _ (S + 1) _ rfl rfl h5) rfl ?_
 exact ⟨rfl, HS.out ▸ b5.below⟩
set_option maxRecDepth 20000 in
set_option maxHeartbeats 2000000 in
theorem rwrite_left (w : World) (n : Nat) (vd vw vo : Value) (l : Int) (L : List (Nat × List Int)) (O : List (Int × Int)) (hd : vd.oneCell' = true) (hw : Rw w vw L) (ho : Ro w vo O) (hL : L.length < 1000000) (hO : O.length < 1000000) (k : Nat) (B : List Int) (hx : rfit n (k : Int) B.length = 0) (hl : 0 < l) (hl9 : l <= 9223372036854775807) :
  Calls Tryz.prog 23 #[.agg (rv n vd vw l false vo).toArray, .int .i64 (k : Int), .string (strOfNums B)] w fun e w' => ∃ vw' vo', e = .returned (.tuple #[.agg (rv n vd vw' (l - 1) false vo').toArray, .int .i64 0]) /\ Below w.heap.size w w' /\ Rw w' vw' (L ++ [(k, B)]) /\ Ro w' vo' (O ++ [(2, (k : Int))]) := by
 have HX : Box (rfit n (k : Int) B.length = 0) := ⟨hx⟩
 have HW : Box (Rw w vw L /\ Ro w vo O /\ L.length < 1000000 /\ O.length < 1000000) := ⟨hw, ho, hL, hO⟩
 have H1 : Box (vd.oneCell' = true) := ⟨hd⟩
 have d0 : (l == 0) = false := by simp; omega
 have d1 : decide (0 < l) = true := by simpa using hl
 have hw1 : IntKind.i64.wrap (l - 1) = l - 1 := by rw [IntKind.wrap_i64]; omega
 clear hl hl9
 clear hx hL hO hd
 obtain ⟨aw, cw, rfl⟩ := own_form2 hw
 obtain ⟨ao, co, rfl⟩ := own_form2 ho
 clear hw ho
 have H : Box (Bx w.heap.size w ((w.alloc (.cells (rv n vd (.slice aw L.length cw) l false (.slice ao O.length co)).toArray 36)).alloc (.cells #[.int .i64 0, .slice none 0 0, .slice none 0 0, .int .i64 0, .bool false, .slice none 0 0] 36)) (rv n vd (.slice aw L.length cw) l false (.slice ao O.length co))) := ⟨Bx.start w _ _ rfl⟩
 obtain ⟨S, HS⟩ : ∃ S, Box (w.heap.size = S) := ⟨_, ⟨rfl⟩⟩
 go_enter Tryz.func23, Tryz.ntmps23
 go_upto_region 1 with fail
 rw [HS.out] at H ⊢
 generalize (w.alloc (.cells (rv n vd (.slice aw L.length cw) l false (.slice ao O.length co)).toArray 36)).alloc (.cells #[.int .i64 0, .slice none 0 0, .slice none 0 0, .int .i64 0, .bool false, .slice none 0 0] 36) = w1 at H ⊢
 have c4 : w1.cell? ⟨S, 4, none⟩ = some (.bool false) := H.out.cell 4
 have HF : Box (Calls Tryz.prog 50 #[.agg (rv n vd (.slice aw L.length cw) l false (.slice ao O.length co)).toArray, .int .i64 (k : Int), .string (strOfNums B)] w1 fun e w' => e = .returned (.int .i64 0) /\ Below w1.heap.size w1 w') := ⟨(rfits_any w1 n vd (.slice aw L.length cw) (.slice ao O.length co) l false k (strOfNums B) B.length (size_str B)).mono fun e w' h => ⟨by rw [h.1, HX.out], h.2⟩⟩
 go_upto_region 4 with (first
  | (refine wpList_ldD rfl _ rfl S (rv n vd (.slice aw L.length cw) l false (.slice ao O.length co)) rfl H.out.hB rfl ?_)
  | (go_at_call 50; refine HF.out.mono ?_; rintro e w2 ⟨rfl, hb2⟩; have H2 : Box (Bx S w w2 (rv n vd (.slice aw L.length cw) l false (.slice ao O.length co))) := ⟨H.out.on hb2⟩; clear hb2))
 clear c4 HF
 have c3 : w2.cell? ⟨S, 3, none⟩ = some (.int .i64 l) := H2.out.cell 3
 have f3 := H2.out.froz 3
 go_upto_region 11 with fail
 have H3 : Box (Bx S w (w2.setCell ⟨S, 3, none⟩ (.int .i64 (l - 1))) (rv n vd (.slice aw L.length cw) (l - 1) false (.slice ao O.length co))) := ⟨H2.out.put 3 _⟩
 clear c3 f3
 generalize w2.setCell ⟨S, 3, none⟩ (.int .i64 (l - 1)) = w3 at H3 ⊢
 have c2 : w3.cell? ⟨S, 2, none⟩ = some (.slice aw L.length cw) := H3.out.cell 2
 have HM : Box (Calls Tryz.prog 51 #[(.slice aw L.length cw), .agg (rc (k, B)).toArray] w3 fun e w' => ∃ v', e = .returned v' /\ Rw w' v' (L ++ [(k, B)]) /\ Below w3.heap.size w3 w' /\ ∀ k, v'.ownBlock = some k -> w3.heap.size <= k) := ⟨rmore_any w3 _ L (k, B) (H3.out.old HW.out.1) HW.out.2.2.1⟩
 go_upto_region 12 with (go_at_call 51; refine HM.out.mono ?_; rintro e w4 ⟨v4, rfl, r4, b4, o4⟩; obtain ⟨a4, c4, rfl⟩ := own_form2 r4; rw [List.length_append, List.length_singleton] at *; have H4 : Box (Bx S w w4 (rv n vd (.slice aw L.length cw) (l - 1) false (.slice ao O.length co))) := ⟨H3.out.on b4⟩; have R4 : Box (Rw w4 (.slice a4 (L.length + 1) c4) (L ++ [(k, B)]) /\ ∀ k, (Value.slice a4 (L.length + 1) c4).ownBlock = some k -> S + 2 <= k) := ⟨r4, fun k hk => by have := o4 k hk; have := H3.out.lt; omega⟩; have q2 : w4.cell? ⟨S, 2, none⟩ = some (.slice aw L.length cw) := H4.out.cell 2; have f2 := H4.out.froz 2; clear r4 b4 o4)
 have H5 : Box (Bx S w (w4.setCell ⟨S, 2, none⟩ (.slice a4 (L.length + 1) c4)) (rv n vd (.slice a4 (L.length + 1) c4) (l - 1) false (.slice ao O.length co))) := ⟨H4.out.put 2 _⟩
 have R5 : Box (Rw (w4.setCell ⟨S, 2, none⟩ (.slice a4 (L.length + 1) c4)) (.slice a4 (L.length + 1) c4) (L ++ [(k, B)])) := ⟨own_new R4.out.1 (turned_set (Turned.refl _ _) (fp := fun k => k = S) rfl _) (fun k e => by omega) R4.out.2⟩
 clear c2 q2 f2 H4
 generalize w4.setCell ⟨S, 2, none⟩ (.slice a4 (L.length + 1) c4) = w5 at H5 R5 ⊢
 have HN : Box (Calls Tryz.prog 52 #[.agg (rv n vd (.slice a4 (L.length + 1) c4) (l - 1) false (.slice ao O.length co)).toArray, .int .i64 2, .int .i64 (k : Int)] w5 fun e w' => ∃ v', e = .returned (.agg (rv n vd (.slice a4 (L.length + 1) c4) (l - 1) false v').toArray) /\ Ro w' v' (O ++ [(2, (k : Int))]) /\ Below w5.heap.size w5 w' /\ ∀ k, v'.ownBlock = some k -> w5.heap.size <= k) := ⟨rnoted_any w5 _ _ _ _ _ _ O 2 k H1.out rfl (H5.out.old HW.out.2.1) HW.out.2.2.2⟩
 go_wp2_with (first
  | (refine wpList_ldD rfl _ rfl S (rv n vd (.slice a4 (L.length + 1) c4) (l - 1) false (.slice ao O.length co)) rfl H5.out.hB rfl ?_)
  | (go_at_call 52; refine HN.out.mono ?_; rintro e w6 ⟨v6, rfl, r6, b6, o6⟩; have H6 : Box (Bx S w w6 (rv n vd (.slice a4 (L.length + 1) c4) (l - 1) false (.slice ao O.length co))) := ⟨H5.out.on b6⟩; have R6 : Box (Rw w6 (.slice a4 (L.length + 1) c4) (L ++ [(k, B)]) /\ Ro w6 v6 (O ++ [(2, (k : Int))]) /\ ∀ k, v6.ownBlock = some k -> S + 2 <= k) := ⟨R5.out.below b6, r6, fun k hk => by have := o6 k hk; have := H5.out.lt; omega⟩; clear r6 b6 o6)
  | (refine wpList_stD rfl _ _ rfl S w _ (rv n vd (.slice a4 (L.length + 1) c4) (l - 1) false v6) rfl rfl H6.out rfl (one_rv H1.out rfl (one_own R6.out.2.1)) ?_; intro w7 h7 b7 t7))
 (try simp only [Exit.inBlock, Exit.then])
 refine bodyPost_ret (results_D2 rfl _ _ (S + 1) _ rfl rfl h7) rfl ?_
 exact ⟨_, _, rfl, HS.out ▸ b7.below, own_new R6.out.1 t7 (fun k e => by omega) R4.out.2, own_new R6.out.2.1 t7 (fun k e => by omega) R6.out.2.2⟩
set_option maxRecDepth 20000 in
set_option maxHeartbeats 2000000 in
theorem rwrite_on (w : World) (n : Nat) (vd vw vo : Value) (l : Int) (L : List (Nat × List Int)) (O : List (Int × Int)) (hd : vd.oneCell' = true) (hw : Rw w vw L) (ho : Ro w vo O) (hL : L.length < 1000000) (hO : O.length < 1000000) (k : Nat) (B : List Int) (hx : rfit n (k : Int) B.length = 0) (hl : l < 0) :
  Calls Tryz.prog 23 #[.agg (rv n vd vw l false vo).toArray, .int .i64 (k : Int), .string (strOfNums B)] w fun e w' => ∃ vw' vo', e = .returned (.tuple #[.agg (rv n vd vw' l false vo').toArray, .int .i64 0]) /\ Below w.heap.size w w' /\ Rw w' vw' (L ++ [(k, B)]) /\ Ro w' vo' (O ++ [(2, (k : Int))]) := by
 have HX : Box (rfit n (k : Int) B.length = 0) := ⟨hx⟩
 have HW : Box (Rw w vw L /\ Ro w vo O /\ L.length < 1000000 /\ O.length < 1000000) := ⟨hw, ho, hL, hO⟩
 have H1 : Box (vd.oneCell' = true) := ⟨hd⟩
 have d0 : (l == 0) = false := by simp; omega
 have d1 : decide (0 < l) = false := by simp; omega
 clear hl
 clear hx hL hO hd
 obtain ⟨aw, cw, rfl⟩ := own_form2 hw
 obtain ⟨ao, co, rfl⟩ := own_form2 ho
 clear hw ho
 have H : Box (Bx w.heap.size w ((w.alloc (.cells (rv n vd (.slice aw L.length cw) l false (.slice ao O.length co)).toArray 36)).alloc (.cells #[.int .i64 0, .slice none 0 0, .slice none 0 0, .int .i64 0, .bool false, .slice none 0 0] 36)) (rv n vd (.slice aw L.length cw) l false (.slice ao O.length co))) := ⟨Bx.start w _ _ rfl⟩
 obtain ⟨S, HS⟩ : ∃ S, Box (w.heap.size = S) := ⟨_, ⟨rfl⟩⟩
 go_enter Tryz.func23, Tryz.ntmps23
 go_upto_region 1 with fail
 rw [HS.out] at H ⊢
 generalize (w.alloc (.cells (rv n vd (.slice aw L.length cw) l false (.slice ao O.length co)).toArray 36)).alloc (.cells #[.int .i64 0, .slice none 0 0, .slice none 0 0, .int .i64 0, .bool false, .slice none 0 0] 36) = w1 at H ⊢
 have c4 : w1.cell? ⟨S, 4, none⟩ = some (.bool false) := H.out.cell 4
 have HF : Box (Calls Tryz.prog 50 #[.agg (rv n vd (.slice aw L.length cw) l false (.slice ao O.length co)).toArray, .int .i64 (k : Int), .string (strOfNums B)] w1 fun e w' => e = .returned (.int .i64 0) /\ Below w1.heap.size w1 w') := ⟨(rfits_any w1 n vd (.slice aw L.length cw) (.slice ao O.length co) l false k (strOfNums B) B.length (size_str B)).mono fun e w' h => ⟨by rw [h.1, HX.out], h.2⟩⟩
 go_upto_region 4 with (first
  | (refine wpList_ldD rfl _ rfl S (rv n vd (.slice aw L.length cw) l false (.slice ao O.length co)) rfl H.out.hB rfl ?_)
  | (go_at_call 50; refine HF.out.mono ?_; rintro e w2 ⟨rfl, hb2⟩; have H2 : Box (Bx S w w2 (rv n vd (.slice aw L.length cw) l false (.slice ao O.length co))) := ⟨H.out.on hb2⟩; clear hb2))
 clear c4 HF
 have c3 : w2.cell? ⟨S, 3, none⟩ = some (.int .i64 l) := H2.out.cell 3
 have f3 := H2.out.froz 3
 go_upto_region 11 with fail
 have H3 : Box (Bx S w w2 (rv n vd (.slice aw L.length cw) l false (.slice ao O.length co))) := ⟨H2.out⟩
 clear c3 f3 H2
 generalize w2 = w3 at H3 ⊢
 have c2 : w3.cell? ⟨S, 2, none⟩ = some (.slice aw L.length cw) := H3.out.cell 2
 have HM : Box (Calls Tryz.prog 51 #[(.slice aw L.length cw), .agg (rc (k, B)).toArray] w3 fun e w' => ∃ v', e = .returned v' /\ Rw w' v' (L ++ [(k, B)]) /\ Below w3.heap.size w3 w' /\ ∀ k, v'.ownBlock = some k -> w3.heap.size <= k) := ⟨rmore_any w3 _ L (k, B) (H3.out.old HW.out.1) HW.out.2.2.1⟩
 go_upto_region 12 with (go_at_call 51; refine HM.out.mono ?_; rintro e w4 ⟨v4, rfl, r4, b4, o4⟩; obtain ⟨a4, c4, rfl⟩ := own_form2 r4; rw [List.length_append, List.length_singleton] at *; have H4 : Box (Bx S w w4 (rv n vd (.slice aw L.length cw) l false (.slice ao O.length co))) := ⟨H3.out.on b4⟩; have R4 : Box (Rw w4 (.slice a4 (L.length + 1) c4) (L ++ [(k, B)]) /\ ∀ k, (Value.slice a4 (L.length + 1) c4).ownBlock = some k -> S + 2 <= k) := ⟨r4, fun k hk => by have := o4 k hk; have := H3.out.lt; omega⟩; have q2 : w4.cell? ⟨S, 2, none⟩ = some (.slice aw L.length cw) := H4.out.cell 2; have f2 := H4.out.froz 2; clear r4 b4 o4)
 have H5 : Box (Bx S w (w4.setCell ⟨S, 2, none⟩ (.slice a4 (L.length + 1) c4)) (rv n vd (.slice a4 (L.length + 1) c4) l false (.slice ao O.length co))) := ⟨H4.out.put 2 _⟩
 have R5 : Box (Rw (w4.setCell ⟨S, 2, none⟩ (.slice a4 (L.length + 1) c4)) (.slice a4 (L.length + 1) c4) (L ++ [(k, B)])) := ⟨own_new R4.out.1 (turned_set (Turned.refl _ _) (fp := fun k => k = S) rfl _) (fun k e => by omega) R4.out.2⟩
 clear c2 q2 f2 H4
 generalize w4.setCell ⟨S, 2, none⟩ (.slice a4 (L.length + 1) c4) = w5 at H5 R5 ⊢
 have HN : Box (Calls Tryz.prog 52 #[.agg (rv n vd (.slice a4 (L.length + 1) c4) l false (.slice ao O.length co)).toArray, .int .i64 2, .int .i64 (k : Int)] w5 fun e w' => ∃ v', e = .returned (.agg (rv n vd (.slice a4 (L.length + 1) c4) l false v').toArray) /\ Ro w' v' (O ++ [(2, (k : Int))]) /\ Below w5.heap.size w5 w' /\ ∀ k, v'.ownBlock = some k -> w5.heap.size <= k) := ⟨rnoted_any w5 _ _ _ _ _ _ O 2 k H1.out rfl (H5.out.old HW.out.2.1) HW.out.2.2.2⟩
 go_wp2_with (first
  | (refine wpList_ldD rfl _ rfl S (rv n vd (.slice a4 (L.length + 1) c4) l false (.slice ao O.length co)) rfl H5.out.hB rfl ?_)
  | (go_at_call 52; refine HN.out.mono ?_; rintro e w6 ⟨v6, rfl, r6, b6, o6⟩; have H6 : Box (Bx S w w6 (rv n vd (.slice a4 (L.length + 1) c4) l false (.slice ao O.length co))) := ⟨H5.out.on b6⟩; have R6 : Box (Rw w6 (.slice a4 (L.length + 1) c4) (L ++ [(k, B)]) /\ Ro w6 v6 (O ++ [(2, (k : Int))]) /\ ∀ k, v6.ownBlock = some k -> S + 2 <= k) := ⟨R5.out.below b6, r6, fun k hk => by have := o6 k hk; have := H5.out.lt; omega⟩; clear r6 b6 o6)
  | (refine wpList_stD rfl _ _ rfl S w _ (rv n vd (.slice a4 (L.length + 1) c4) l false v6) rfl rfl H6.out rfl (one_rv H1.out rfl (one_own R6.out.2.1)) ?_; intro w7 h7 b7 t7))
 (try simp only [Exit.inBlock, Exit.then])
 refine bodyPost_ret (results_D2 rfl _ _ (S + 1) _ rfl rfl h7) rfl ?_
 exact ⟨_, _, rfl, HS.out ▸ b7.below, own_new R6.out.1 t7 (fun k e => by omega) R4.out.2, own_new R6.out.2.1 t7 (fun k e => by omega) R6.out.2.2⟩
def rlat (Ld L : List (Nat × List Int)) (k : Nat) : List Int := (lastOf L k).getD (rat Ld k)
end Go.Proofs.YtjdjbjedfbmgpaaGreatDoor.Disk
namespace Go.Proofs.YtjdjbjedfbmgpaaGreatDoor.Disk.Plain
end Go.Proofs.YtjdjbjedfbmgpaaGreatDoor.Disk.Plain
namespace Go.Proofs.YtjdjbjedfbmgpaaGreatDoor.Disk
open Go.RowKit Go.Proofs.YtjdjbjedfbmgpaaGreatDoor.Plain Go.Proofs.YtjdjbjedfbmgpaaGreatDoor.Disk.Plain
section
variable {P : Program} {md : Region.Mode} {ops : Array Oper} {Q : Exit -> Act -> World -> Prop}
end
end Go.Proofs.YtjdjbjedfbmgpaaGreatDoor.Disk
