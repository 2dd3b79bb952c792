/-
 The reference of layer 6: fits, At, New, Stop. And what follows it.
-/
import Derived.Deep.WholeRow
import Derived.Test.YthfobaeafapbnaaDoorQ12
set_option linter.unusedVariables false
set_option maxRecDepth 100000
namespace Go.Proofs.YthfobaeafapbnaaDoor.Disk.Plain
end Go.Proofs.YthfobaeafapbnaaDoor.Disk.Plain
namespace Go.Proofs.YthfobaeafapbnaaDoor.Disk
open Go.RowKit Go.Proofs.YthfobaeafapbnaaDoor.Plain Go.Proofs.YthfobaeafapbnaaDoor.Disk.Plain
def rfit (n : Nat) (i : Int) (len : Nat) : Int := if decide (0 <= i /\ i < (n : Int)) then (if len = 192 then 0 else 1) else 12
theorem box_cells {w : World} {V : List Value} {t : TypeId} (k : Nat) : (w.alloc (.cells V.toArray t)).cell? ⟨w.heap.size, k, none⟩ = V.toArray[k]? := cell_of_row _ _ _ _ _ _ (al_at rfl)
set_option maxRecDepth 20000 in
set_option maxHeartbeats 2000000 in
theorem rfits_any (w : World) (n : Nat) (vd vw vo : Value) (l : Int) (b : Bool) (i : Int) (s : ByteArray) (len : Nat) (hs : s.size = len) :
  Calls Tryd.prog 67 #[.agg (rv n vd vw l b vo).toArray, .int .i64 i, .string s] w fun e w' => e = .returned (.int .i64 (rfit n i len)) /\ Below w.heap.size w w' := by
 have H : Box ((w.alloc (.cells (rv n vd vw l b vo).toArray 36)).cell? ⟨w.heap.size, 0, none⟩ = some (.int .i64 (n : Int))) := ⟨box_cells 0⟩
 have HB : Box (Below w.heap.size w (w.alloc (.cells (rv n vd vw l b vo).toArray 36))) := ⟨(Below.refl _ w).alloc (Nat.le_refl _) _⟩
 have E : Box (rfit n i len = if decide (0 <= i /\ i < (n : Int)) then (if len = 192 then 0 else 1) else 12) := ⟨rfl⟩
 obtain ⟨S, HS⟩ : ∃ S, Box (w.heap.size = S) := ⟨_, ⟨rfl⟩⟩
 go_enter Tryd.func67, Tryd.ntmps67
 go_upto_region 1 with fail
 rw [HS.out] at H HB ⊢
 generalize w.alloc (.cells (rv n vd vw l b vo).toArray 36) = w1 at H HB ⊢
 have c0 := H.out
 by_cases h0 : 0 <= i
 ·have d0 : decide (i < 0) = false := by simpa using h0
  by_cases h1 : i < (n : Int)
  ·have d1 : decide ((n : Int) <= i) = false := by simpa using h1
   by_cases hl : len = 192
   ·have hl' : ((s.size : Int) == 192) = true := by simp [hs, hl]
    go_wp2
    go_ret
    exact ⟨by rw [E.out]; simp [h0, h1, hl], HS.out ▸ HB.out⟩
   ·have hl' : ((s.size : Int) == 192) = false := by simp [hs]; omega
    go_wp2
    go_ret
    exact ⟨by rw [E.out]; simp [h0, h1, hl], HS.out ▸ HB.out⟩
  ·have d1 : decide ((n : Int) <= i) = true := by simp; omega
   go_wp2
   go_ret
   exact ⟨by rw [E.out, if_neg (by simp; omega)]; rfl, HS.out ▸ HB.out⟩
 ·have d0 : decide (i < 0) = true := by simp; omega
  go_wp2
  go_ret
  exact ⟨by rw [E.out, if_neg (by simp; omega)]; rfl, HS.out ▸ HB.out⟩
def rat (L : List (Nat × List Int)) (i : Nat) : List Int := (lastOf L i).getD z192
set_option maxRecDepth 20000 in
set_option maxHeartbeats 2000000 in
theorem rat_any (w : World) (n : Nat) (vd vw vo : Value) (l : Int) (b : Bool) (L : List (Nat × List Int)) (i : Nat) (h : Rw w vd L) (hl : L.length < 1000000) :
  Calls Tryd.prog 50 #[.agg (rv n vd vw l b vo).toArray, .int .i64 (i : Int)] w fun e w' => e = .returned (.string (strOfNums (rat L i))) /\ Below w.heap.size w w' := by
 have HB : Box (Below w.heap.size w (w.alloc (.cells (rv n vd vw l b vo).toArray 36))) := ⟨(Below.refl _ w).alloc (Nat.le_refl _) _⟩
 have H : Box ((w.alloc (.cells (rv n vd vw l b vo).toArray 36)).cell? ⟨w.heap.size, 1, none⟩ = some vd) := ⟨box_cells 1⟩
 have HW : Box (Calls Tryd.prog 70 #[vd, .int .i64 (i : Int)] (w.alloc (.cells (rv n vd vw l b vo).toArray 36)) fun e w' => e = .returned (lst L i) /\ w.alloc (.cells (rv n vd vw l b vo).toArray 36) = w') := ⟨rlast_any _ vd L i (h.below HB.out) hl⟩
 have HZ : Box (w.heap.size <= (w.alloc (.cells (rv n vd vw l b vo).toArray 36)).heap.size) := ⟨by simp⟩
 obtain ⟨a, cap, rfl⟩ := own_form2 h
 obtain ⟨S, HS⟩ : ∃ S, Box (w.heap.size = S) := ⟨_, ⟨rfl⟩⟩
 clear h hl
 go_enter Tryd.func50, Tryd.ntmps50
 go_upto_region 1 with fail
 rw [HS.out] at H HB HZ ⊢
 generalize w.alloc (.cells (rv n (.slice a L.length cap) vw l b vo).toArray 36) = w1 at H HB HW HZ ⊢
 have c1 := H.out
 cases hlo : lastOf L i with
 | some B =>
  have e1 : Box (lst L i = .tuple #[.string (strOfNums B), .bool true] /\ rat L i = B) := ⟨by rw [lst, hlo], by rw [rat, hlo]; rfl⟩
  rw [e1.out.1] at HW
  clear hlo
  go_wp2_with (go_at_call 70; refine HW.out.mono ?_; rintro e w' ⟨rfl, rfl⟩)
  go_ret
  exact ⟨by rw [e1.out.2]; rfl, HS.out ▸ HB.out⟩
 | none =>
  have e1 : Box (lst L i = .tuple #[.string ByteArray.empty, .bool false] /\ rat L i = z192) := ⟨by rw [lst, hlo], by rw [rat, hlo]; rfl⟩
  rw [e1.out.1] at HW
  clear hlo
  have HC : Box (Bytes (w1.alloc (.cells (u8s z192) 5)) (some ⟨w1.heap.size, 0, none⟩) 192 z192) := ⟨by have := bytes_of_row (w := w1.alloc (.cells (u8s z192) 5)) (g := w1.heap.size) (t := 5) (fr := (0, 0)) byt_z192 (al_at rfl); rwa [length_z192] at this⟩
  have HE : Box (Below S w (w1.alloc (.cells (u8s z192) 5))) := ⟨HB.out.alloc HZ.out _⟩
  go_wp2_with (first
   | (go_at_call 70; refine HW.out.mono ?_; rintro e w' ⟨rfl, rfl⟩)
   | (refine wpList_run rfl _ _ (exec_make192 _ _ rfl rfl rfl) ?_)
   | (refine wpList_run rfl _ _ (exec_conv _ rfl rfl HC.out) ?_))
  go_ret
  exact ⟨by rw [e1.out.2]; rfl, HS.out ▸ HE.out⟩
def rd0 (n : Nat) : Rd := ⟨n, [], [], -1, false, []⟩
theorem Rw.nil (w : World) : Rw w (.slice none 0 0) [] := World.ownsRow_nil _ _ _ _
theorem Ro.nil (w : World) : Ro w (.slice none 0 0) [] := World.ownsRow_nil _ _ _ _
theorem newD (w : World) (Z V : List Value) (hZ : Z.length = 6) (hV : V.length = 6) (h1 : V.toArray.all (·.oneCell') = true) : (storeVar 36 ⟨w.heap.size, 0, none⟩ (.agg V.toArray)).run Tryd.prog (w.alloc (.cells Z.toArray 36)) = .ok () (w.alloc (.cells V.toArray 36)) := by
 have := run_storeVar_row (P := Tryd.prog) (w.alloc (.cells Z.toArray 36)) w.heap.size _ 36 Z.toArray V.toArray (al_at rfl) (by rw [infoD]; simp [hV]) (by simp [hZ, hV]) h1
 rw [this, World.setRow_alloc_new]
theorem wpList_stN {ops : Array Oper} {rest : List Oper} {o : Oper} {act : Act} {w : World} {Q : Exit -> Act -> World -> Prop} (hgd : o.guard = none) (x y : Operand) (ho : o.op = .store 36 x y) (Z V : List Value) (hx : act.eval x = .pointer (some ⟨w.heap.size, 0, none⟩)) (hy : act.eval y = .agg V.toArray)
  (hZ : Z.length = 6) (hV : V.length = 6) (h1 : V.toArray.all (·.oneCell') = true)
  (h : wpList Tryd.prog ops Q rest (act.put o.dst undef) (w.alloc (.cells V.toArray 36))) : wpList Tryd.prog ops Q (o :: rest) act (w.alloc (.cells Z.toArray 36)) := by
 refine wpList_plain hgd fun _ hK => ?_
 unfold Oper.wp execOp
 simp only [ho, hx, hy, Instr.storeAt, Instr.sureAddr, Sem.run_bind, Sem.run_pure, Result.andThen_ok, newD w Z V hZ hV h1]
 exact hK _ _ h
theorem zeroD : (Tryd.prog.info? 36).map (·.zero) = some (some (.agg (rv 0 (.slice none 0 0) (.slice none 0 0) 0 false (.slice none 0 0)).toArray)) := by kernel_rfl
set_option maxRecDepth 20000 in
set_option maxHeartbeats 2000000 in
theorem rnew_any (w : World) (n : Nat) (hn : 1 <= n /\ n <= 4096) : Calls Tryd.prog 6 #[.int .i64 (n : Int)] w fun e w' => ∃ v, e = .returned (.tuple #[v, .int .i64 0]) /\ Rv w' v (rd0 n) /\ Below w.heap.size w w' := by
 have HB : Box (Below w.heap.size w (w.alloc (.cells (rv n (.slice none 0 0) (.slice none 0 0) (-1) false (.slice none 0 0)).toArray 36))) := ⟨(Below.refl _ w).alloc (Nat.le_refl _) _⟩
 have h1 : decide ((n : Int) < 1) = false := by simp; omega
 have h2 : decide (4096 < (n : Int)) = false := by simp; omega
 clear hn
 go_enter Tryd.func6, Tryd.ntmps6
 go_wp2_with (first
  | (refine wpList_run rfl _ _ (exec_alloc 36 rfl _ zeroD) ?_)
  | (refine wpList_stN rfl _ _ rfl _ (rv n (.slice none 0 0) (.slice none 0 0) (-1) false (.slice none 0 0)) rfl rfl rfl rfl (one_rv rfl rfl rfl) ?_))
 (try simp only [Exit.inBlock, Exit.then])
 refine bodyPost_ret (results_D2 rfl _ _ w.heap.size (rv n (.slice none 0 0) (.slice none 0 0) (-1) false (.slice none 0 0)) rfl rfl (al_at rfl)) rfl ?_
 exact ⟨_, rfl, ⟨_, _, _, rfl, Rw.nil _, Rw.nil _, Ro.nil _⟩, HB.out⟩
theorem Bx.old {S : Nat} {w0 w' : World} {V : List Value} (h : Bx S w0 w' V) {base n : Nat} {e : TypeId} {sz : Nat} {v : Value} {xs : List Value} (h1 : w0.ownsRow base e sz v n xs) : w'.ownsRow base e sz v n xs :=
 own_turned h1 h.tu (fun k hk e => by have := (h1.lt k hk).2; have := h.sz; rcases e with rfl | rfl <;> omega)
theorem own_new {S : Nat} {w w' : World} {base n : Nat} {e : TypeId} {sz : Nat} {v : Value} {xs : List Value} {fp : Nat -> Prop} (h1 : w.ownsRow base e sz v n xs) (t : Turned fp w w') (hf : ∀ k, fp k -> k < S + 2) (hk : ∀ k, v.ownBlock = some k -> S + 2 <= k) : w'.ownsRow base e sz v n xs :=
 own_turned h1 t (fun k hk' e => by have := hk k hk'; have := hf k e; omega)
end Go.Proofs.YthfobaeafapbnaaDoor.Disk
namespace Go.Proofs.YthfobaeafapbnaaDoor.Disk.Plain
end Go.Proofs.YthfobaeafapbnaaDoor.Disk.Plain
namespace Go.Proofs.YthfobaeafapbnaaDoor.Disk
open Go.RowKit Go.Proofs.YthfobaeafapbnaaDoor.Plain Go.Proofs.YthfobaeafapbnaaDoor.Disk.Plain
def rlf (i : Int) : Int := if i < 0 then -1 else i
set_option maxRecDepth 20000 in
set_option maxHeartbeats 2000000 in
theorem rstop_any (w : World) (n : Nat) (vd vw vo : Value) (l : Int) (b : Bool) (hd : vd.oneCell' = true) (hw : vw.oneCell' = true) (ho : vo.oneCell' = true) (i : Int) :
  Calls Tryd.prog 27 #[.agg (rv n vd vw l b vo).toArray, .int .i64 i] w fun e w' => e = .returned (.agg (rv n vd vw (rlf i) b vo).toArray) /\ Below w.heap.size w w' := by
 have H1 : Box (vd.oneCell' = true /\ vw.oneCell' = true /\ vo.oneCell' = true) := ⟨hd, hw, ho⟩
 clear hd hw ho
 have H : Box (Bx w.heap.size w ((w.alloc (.cells (rv n vd vw l b vo).toArray 36)).alloc (.cells #[.int .i64 0, .slice none 0 0, .slice none 0 0, .int .i64 0, .bool false, .slice none 0 0] 36)) (rv n vd vw l b vo)) := ⟨Bx.start w _ _ rfl⟩
 obtain ⟨S, HS⟩ : ∃ S, Box (w.heap.size = S) := ⟨_, ⟨rfl⟩⟩
 go_enter Tryd.func27, Tryd.ntmps27
 go_upto_region 1 with fail
 rw [HS.out] at H ⊢
 generalize (w.alloc (.cells (rv n vd vw l b vo).toArray 36)).alloc (.cells #[.int .i64 0, .slice none 0 0, .slice none 0 0, .int .i64 0, .bool false, .slice none 0 0] 36) = w1 at H ⊢
 have c3 : w1.cell? ⟨S, 3, none⟩ = some (.int .i64 l) := H.out.cell 3
 have f3 := H.out.froz 3
 go_upto_region 2 with fail
 have H2 : Box (Bx S w (w1.setCell ⟨S, 3, none⟩ (.int .i64 i)) (rv n vd vw i b vo)) := ⟨H.out.put 3 _⟩
 generalize w1.setCell ⟨S, 3, none⟩ (.int .i64 i) = w2 at H2 ⊢
 clear c3 f3 H
 by_cases h0 : i < 0
 ·have E : Box (rlf i = -1) := ⟨if_pos h0⟩
  have d0 : decide (i < 0) = true := by simpa using h0
  clear h0
  have c3 : w2.cell? ⟨S, 3, none⟩ = some (.int .i64 i) := H2.out.cell 3
  have f3 := H2.out.froz 3
  have H3 : Box (Bx S w (w2.setCell ⟨S, 3, none⟩ (.int .i64 (-1))) (rv n vd vw (-1) b vo)) := ⟨H2.out.put 3 _⟩
  go_wp2_with (first
   | (refine wpList_ldD rfl _ rfl S (rv n vd vw (-1) b vo) rfl H3.out.hB rfl ?_)
   | (refine wpList_stD rfl _ _ rfl S w _ (rv n vd vw (-1) b vo) rfl rfl H3.out rfl (one_rv H1.out.1 H1.out.2.1 H1.out.2.2) ?_; intro w5 h5 b5 t5))
  (try simp only [Exit.inBlock, Exit.then])
  refine bodyPost_ret (results_D rfl _ _ (S + 1) _ rfl rfl h5) rfl ?_
  exact ⟨by rw [E.out], HS.out ▸ b5.below⟩
 ·have E : Box (rlf i = i) := ⟨if_neg h0⟩
  have d0 : decide (i < 0) = false := by simpa using h0
  clear h0
  go_wp2_with (first
   | (refine wpList_ldD rfl _ rfl S (rv n vd vw i b vo) rfl H2.out.hB rfl ?_)
   | (refine wpList_stD rfl _ _ rfl S w _ (rv n vd vw i b vo) rfl rfl H2.out rfl (one_rv H1.out.1 H1.out.2.1 H1.out.2.2) ?_; intro w5 h5 b5 t5))
  (try simp only [Exit.inBlock, Exit.then])
  refine bodyPost_ret (results_D rfl _ _ (S + 1) _ rfl rfl h5) rfl ?_
  exact ⟨by rw [E.out], HS.out ▸ b5.below⟩
set_option maxRecDepth 20000 in
set_option maxHeartbeats 2000000 in
theorem rwrite_down (w : World) (n : Nat) (vd vw vo : Value) (l : Int) (hd : vd.oneCell' = true) (hw : vw.oneCell' = true) (ho : vo.oneCell' = true) (i : Int) (s : ByteArray) :
  Calls Tryd.prog 46 #[.agg (rv n vd vw l true vo).toArray, .int .i64 i, .string s] w fun e w' => e = .returned (.tuple #[.agg (rv n vd vw l true vo).toArray, .int .i64 13]) /\ Below w.heap.size w w' := by
 have H1 : Box (vd.oneCell' = true /\ vw.oneCell' = true /\ vo.oneCell' = true) := ⟨hd, hw, ho⟩
 clear hd hw ho
 have H : Box (Bx w.heap.size w ((w.alloc (.cells (rv n vd vw l true vo).toArray 36)).alloc (.cells #[.int .i64 0, .slice none 0 0, .slice none 0 0, .int .i64 0, .bool false, .slice none 0 0] 36)) (rv n vd vw l true vo)) := ⟨Bx.start w _ _ rfl⟩
 obtain ⟨S, HS⟩ : ∃ S, Box (w.heap.size = S) := ⟨_, ⟨rfl⟩⟩
 go_enter Tryd.func46, Tryd.ntmps46
 go_upto_region 1 with fail
 rw [HS.out] at H ⊢
 generalize (w.alloc (.cells (rv n vd vw l true vo).toArray 36)).alloc (.cells #[.int .i64 0, .slice none 0 0, .slice none 0 0, .int .i64 0, .bool false, .slice none 0 0] 36) = w1 at H ⊢
 have c4 : w1.cell? ⟨S, 4, none⟩ = some (.bool true) := H.out.cell 4
 go_wp2_with (first
  | (refine wpList_ldD rfl _ rfl S (rv n vd vw l true vo) rfl H.out.hB rfl ?_)
  | (refine wpList_stD rfl _ _ rfl S w _ (rv n vd vw l true vo) rfl rfl H.out rfl (one_rv H1.out.1 H1.out.2.1 H1.out.2.2) ?_; intro w5 h5 b5 t5))
 (try simp only [Exit.inBlock, Exit.then])
 refine bodyPost_ret (results_D2 rfl _ _ (S + 1) _ rfl rfl h5) rfl ?_
 exact ⟨rfl, HS.out ▸ b5.below⟩
set_option maxRecDepth 20000 in
set_option maxHeartbeats 2000000 in
theorem rwrite_stop (w : World) (n : Nat) (vd vw vo : Value) (hd : vd.oneCell' = true) (hw : vw.oneCell' = true) (ho : vo.oneCell' = true) (i : Int) (s : ByteArray) (len : Nat) (hs : s.size = len) (hx : rfit n i len = 0) :
  Calls Tryd.prog 46 #[.agg (rv n vd vw 0 false vo).toArray, .int .i64 i, .string s] w fun e w' => e = .returned (.tuple #[.agg (rv n vd vw 0 true vo).toArray, .int .i64 13]) /\ Below w.heap.size w w' := by
 have HX : Box (rfit n i len = 0) := ⟨hx⟩
 clear hx
 have H1 : Box (vd.oneCell' = true /\ vw.oneCell' = true /\ vo.oneCell' = true) := ⟨hd, hw, ho⟩
 clear hd hw ho
 have H : Box (Bx w.heap.size w ((w.alloc (.cells (rv n vd vw 0 false vo).toArray 36)).alloc (.cells #[.int .i64 0, .slice none 0 0, .slice none 0 0, .int .i64 0, .bool false, .slice none 0 0] 36)) (rv n vd vw 0 false vo)) := ⟨Bx.start w _ _ rfl⟩
 obtain ⟨S, HS⟩ : ∃ S, Box (w.heap.size = S) := ⟨_, ⟨rfl⟩⟩
 go_enter Tryd.func46, Tryd.ntmps46
 go_upto_region 1 with fail
 rw [HS.out] at H ⊢
 generalize (w.alloc (.cells (rv n vd vw 0 false vo).toArray 36)).alloc (.cells #[.int .i64 0, .slice none 0 0, .slice none 0 0, .int .i64 0, .bool false, .slice none 0 0] 36) = w1 at H ⊢
 have c4 : w1.cell? ⟨S, 4, none⟩ = some (.bool false) := H.out.cell 4
 have HF : Box (Calls Tryd.prog 67 #[.agg (rv n vd vw 0 false vo).toArray, .int .i64 i, .string s] w1 fun e w' => e = .returned (.int .i64 0) /\ Below w1.heap.size w1 w') := ⟨(rfits_any w1 n vd vw vo 0 false i s len hs).mono fun e w' h => ⟨by rw [h.1, HX.out], h.2⟩⟩
 go_upto_region 4 with (first
  | (refine wpList_ldD rfl _ rfl S (rv n vd vw 0 false vo) rfl H.out.hB rfl ?_)
  | (go_at_call 67; refine HF.out.mono ?_; rintro e w2 ⟨rfl, hb2⟩; have H2 : Box (Bx S w w2 (rv n vd vw 0 false vo)) := ⟨H.out.on hb2⟩; clear hb2))
 clear c4
 have c3 : w2.cell? ⟨S, 3, none⟩ = some (.int .i64 0) := H2.out.cell 3
 have c4 : w2.cell? ⟨S, 4, none⟩ = some (.bool false) := H2.out.cell 4
 have f4 := H2.out.froz 4
 have H3 : Box (Bx S w (w2.setCell ⟨S, 4, none⟩ (.bool true)) (rv n vd vw 0 true vo)) := ⟨H2.out.put 4 _⟩
 go_wp2_with (first
  | (refine wpList_ldD rfl _ rfl S (rv n vd vw 0 true vo) rfl H3.out.hB rfl ?_)
  | (refine wpList_stD rfl _ _ rfl S w _ (rv n vd vw 0 true vo) rfl rfl H3.out rfl (one_rv H1.out.1 H1.out.2.1 H1.out.2.2) ?_; intro w5 h5 b5 t5))
 (try simp only [Exit.inBlock, Exit.then])
 refine bodyPost_ret (results_D2 rfl _ _ (S + 1) _ rfl rfl h5) rfl ?_
 exact ⟨rfl, HS.out ▸ b5.below⟩
set_option maxRecDepth 20000 in
set_option maxHeartbeats 2000000 in
theorem rwrite_left (w : World) (n : Nat) (vd vw vo : Value) (l : Int) (L : List (Nat × List Int)) (O : List (Int × Int)) (hd : vd.oneCell' = true) (hw : Rw w vw L) (ho : Ro w vo O) (hL : L.length < 1000000) (hO : O.length < 1000000) (k : Nat) (B : List Int) (hx : rfit n (k : Int) B.length = 0) (hl : 0 < l) (hl9 : l <= 9223372036854775807) :
  Calls Tryd.prog 46 #[.agg (rv n vd vw l false vo).toArray, .int .i64 (k : Int), .string (strOfNums B)] w fun e w' => ∃ vw' vo', e = .returned (.tuple #[.agg (rv n vd vw' (l - 1) false vo').toArray, .int .i64 0]) /\ Below w.heap.size w w' /\ Rw w' vw' (L ++ [(k, B)]) /\ Ro w' vo' (O ++ [(2, (k : Int))]) := by
 have HX : Box (rfit n (k : Int) B.length = 0) := ⟨hx⟩
 have HW : Box (Rw w vw L /\ Ro w vo O /\ L.length < 1000000 /\ O.length < 1000000) := ⟨hw, ho, hL, hO⟩
 have H1 : Box (vd.oneCell' = true) := ⟨hd⟩
 have d0 : (l == 0) = false := by simp; omega
 have d1 : decide (0 < l) = true := by simpa using hl
 have hw1 : IntKind.i64.wrap (l - 1) = l - 1 := by rw [IntKind.wrap_i64]; omega
 clear hl hl9
 clear hx hL hO hd
 obtain ⟨aw, cw, rfl⟩ := own_form2 hw
 obtain ⟨ao, co, rfl⟩ := own_form2 ho
 clear hw ho
 have H : Box (Bx w.heap.size w ((w.alloc (.cells (rv n vd (.slice aw L.length cw) l false (.slice ao O.length co)).toArray 36)).alloc (.cells #[.int .i64 0, .slice none 0 0, .slice none 0 0, .int .i64 0, .bool false, .slice none 0 0] 36)) (rv n vd (.slice aw L.length cw) l false (.slice ao O.length co))) := ⟨Bx.start w _ _ rfl⟩
 obtain ⟨S, HS⟩ : ∃ S, Box (w.heap.size = S) := ⟨_, ⟨rfl⟩⟩
 go_enter Tryd.func46, Tryd.ntmps46
 go_upto_region 1 with fail
 rw [HS.out] at H ⊢
 generalize (w.alloc (.cells (rv n vd (.slice aw L.length cw) l false (.slice ao O.length co)).toArray 36)).alloc (.cells #[.int .i64 0, .slice none 0 0, .slice none 0 0, .int .i64 0, .bool false, .slice none 0 0] 36) = w1 at H ⊢
 have c4 : w1.cell? ⟨S, 4, none⟩ = some (.bool false) := H.out.cell 4
 have HF : Box (Calls Tryd.prog 67 #[.agg (rv n vd (.slice aw L.length cw) l false (.slice ao O.length co)).toArray, .int .i64 (k : Int), .string (strOfNums B)] w1 fun e w' => e = .returned (.int .i64 0) /\ Below w1.heap.size w1 w') := ⟨(rfits_any w1 n vd (.slice aw L.length cw) (.slice ao O.length co) l false k (strOfNums B) B.length (size_str B)).mono fun e w' h => ⟨by rw [h.1, HX.out], h.2⟩⟩
 go_upto_region 4 with (first
  | (refine wpList_ldD rfl _ rfl S (rv n vd (.slice aw L.length cw) l false (.slice ao O.length co)) rfl H.out.hB rfl ?_)
  | (go_at_call 67; refine HF.out.mono ?_; rintro e w2 ⟨rfl, hb2⟩; have H2 : Box (Bx S w w2 (rv n vd (.slice aw L.length cw) l false (.slice ao O.length co))) := ⟨H.out.on hb2⟩; clear hb2))
 clear c4 HF
 have c3 : w2.cell? ⟨S, 3, none⟩ = some (.int .i64 l) := H2.out.cell 3
 have f3 := H2.out.froz 3
 go_upto_region 11 with fail
 have H3 : Box (Bx S w (w2.setCell ⟨S, 3, none⟩ (.int .i64 (l - 1))) (rv n vd (.slice aw L.length cw) (l - 1) false (.slice ao O.length co))) := ⟨H2.out.put 3 _⟩
 clear c3 f3
 generalize w2.setCell ⟨S, 3, none⟩ (.int .i64 (l - 1)) = w3 at H3 ⊢
 have c2 : w3.cell? ⟨S, 2, none⟩ = some (.slice aw L.length cw) := H3.out.cell 2
 have HM : Box (Calls Tryd.prog 48 #[(.slice aw L.length cw), .agg (rc (k, B)).toArray] w3 fun e w' => ∃ v', e = .returned v' /\ Rw w' v' (L ++ [(k, B)]) /\ Below w3.heap.size w3 w' /\ ∀ k, v'.ownBlock = some k -> w3.heap.size <= k) := ⟨rmore_any w3 _ L (k, B) (H3.out.old HW.out.1) HW.out.2.2.1⟩
 go_upto_region 12 with (go_at_call 48; refine HM.out.mono ?_; rintro e w4 ⟨v4, rfl, r4, b4, o4⟩; obtain ⟨a4, c4, rfl⟩ := own_form2 r4; rw [List.length_append, List.length_singleton] at *; have H4 : Box (Bx S w w4 (rv n vd (.slice aw L.length cw) (l - 1) false (.slice ao O.length co))) := ⟨H3.out.on b4⟩; have R4 : Box (Rw w4 (.slice a4 (L.length + 1) c4) (L ++ [(k, B)]) /\ ∀ k, (Value.slice a4 (L.length + 1) c4).ownBlock = some k -> S + 2 <= k) := ⟨r4, fun k hk => by have := o4 k hk; have := H3.out.lt; omega⟩; have q2 : w4.cell? ⟨S, 2, none⟩ = some (.slice aw L.length cw) := H4.out.cell 2; have f2 := H4.out.froz 2; clear r4 b4 o4)
 have H5 : Box (Bx S w (w4.setCell ⟨S, 2, none⟩ (.slice a4 (L.length + 1) c4)) (rv n vd (.slice a4 (L.length + 1) c4) (l - 1) false (.slice ao O.length co))) := ⟨H4.out.put 2 _⟩
 have R5 : Box (Rw (w4.setCell ⟨S, 2, none⟩ (.slice a4 (L.length + 1) c4)) (.slice a4 (L.length + 1) c4) (L ++ [(k, B)])) := ⟨own_new R4.out.1 (turned_set (Turned.refl _ _) (fp := fun k => k = S) rfl _) (fun k e => by omega) R4.out.2⟩
 clear c2 q2 f2 H4
 generalize w4.setCell ⟨S, 2, none⟩ (.slice a4 (L.length + 1) c4) = w5 at H5 R5 ⊢
 have HN : Box (Calls Tryd.prog 68 #[.agg (rv n vd (.slice a4 (L.length + 1) c4) (l - 1) false (.slice ao O.length co)).toArray, .int .i64 2, .int .i64 (k : Int)] w5 fun e w' => ∃ v', e = .returned (.agg (rv n vd (.slice a4 (L.length + 1) c4) (l - 1) false v').toArray) /\ Ro w' v' (O ++ [(2, (k : Int))]) /\ Below w5.heap.size w5 w' /\ ∀ k, v'.ownBlock = some k -> w5.heap.size <= k) := ⟨rnoted_any w5 _ _ _ _ _ _ O 2 k H1.out rfl (H5.out.old HW.out.2.1) HW.out.2.2.2⟩
 go_wp2_with (first
  | (refine wpList_ldD rfl _ rfl S (rv n vd (.slice a4 (L.length + 1) c4) (l - 1) false (.slice ao O.length co)) rfl H5.out.hB rfl ?_)
  | (go_at_call 68; refine HN.out.mono ?_; rintro e w6 ⟨v6, rfl, r6, b6, o6⟩; have H6 : Box (Bx S w w6 (rv n vd (.slice a4 (L.length + 1) c4) (l - 1) false (.slice ao O.length co))) := ⟨H5.out.on b6⟩; have R6 : Box (Rw w6 (.slice a4 (L.length + 1) c4) (L ++ [(k, B)]) /\ Ro w6 v6 (O ++ [(2, (k : Int))]) /\ ∀ k, v6.ownBlock = some k -> S + 2 <= k) := ⟨R5.out.below b6, r6, fun k hk => by have := o6 k hk; have := H5.out.lt; omega⟩; clear r6 b6 o6)
  | (refine wpList_stD rfl _ _ rfl S w _ (rv n vd (.slice a4 (L.length + 1) c4) (l - 1) false v6) rfl rfl H6.out rfl (one_rv H1.out rfl (one_own R6.out.2.1)) ?_; intro w7 h7 b7 t7))
 (try simp only [Exit.inBlock, Exit.then])
 refine bodyPost_ret (results_D2 rfl _ _ (S + 1) _ rfl rfl h7) rfl ?_
 exact ⟨_, _, rfl, HS.out ▸ b7.below, own_new R6.out.1 t7 (fun k e => by omega) R4.out.2, own_new R6.out.2.1 t7 (fun k e => by omega) R6.out.2.2⟩
set_option maxRecDepth 20000 in
set_option maxHeartbeats 2000000 in
theorem rwrite_on (w : World) (n : Nat) (vd vw vo : Value) (l : Int) (L : List (Nat × List Int)) (O : List (Int × Int)) (hd : vd.oneCell' = true) (hw : Rw w vw L) (ho : Ro w vo O) (hL : L.length < 1000000) (hO : O.length < 1000000) (k : Nat) (B : List Int) (hx : rfit n (k : Int) B.length = 0) (hl : l < 0) :
  Calls Tryd.prog 46 #[.agg (rv n vd vw l false vo).toArray, .int .i64 (k : Int), .string (strOfNums B)] w fun e w' => ∃ vw' vo', e = .returned (.tuple #[.agg (rv n vd vw' l false vo').toArray, .int .i64 0]) /\ Below w.heap.size w w' /\ Rw w' vw' (L ++ [(k, B)]) /\ Ro w' vo' (O ++ [(2, (k : Int))]) := by
 have HX : Box (rfit n (k : Int) B.length = 0) := ⟨hx⟩
 have HW : Box (Rw w vw L /\ Ro w vo O /\ L.length < 1000000 /\ O.length < 1000000) := ⟨hw, ho, hL, hO⟩
 have H1 : Box (vd.oneCell' = true) := ⟨hd⟩
 have d0 : (l == 0) = false := by simp; omega
 have d1 : decide (0 < l) = false := by simp; omega
 clear hl
 clear hx hL hO hd
 obtain ⟨aw, cw, rfl⟩ := own_form2 hw
 obtain ⟨ao, co, rfl⟩ := own_form2 ho
 clear hw ho
 have H : Box (Bx w.heap.size w ((w.alloc (.cells (rv n vd (.slice aw L.length cw) l false (.slice ao O.length co)).toArray 36)).alloc (.cells #[.int .i64 0, .slice none 0 0, .slice none 0 0, .int .i64 0, .bool false, .slice none 0 0] 36)) (rv n vd (.slice aw L.length cw) l false (.slice ao O.length co))) := ⟨Bx.start w _ _ rfl⟩
 obtain ⟨S, HS⟩ : ∃ S, Box (w.heap.size = S) := ⟨_, ⟨rfl⟩⟩
 go_enter Tryd.func46, Tryd.ntmps46
 go_upto_region 1 with fail
 rw [HS.out] at H ⊢
 generalize (w.alloc (.cells (rv n vd (.slice aw L.length cw) l false (.slice ao O.length co)).toArray 36)).alloc (.cells #[.int .i64 0, .slice none 0 0, .slice none 0 0, .int .i64 0, .bool false, .slice none 0 0] 36) = w1 at H ⊢
 have c4 : w1.cell? ⟨S, 4, none⟩ = some (.bool false) := H.out.cell 4
 have HF : Box (Calls Tryd.prog 67 #[.agg (rv n vd (.slice aw L.length cw) l false (.slice ao O.length co)).toArray, .int .i64 (k : Int), .string (strOfNums B)] w1 fun e w' => e = .returned (.int .i64 0) /\ Below w1.heap.size w1 w') := ⟨(rfits_any w1 n vd (.slice aw L.length cw) (.slice ao O.length co) l false k (strOfNums B) B.length (size_str B)).mono fun e w' h => ⟨by rw [h.1, HX.out], h.2⟩⟩
 go_upto_region 4 with (first
  | (refine wpList_ldD rfl _ rfl S (rv n vd (.slice aw L.length cw) l false (.slice ao O.length co)) rfl H.out.hB rfl ?_)
  | (go_at_call 67; refine HF.out.mono ?_; rintro e w2 ⟨rfl, hb2⟩; have H2 : Box (Bx S w w2 (rv n vd (.slice aw L.length cw) l false (.slice ao O.length co))) := ⟨H.out.on hb2⟩; clear hb2))
 clear c4 HF
 have c3 : w2.cell? ⟨S, 3, none⟩ = some (.int .i64 l) := H2.out.cell 3
 have f3 := H2.out.froz 3
 go_upto_region 11 with fail
 have H3 : Box (Bx S w w2 (rv n vd (.slice aw L.length cw) l false (.slice ao O.length co))) := ⟨H2.out⟩
 clear c3 f3 H2
 generalize w2 = w3 at H3 ⊢
 have c2 : w3.cell? ⟨S, 2, none⟩ = some (.slice aw L.length cw) := H3.out.cell 2
 have HM : Box (Calls Tryd.prog 48 #[(.slice aw L.length cw), .agg (rc (k, B)).toArray] w3 fun e w' => ∃ v', e = .returned v' /\ Rw w' v' (L ++ [(k, B)]) /\ Below w3.heap.size w3 w' /\ ∀ k, v'.ownBlock = some k -> w3.heap.size <= k) := ⟨rmore_any w3 _ L (k, B) (H3.out.old HW.out.1) HW.out.2.2.1⟩
 go_upto_region 12 with (go_at_call 48; refine HM.out.mono ?_; rintro e w4 ⟨v4, rfl, r4, b4, o4⟩; obtain ⟨a4, c4, rfl⟩ := own_form2 r4; rw [List.length_append, List.length_singleton] at *; have H4 : Box (Bx S w w4 (rv n vd (.slice aw L.length cw) l false (.slice ao O.length co))) := ⟨H3.out.on b4⟩; have R4 : Box (Rw w4 (.slice a4 (L.length + 1) c4) (L ++ [(k, B)]) /\ ∀ k, (Value.slice a4 (L.length + 1) c4).ownBlock = some k -> S + 2 <= k) := ⟨r4, fun k hk => by have := o4 k hk; have := H3.out.lt; omega⟩; have q2 : w4.cell? ⟨S, 2, none⟩ = some (.slice aw L.length cw) := H4.out.cell 2; have f2 := H4.out.froz 2; clear r4 b4 o4)
 have H5 : Box (Bx S w (w4.setCell ⟨S, 2, none⟩ (.slice a4 (L.length + 1) c4)) (rv n vd (.slice a4 (L.length + 1) c4) l false (.slice ao O.length co))) := ⟨H4.out.put 2 _⟩
 have R5 : Box (Rw (w4.setCell ⟨S, 2, none⟩ (.slice a4 (L.length + 1) c4)) (.slice a4 (L.length + 1) c4) (L ++ [(k, B)])) := ⟨own_new R4.out.1 (turned_set (Turned.refl _ _) (fp := fun k => k = S) rfl _) (fun k e => by omega) R4.out.2⟩
 clear c2 q2 f2 H4
 generalize w4.setCell ⟨S, 2, none⟩ (.slice a4 (L.length + 1) c4) = w5 at H5 R5 ⊢
 have HN : Box (Calls Tryd.prog 68 #[.agg (rv n vd (.slice a4 (L.length + 1) c4) l false (.slice ao O.length co)).toArray, .int .i64 2, .int .i64 (k : Int)] w5 fun e w' => ∃ v', e = .returned (.agg (rv n vd (.slice a4 (L.length + 1) c4) l false v').toArray) /\ Ro w' v' (O ++ [(2, (k : Int))]) /\ Below w5.heap.size w5 w' /\ ∀ k, v'.ownBlock = some k -> w5.heap.size <= k) := ⟨rnoted_any w5 _ _ _ _ _ _ O 2 k H1.out rfl (H5.out.old HW.out.2.1) HW.out.2.2.2⟩
 go_wp2_with (first
  | (refine wpList_ldD rfl _ rfl S (rv n vd (.slice a4 (L.length + 1) c4) l false (.slice ao O.length co)) rfl H5.out.hB rfl ?_)
  | (go_at_call 68; refine HN.out.mono ?_; rintro e w6 ⟨v6, rfl, r6, b6, o6⟩; have H6 : Box (Bx S w w6 (rv n vd (.slice a4 (L.length + 1) c4) l false (.slice ao O.length co))) := ⟨H5.out.on b6⟩; have R6 : Box (Rw w6 (.slice a4 (L.length + 1) c4) (L ++ [(k, B)]) /\ Ro w6 v6 (O ++ [(2, (k : Int))]) /\ ∀ k, v6.ownBlock = some k -> S + 2 <= k) := ⟨R5.out.below b6, r6, fun k hk => by have := o6 k hk; have := H5.out.lt; omega⟩; clear r6 b6 o6)
  | (refine wpList_stD rfl _ _ rfl S w _ (rv n vd (.slice a4 (L.length + 1) c4) l false v6) rfl rfl H6.out rfl (one_rv H1.out rfl (one_own R6.out.2.1)) ?_; intro w7 h7 b7 t7))
 (try simp only [Exit.inBlock, Exit.then])
 refine bodyPost_ret (results_D2 rfl _ _ (S + 1) _ rfl rfl h7) rfl ?_
 exact ⟨_, _, rfl, HS.out ▸ b7.below, own_new R6.out.1 t7 (fun k e => by omega) R4.out.2, own_new R6.out.2.1 t7 (fun k e => by omega) R6.out.2.2⟩
end Go.Proofs.YthfobaeafapbnaaDoor.Disk
namespace Go.Proofs.YthfobaeafapbnaaDoor.Disk.Plain
end Go.Proofs.YthfobaeafapbnaaDoor.Disk.Plain
namespace Go.Proofs.YthfobaeafapbnaaDoor.Disk
open Go.RowKit Go.Proofs.YthfobaeafapbnaaDoor.Plain Go.Proofs.YthfobaeafapbnaaDoor.Disk.Plain
def Kp (B : Nat) (v : Value) (wd : World) : World -> Prop := fun w' => Turned (fun k => k = B) wd w' /\ w'.cell? ⟨B, 2, none⟩ = some v
section
variable {P : Program} {md : Region.Mode} {ops : Array Oper} {Q : Exit -> Act -> World -> Prop}
theorem begin_kp (B : Nat) (v : Value) {id : Nat} {a : Act} {w : World} (hm : P.follows .mixedOrders = true) (h : ∀ wd, wd = w.drew -> wpAnyH P .any ops Q (Kp B v wd) ops.size (Array.replicate ops.size false) a wd) : (Code.region id ops true).wp P Q a w :=
 wp_region_held (S := Kp B v w.drew) hm (h _ rfl)
theorem step_kp {S : World -> Prop} {i : Nat} {o : Oper} {fuel : Nat} {listed : Array Bool} {a : Act} {w : World} (ho : ops[i]? = some o) (hr : Region.ready md ops listed = [i]) (hw : Region.wanted o (yielded ops a.tmps) = true)
  (h : ∀ K' : Act -> World -> Prop, (∀ a1 w1, S w1 -> wpAnyH P md ops Q S fuel (listed.setIfInBounds i true) a1 w1 -> K' a1 w1) -> Oper.wp P o a w K' Q) : wpAnyH P md ops Q S (fuel + 1) listed a w := by
 refine wpAnyH_all hr (by simp) (fun j hj => ?_)
 simp only [List.mem_cons, List.not_mem_nil, or_false] at hj
 subst hj
 unfold wpOp
 simp only [ho, hw, if_true]
 exact .inl (h _ (fun a1 w1 hs hh => ⟨hs, hh⟩))
theorem wp_run {o : Oper} {a : Act} {w w' : World} {K : Act -> World -> Prop} {v : Value} (hr : (execOp a.eval o).run P w = .ok (.value v) w') (h : K (a.put o.dst v) w') : Oper.wp P o a w K Q := by
 unfold Oper.wp
 rw [hr]
 exact h
end
theorem infoW2 {x : Nat × List Int} : (Tryd.prog.info? 126).map (·.size) = some (rc x).length := by kernel_rfl
theorem infoWs : (Tryd.prog.info? 33).map (·.size) = some 1 := by kernel_rfl
theorem cells_own {w : World} {base n : Nat} {e : TypeId} {sz : Nat} {v : Value} {xs : List Value} (h : w.ownsRow base e sz v n xs) : v.cells = #[v] := by
 obtain ⟨a, c, rfl⟩ := own_form2 h
 rfl
theorem Rw.range {w : World} {g cap : Nat} {L : List (Nat × List Int)} (h : Rw w (.slice (some ⟨g, 0, none⟩) L.length cap) L) (k : Nat) (hk : k < L.length) : w.rangeAt g (k * 2) (rc L[k]) := by
 obtain ⟨g', c', e, _, hc⟩ := h.at_ (by omega)
 simp only [Value.slice.injEq, Option.some.injEq, Addr.mk.injEq, and_true, true_and] at e
 obtain ⟨rfl, rfl⟩ := e
 obtain ⟨h0, h1⟩ := hc k hk
 intro j v hv
 match j with
 | 0 => simp only [rc, List.getElem?_cons_zero, Option.some.injEq] at hv; subst hv; exact h0
 | 1 => simp only [rc, List.getElem?_cons_succ, List.getElem?_cons_zero, Option.some.injEq] at hv; subst hv; exact h1
 | j + 2 => simp [rc] at hv
theorem range_turned {w w' : World} {fp : Nat -> Prop} {g o : Nat} {cs : List Value} (h : w.rangeAt g o cs) (t : Turned fp w w') (hn : ¬ fp g) : w'.rangeAt g o cs := fun j v hv => t.cell (h j v hv) hn
theorem Rw.some_ {w : World} {a : Option Addr} {c : Nat} {L : List (Nat × List Int)} (h : Rw w (.slice a L.length c) L) (h0 : 0 < L.length) : ∃ g, a = some ⟨g, 0, none⟩ /\ g < w.heap.size := by
 obtain ⟨g, cap, e, hg, _⟩ := h.at_ h0
 simp only [Value.slice.injEq, true_and] at e
 exact ⟨g, e.1, hg⟩
def Fl (S : Nat) (w wr : World) (n : Nat) (vw vo : Value) (l : Int) (b : Bool) (M : List (Nat × List Int)) : Prop := ∃ vd', Bx S w wr (rv n vd' vw l b vo) /\ Rw wr vd' M /\ ∀ k, vd'.ownBlock = some k -> ¬ Two S k
theorem Fl.start {S : Nat} {w wr : World} {n : Nat} {vd vw vo : Value} {l : Int} {b : Bool} {M : List (Nat × List Int)} (h : Bx S w wr (rv n vd vw l b vo)) (hr : Rw w vd M) : Fl S w wr n vw vo l b M :=
 ⟨vd, h, h.old hr, fun k hk e => by have := (hr.lt k hk).2; have := h.sz; rcases e with rfl | rfl <;> omega⟩
theorem Fl.step {S : Nat} {w w4 : World} {n : Nat} {v4 vw vo : Value} {l : Int} {b : Bool} {M : List (Nat × List Int)} (h : Bx S w (w4.setCell ⟨S, 1, none⟩ v4) (rv n v4 vw l b vo)) (hr : Rw w4 v4 M) (hk : ∀ k, v4.ownBlock = some k -> S + 2 <= k) : Fl S w (w4.setCell ⟨S, 1, none⟩ v4) n vw vo l b M :=
 ⟨v4, h, own_new hr (turned_set (Turned.refl _ _) (fp := fun k => k = S) rfl _) (fun k e => by omega) hk, fun k hk' e => by have := hk k hk'; rcases e with rfl | rfl <;> omega⟩
end Go.Proofs.YthfobaeafapbnaaDoor.Disk
