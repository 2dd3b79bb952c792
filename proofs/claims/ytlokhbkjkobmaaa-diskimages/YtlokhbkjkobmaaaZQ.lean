/-
  The reference of layer 6: fits, At, New, Stop.
-/
import Derived.Test.YtlokhbkjkobmaaaZP
import Derived.Deep.WholeRow
namespace Go.Proofs.Ytlokhbkjkobmaaa
set_option linter.unusedVariables false
open Go.RowKit Plain

/-- The error of a place, and bytes for it. -/
def rfit (n : Nat) (i : Int) (len : Nat) : Int := if decide (0 ≤ i ∧ i < (n : Int)) then (if len = 192 then 0 else 1) else 12
theorem box_cells {w : World} {V : List Value} {t : TypeId} (k : Nat) : (w.alloc (.cells V.toArray t)).cell? ⟨w.heap.size, k, none⟩ = V.toArray[k]? := cell_of_row _ _ _ _ _ _ (al_at rfl)
set_option maxRecDepth 20000 in
set_option maxHeartbeats 2000000 in
theorem rfits_any (w : World) (n : Nat) (vd vw vo : Value) (l : Int) (b : Bool) (i : Int) (s : ByteArray) (len : Nat) (hs : s.size = len) :
    Calls Try.prog 44 #[.agg (rv n vd vw l b vo).toArray, .int .i64 i, .string s] w fun e w' => e = .returned (.int .i64 (rfit n i len)) ∧ Below w.heap.size w w' := by
  have H : Box ((w.alloc (.cells (rv n vd vw l b vo).toArray 31)).cell? ⟨w.heap.size, 0, none⟩ = some (.int .i64 (n : Int))) := ⟨box_cells 0⟩
  have HB : Box (Below w.heap.size w (w.alloc (.cells (rv n vd vw l b vo).toArray 31))) := ⟨(Below.refl _ w).alloc (Nat.le_refl _) _⟩
  have E : Box (rfit n i len = if decide (0 ≤ i ∧ i < (n : Int)) then (if len = 192 then 0 else 1) else 12) := ⟨rfl⟩
  obtain ⟨S, HS⟩ : ∃ S, Box (w.heap.size = S) := ⟨_, ⟨rfl⟩⟩
  go_enter Try.func44, Try.ntmps44
  go_upto_region 1 with fail
  rw [HS.out] at H HB ⊢
  generalize w.alloc (.cells (rv n vd vw l b vo).toArray 31) = w1 at H HB ⊢
  have c0 := H.out
  by_cases h0 : 0 ≤ i
  · have d0 : decide (i < 0) = false := by simpa using h0
    by_cases h1 : i < (n : Int)
    · have d1 : decide ((n : Int) ≤ i) = false := by simpa using h1
      by_cases hl : len = 192
      · have hl' : ((s.size : Int) == 192) = true := by simp [hs, hl]
        go_wp2
        go_ret
        exact ⟨by rw [E.out]; simp [h0, h1, hl], HS.out ▸ HB.out⟩
      · have hl' : ((s.size : Int) == 192) = false := by simp [hs]; omega
        go_wp2
        go_ret
        exact ⟨by rw [E.out]; simp [h0, h1, hl], HS.out ▸ HB.out⟩
    · have d1 : decide ((n : Int) ≤ i) = true := by simp; omega
      go_wp2
      go_ret
      exact ⟨by rw [E.out, if_neg (by simp; omega)]; rfl, HS.out ▸ HB.out⟩
  · have d0 : decide (i < 0) = true := by simp; omega
    go_wp2
    go_ret
    exact ⟨by rw [E.out, if_neg (by simp; omega)]; rfl, HS.out ▸ HB.out⟩
/-- The bytes of a place, as they are done. -/
def rat (L : List (Nat × List Int)) (i : Nat) : List Int := (lastOf L i).getD z192
set_option maxRecDepth 20000 in
set_option maxHeartbeats 2000000 in
theorem rat_any (w : World) (n : Nat) (vd vw vo : Value) (l : Int) (b : Bool) (L : List (Nat × List Int)) (i : Nat) (h : Rw w vd L) (hl : L.length < 1000000) :
    Calls Try.prog 35 #[.agg (rv n vd vw l b vo).toArray, .int .i64 (i : Int)] w fun e w' => e = .returned (.string (strOfNums (rat L i))) ∧ Below w.heap.size w w' := by
  have HB : Box (Below w.heap.size w (w.alloc (.cells (rv n vd vw l b vo).toArray 31))) := ⟨(Below.refl _ w).alloc (Nat.le_refl _) _⟩
  have H : Box ((w.alloc (.cells (rv n vd vw l b vo).toArray 31)).cell? ⟨w.heap.size, 1, none⟩ = some vd) := ⟨box_cells 1⟩
  have HW : Box (Calls Try.prog 47 #[vd, .int .i64 (i : Int)] (w.alloc (.cells (rv n vd vw l b vo).toArray 31)) fun e w' => e = .returned (lst L i) ∧ w.alloc (.cells (rv n vd vw l b vo).toArray 31) = w') := ⟨rlast_any _ vd L i (h.below HB.out) hl⟩
  have HZ : Box (w.heap.size ≤ (w.alloc (.cells (rv n vd vw l b vo).toArray 31)).heap.size) := ⟨by simp⟩
  obtain ⟨a, cap, rfl⟩ := own_form2 h
  obtain ⟨S, HS⟩ : ∃ S, Box (w.heap.size = S) := ⟨_, ⟨rfl⟩⟩
  clear h hl
  go_enter Try.func35, Try.ntmps35
  go_upto_region 1 with fail
  rw [HS.out] at H HB HZ ⊢
  generalize w.alloc (.cells (rv n (.slice a L.length cap) vw l b vo).toArray 31) = w1 at H HB HW HZ ⊢
  have c1 := H.out
  cases hlo : lastOf L i with
  | some B =>
    have e1 : Box (lst L i = .tuple #[.string (strOfNums B), .bool true] ∧ rat L i = B) := ⟨by rw [lst, hlo], by rw [rat, hlo]; rfl⟩
    rw [e1.out.1] at HW
    clear hlo
    go_wp2_with (go_at_call 47; refine HW.out.mono ?_; rintro e w' ⟨rfl, rfl⟩)
    go_ret
    exact ⟨by rw [e1.out.2]; rfl, HS.out ▸ HB.out⟩
  | none =>
    have e1 : Box (lst L i = .tuple #[.string ByteArray.empty, .bool false] ∧ rat L i = z192) := ⟨by rw [lst, hlo], by rw [rat, hlo]; rfl⟩
    rw [e1.out.1] at HW
    clear hlo
    have HC : Box (Bytes (w1.alloc (.cells (u8s z192) 5)) (some ⟨w1.heap.size, 0, none⟩) 192 z192) := ⟨by have := bytes_of_row (w := w1.alloc (.cells (u8s z192) 5)) (g := w1.heap.size) (t := 5) (fr := (0, 0)) byt_z192 (al_at rfl); rwa [length_z192] at this⟩
    have HE : Box (Below S w (w1.alloc (.cells (u8s z192) 5))) := ⟨HB.out.alloc HZ.out _⟩
    go_wp2_with (first
      | (go_at_call 47; refine HW.out.mono ?_; rintro e w' ⟨rfl, rfl⟩)
      | (refine wpList_run rfl _ _ (exec_make192 _ _ rfl rfl rfl) ?_)
      | (refine wpList_run rfl _ _ (exec_conv _ rfl rfl HC.out) ?_))
    go_ret
    exact ⟨by rw [e1.out.2]; rfl, HS.out ▸ HE.out⟩
/-- A new disk of the reference. -/
def rd0 (n : Nat) : Rd := ⟨n, [], [], -1, false, []⟩
theorem Rw.nil (w : World) : Rw w (.slice none 0 0) [] := World.ownsRow_nil _ _ _ _
theorem Ro.nil (w : World) : Ro w (.slice none 0 0) [] := World.ownsRow_nil _ _ _ _
theorem newD (w : World) (Z V : List Value) (hZ : Z.length = 6) (hV : V.length = 6) (h1 : V.toArray.all (·.oneCell') = true) : (storeVar 31 ⟨w.heap.size, 0, none⟩ (.agg V.toArray)).run Try.prog (w.alloc (.cells Z.toArray 31)) = .ok () (w.alloc (.cells V.toArray 31)) := by
  have := run_storeVar_row (P := Try.prog) (w.alloc (.cells Z.toArray 31)) w.heap.size _ 31 Z.toArray V.toArray (al_at rfl) (by rw [infoD]; simp [hV]) (by simp [hZ, hV]) h1
  rw [this, World.setRow_alloc_new]
/-- The answer is laid into the block made last. -/
theorem wpList_stN {ops : Array Oper} {rest : List Oper} {o : Oper} {act : Act} {w : World} {Q : Exit → Act → World → Prop} (hgd : o.guard = none) (x y : Operand) (ho : o.op = .store 31 x y) (Z V : List Value) (hx : act.eval x = .pointer (some ⟨w.heap.size, 0, none⟩)) (hy : act.eval y = .agg V.toArray)
    (hZ : Z.length = 6) (hV : V.length = 6) (h1 : V.toArray.all (·.oneCell') = true)
    (h : wpList Try.prog ops Q rest (act.put o.dst undef) (w.alloc (.cells V.toArray 31))) : wpList Try.prog ops Q (o :: rest) act (w.alloc (.cells Z.toArray 31)) := by
  refine wpList_plain hgd fun _ hK => ?_
  unfold Oper.wp execOp
  simp only [ho, hx, hy, Instr.storeAt, Instr.sureAddr, Sem.run_bind, Sem.run_pure, Result.andThen_ok, newD w Z V hZ hV h1]
  exact hK _ _ h
theorem zeroD : (Try.prog.info? 31).map (·.zero) = some (some (.agg (rv 0 (.slice none 0 0) (.slice none 0 0) 0 false (.slice none 0 0)).toArray)) := by kernel_rfl
set_option maxRecDepth 20000 in
set_option maxHeartbeats 2000000 in
theorem rnew_any (w : World) (n : Nat) (hn : 1 ≤ n ∧ n ≤ 4096) : Calls Try.prog 11 #[.int .i64 (n : Int)] w fun e w' => ∃ v, e = .returned (.tuple #[v, .int .i64 0]) ∧ Rv w' v (rd0 n) ∧ Below w.heap.size w w' := by
  have HB : Box (Below w.heap.size w (w.alloc (.cells (rv n (.slice none 0 0) (.slice none 0 0) (-1) false (.slice none 0 0)).toArray 31))) := ⟨(Below.refl _ w).alloc (Nat.le_refl _) _⟩
  have h1 : decide ((n : Int) < 1) = false := by simp; omega
  have h2 : decide (4096 < (n : Int)) = false := by simp; omega
  clear hn
  go_enter Try.func11, Try.ntmps11
  go_wp2_with (first
    | (refine wpList_run rfl _ _ (exec_alloc 31 rfl _ zeroD) ?_)
    | (refine wpList_stN rfl _ _ rfl _ (rv n (.slice none 0 0) (.slice none 0 0) (-1) false (.slice none 0 0)) rfl rfl rfl rfl (one_rv rfl rfl rfl) ?_))
  (try simp only [Exit.inBlock, Exit.then])
  refine bodyPost_ret (results_D2 rfl _ _ w.heap.size (rv n (.slice none 0 0) (.slice none 0 0) (-1) false (.slice none 0 0)) rfl rfl (al_at rfl)) rfl ?_
  exact ⟨_, rfl, ⟨_, _, _, rfl, Rw.nil _, Rw.nil _, Ro.nil _⟩, HB.out⟩
set_option maxRecDepth 20000 in
set_option maxHeartbeats 2000000 in
theorem rnew_no (w : World) (n : Int) (hn : n < 1 ∨ 4096 < n) : Calls Try.prog 11 #[.int .i64 n] w fun e w' => ∃ v, e = .returned (.tuple #[v, .int .i64 1]) ∧ Rv w' v ⟨0, [], [], 0, false, []⟩ ∧ Below w.heap.size w w' := by
  have HB : Box (Below w.heap.size w (w.alloc (.cells (rv 0 (.slice none 0 0) (.slice none 0 0) 0 false (.slice none 0 0)).toArray 31))) := ⟨(Below.refl _ w).alloc (Nat.le_refl _) _⟩
  by_cases h1 : n < 1
  · have h1 : decide (n < 1) = true := by simpa using h1
    clear hn
    go_enter Try.func11, Try.ntmps11
    go_wp2_with (first
      | (refine wpList_run rfl _ _ (exec_alloc 31 rfl _ zeroD) ?_)
      | (refine wpList_stN rfl _ _ rfl _ (rv 0 (.slice none 0 0) (.slice none 0 0) 0 false (.slice none 0 0)) rfl rfl rfl rfl (one_rv rfl rfl rfl) ?_))
    (try simp only [Exit.inBlock, Exit.then])
    refine bodyPost_ret (results_D2 rfl _ _ w.heap.size (rv 0 (.slice none 0 0) (.slice none 0 0) 0 false (.slice none 0 0)) rfl rfl (al_at rfl)) rfl ?_
    exact ⟨_, rfl, ⟨_, _, _, rfl, Rw.nil _, Rw.nil _, Ro.nil _⟩, HB.out⟩
  · have h1 : decide (n < 1) = false := by simpa using h1
    have h2 : decide (4096 < n) = true := by simp at h1 ⊢; omega
    clear hn
    go_enter Try.func11, Try.ntmps11
    go_wp2_with (first
      | (refine wpList_run rfl _ _ (exec_alloc 31 rfl _ zeroD) ?_)
      | (refine wpList_stN rfl _ _ rfl _ (rv 0 (.slice none 0 0) (.slice none 0 0) 0 false (.slice none 0 0)) rfl rfl rfl rfl (one_rv rfl rfl rfl) ?_))
    (try simp only [Exit.inBlock, Exit.then])
    refine bodyPost_ret (results_D2 rfl _ _ w.heap.size (rv 0 (.slice none 0 0) (.slice none 0 0) 0 false (.slice none 0 0)) rfl rfl (al_at rfl)) rfl ?_
    exact ⟨_, rfl, ⟨_, _, _, rfl, Rw.nil _, Rw.nil _, Ro.nil _⟩, HB.out⟩
/-- A row that was there ahead of the call. -/
theorem Bx.old {S : Nat} {w0 w' : World} {V : List Value} (h : Bx S w0 w' V) {base n : Nat} {e : TypeId} {sz : Nat} {v : Value} {xs : List Value} (h1 : w0.ownsRow base e sz v n xs) : w'.ownsRow base e sz v n xs :=
  own_turned h1 h.tu (fun k hk e => by have := (h1.lt k hk).2; have := h.sz; rcases e with rfl | rfl <;> omega)
/-- A row made by the call itself. -/
theorem own_new {S : Nat} {w w' : World} {base n : Nat} {e : TypeId} {sz : Nat} {v : Value} {xs : List Value} {fp : Nat → Prop} (h1 : w.ownsRow base e sz v n xs) (t : Turned fp w w') (hf : ∀ k, fp k → k < S + 2) (hk : ∀ k, v.ownBlock = some k → S + 2 ≤ k) : w'.ownsRow base e sz v n xs :=
  own_turned h1 t (fun k hk' e => by have := hk k hk'; have := hf k e; omega)
end Go.Proofs.Ytlokhbkjkobmaaa
