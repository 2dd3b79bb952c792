/-
  Maps of ints in a walk; a range over a function whose variables are plain; how long what is got is.
-/
import Derived.Test.YtnicgmimhgbcfaaGreatDoorW5
namespace Go.Proofs.YtnicgmimhgbcfaaGreatDoor
set_option linter.unusedVariables false
set_option maxRecDepth 100000
open Go.RowKit Go.Shelf Plain Go.Proofs.YtnicgmimhgbcfaaGreatDoor.Shap.Plain

section
variable {P : Program} {t k e : TypeId}
theorem exec_look {o : Oper} {ρ : Operand → Value} {w : World} (m x : Operand) (ho : o.op = .lookup t m x false) (ht : P.underlying t = some (.map k e)) (hk : P.underlying k = some (.int .i64)) (z : Value) (hz : ∀ w : World, (zeroValue e).run P w = .ok z w) (b : Nat) (f : Int → Option Value) (hm : ρ m = .map (some b)) (hM : Mp w b f) (i : Int) (hx : ρ x = .int .i64 i) :
    (execOp ρ o).run P w = .ok (.value ((f i).getD z)) w := by
  have := hM.look ht hk z (hz w) i false
  unfold execOp
  simp only [ho, hm, hx, Sem.run_bind, this]
  rfl
theorem exec_lookOk {o : Oper} {ρ : Operand → Value} {w : World} (m x : Operand) (ho : o.op = .lookup t m x true) (ht : P.underlying t = some (.map k e)) (hk : P.underlying k = some (.int .i64)) (z : Value) (hz : ∀ w : World, (zeroValue e).run P w = .ok z w) (b : Nat) (f : Int → Option Value) (hm : ρ m = .map (some b)) (hM : Mp w b f) (i : Int) (hx : ρ x = .int .i64 i) :
    (execOp ρ o).run P w = .ok (.value (.tuple #[(f i).getD z, .bool (f i).isSome])) w := by
  have := hM.look ht hk z (hz w) i true
  unfold execOp
  simp only [ho, hm, hx, Sem.run_bind, this]
  rfl
theorem exec_put {o : Oper} {ρ : Operand → Value} {w : World} (m x y : Operand) (ho : o.op = .mapUpdate t m x y ∨ o.op = .insert t m x y) (ht : P.underlying t = some (.map k e)) (hk : P.underlying k = some (.int .i64)) (b : Nat) (f : Int → Option Value) (hm : ρ m = .map (some b)) (hM : Mp w b f) (i : Int) (hx : ρ x = .int .i64 i) :
    ∃ w', (execOp ρ o).run P w = .ok .skip w' ∧ Mp w' b (fput f i (ρ y)) ∧ But b w w' ∧ w'.heap.size = w.heap.size := by
  obtain ⟨w', h1, h2⟩ := hM.put ht hk i (ρ y)
  refine ⟨w', ?_, h2⟩
  unfold execOp
  rcases ho with ho | ho <;>
  · simp only [ho, hm, hx, Sem.run_bind, h1]
    rfl
variable {md : Region.Mode} {ops : Array Oper} {Q : Exit → Act → World → Prop}
/-- A drawn region's last operation puts a key. -/
theorem last_map {R : Nat} {i : Nat} {o : Oper} {fuel : Nat} {listed : Array Bool} {a : Act} {w : World} (ho : ops[i]? = some o) (hr : Region.ready md ops listed = [i]) (hw : Region.wanted o (yielded ops a.tmps) = true) (hd : Region.ready md ops (listed.setIfInBounds i true) = [])
    (m x y : Operand) (hop : o.op = .mapUpdate t m x y ∨ o.op = .insert t m x y) (ht : P.underlying t = some (.map k e)) (hk : P.underlying k = some (.int .i64)) (f : Int → Option Value) (hm : a.eval m = .map (some R)) (hM : Mp w R f) (j : Int) (hx : a.eval x = .int .i64 j) (v : Value) (hy : a.eval y = v)
    (h : ∀ w', Mp w' R (fput f j v) → But R w w' → w'.heap.size = w.heap.size → Q .normal (a.put o.dst undef) w') : wpAnyH P md ops Q (But R w) (fuel + 1) listed a w := by
  refine wpAnyH_all hr (by simp) (fun j' hj => ?_)
  simp only [List.mem_cons, List.not_mem_nil, or_false] at hj
  subst hj
  unfold wpOp
  simp only [ho, hw, if_true]
  obtain ⟨w', h1, h2, h3, h4⟩ := exec_put (ρ := a.eval) m x y hop ht hk R f hm hM j hx
  rw [hy] at h2
  refine .inl ?_
  unfold Oper.wp
  rw [h1]
  exact ⟨h3, wpAnyH_done hd (h w' h2 h3 h4) _⟩
end
theorem zeroRef (w : World) : (zeroValue 26).run Tryz.prog w = .ok (.agg (ra zr)) w := by kernel_rfl
theorem zeroNode (w : World) : (zeroValue 148).run Tryz.prog w = .ok (.agg (na zn)) w := by kernel_rfl
theorem zeroBytes (w : World) : (zeroValue 62).run Tryz.prog w = .ok (.slice none 0 0) w := by kernel_rfl
/-- A range over a function whose variables are plain slots. -/
theorem range_simple {α : Type} {n : Nat} {g : Operand} {ps : Array Tmp} {assign body : Code} {Q : Exit → Act → World → Prop} {a : Act} {w : World} (S : Nat → Prop)
    (h1 : 1 ≤ n) {gf : Nat} {lb : Array Value} (hg : a.eval g = .func (.func gf) #[] lb) (eg : ∀ args w, (callFunc gf args).run Tryz.prog w = .ok (.enter gf args) w)
    {encs : α → Array Value} {T Tp : List α → Prop} {N : Nat} (hseq : SeqStopsK Fence.wide (n - 1) Tryz.prog gf lb encs (Kps S) T Tp N w) (hps : ∀ x, (encs x).size = ps.size)
    (I : List α → World → Prop) (Ix : Code → List α → World → Prop) (hI : OwnFrom w.heap.size I) (hIx : ∀ c, OwnFrom w.heap.size (Ix c)) (h0 : I [] w) (asg : Act → α → Act)
    (hassign : ∀ (l : Nat) (x : α) (W : World) (K : Act → World → Prop), K (asg a x) W →
      assign.wpIn (Fence.wide.inRound l) (n - 1 - 1) Tryz.prog (Exit.then K (fun _ _ _ => False)) { tmps := (ps.zip (encs x)).foldl (fun t (p, v) => t.setIfInBounds p v) a.tmps, defers := [] } W)
    (hbody : ∀ (l : Nat) (pre : List α) (x : α) (W : World), w.heap.size ≤ l → (∃ r, W.heap[l]? = some (.loop r)) → I pre W → pre.length < N → body.wpIn (Fence.wide.inRound l) (n - 1 - 1) Tryz.prog (ownPostG w.heap.size (Kps S) I Ix (pre ++ [x]) W) (asg a x) W)
    (hdone : ∀ (D : Nat) (xs : List α) (W : World), w.heap.size ≤ D → T xs → I xs W → W.heap[D]? = some (.deferred (some [])) → Q .normal { a with defers := { target := .collected D, args := #[] } :: a.defers } W)
    (hstop : ∀ (D : Nat) (c : Code) (pre : List α) (W : World), w.heap.size ≤ D → Tp pre → Ix c pre W → W.heap[D]? = some (.deferred (some [])) → c.wpIn Fence.wide n Tryz.prog Q { a with defers := { target := .collected D, args := #[] } :: a.defers } W) :
    (Code.rangeFunc g ps assign body).wpIn Fence.wide n Tryz.prog Q a w :=
  wpIn_rangeFunc_ownH rfl h1 hg trivial eg hseq kps_t (fun W l o o' h1 h2 h3 h4 => kps_b W l o o' h1 h2 h3 h4) (Below.refl _ _) hps I Ix hI hIx h0 (fun x a' _ => a' = asg a x) (fun x a' _ X Y row hs _ _ => hs)
    (fun l pre x W K hIp hK => hassign l x W K (hK _ _ (KeepsFrom.refl _ _) (Kps.refl _ _) hIp rfl))
    (fun l pre x a' W hl hr hIp hx hlt => by subst hx; exact hbody l pre x W hl hr hIp hlt) hdone hstop
/-- What is got without an error has 160 bytes. -/
theorem getM_len (K : List Int) (n : Nat) (d : Disk.Dk) (l i : Nat) (r : Rf) (h : (getM (Yk K) Xd n d l i r).2.1 = 0) : (getM (Yk K) Xd n d l i r).2.2.length = 160 := by
  unfold getM at h ⊢
  by_cases h0 : r.s = 0
  · simp [h0, y160]
  · simp only [h0, if_false] at h ⊢
    by_cases h1 : (Xd.rd d (pc n l i r)).2.1 ≠ 0
    · rw [if_pos h1] at h
      exact absurd h h1
    · rw [if_neg h1] at h ⊢
      by_cases h2 : r.d = (Yk K).hs l (pc n l i r) (Xd.rd d (pc n l i r)).2.2
      · simp only [if_pos h2] at h ⊢
        by_cases hF : Seal.Fit (Xd.rd d (pc n l i r)).2.2 160
        · have ho : (Yk K).op (pc n l i r) (Xd.rd d (pc n l i r)).2.2 = some (num (Xd.rd d (pc n l i r)).2.2 0 8, Seal.op K (pc n l i r : Nat) (Xd.rd d (pc n l i r)).2.2 160) := if_pos hF
          rw [ho] at h ⊢
          simp only at h ⊢
          split at h
          · rename_i h3
            rw [if_pos h3]
            exact Seal.length_op _ _ _ _
          · simp at h
        · have ho : (Yk K).op (pc n l i r) (Xd.rd d (pc n l i r)).2.2 = none := if_neg hF
          rw [ho] at h
          simp at h
      · simp [if_neg h2] at h
/-- The refs that a node tells of the items below it, known. -/
def fputs (n l i : Nat) (N : List Rf) (f : Int → Option Value) (ks : List (Fin 4)) : Int → Option Value := ks.foldl (fun g k => fput g (itm n l (4 * i + k.val) : Nat) (.agg (ra (N.getD k.val zr)))) f
theorem fputs_snoc (n l i : Nat) (N : List Rf) (f : Int → Option Value) (ks : List (Fin 4)) (k : Fin 4) : fputs n l i N f (ks ++ [k]) = fput (fputs n l i N f ks) (itm n l (4 * i + k.val) : Nat) (.agg (ra (N.getD k.val zr))) := by simp [fputs]
end Go.Proofs.YtnicgmimhgbcfaaGreatDoor
