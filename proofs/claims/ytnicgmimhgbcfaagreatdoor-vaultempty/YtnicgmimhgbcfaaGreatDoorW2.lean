/-
  A vault's fields in memory; what places, topItem, level, place, path and otherSide of package vault answer.
-/
import Derived.Test.YtnicgmimhgbcfaaGreatDoorW1
namespace Go.Proofs.YtnicgmimhgbcfaaGreatDoor
set_option linter.unusedVariables false
set_option maxRecDepth 100000
open Go.RowKit Plain Go.Proofs.YtnicgmimhgbcfaaGreatDoor.Shap.Plain

theorem vcs_at (D : Nat) (v : Vt) (sa : Option Addr) (sc : Nat) (hk : v.key.length = 32) (ht : v.top.d.length = 32) :
    (vcs D v sa sc)[0]? = some (.pointer (some ⟨D, 0, none⟩)) ∧ (∀ j x, (v.key.map (Value.int .u8))[j]? = some x → (vcs D v sa sc)[1 + j]? = some x) ∧ (vcs D v sa sc)[33]? = some (.int .u64 (v.n : Int)) ∧ (vcs D v sa sc)[34]? = some (.slice sa (wid v.n).length sc) ∧
    (∀ j x, (rc v.top)[j]? = some x → (vcs D v sa sc)[35 + j]? = some x) ∧ (vcs D v sa sc)[68]? = some (.int .u64 v.nx) ∧ (vcs D v sa sc)[69]? = some (.int .u64 v.lim) := by
  have hr : (rc v.top).length = 33 := by simp [rc, ht]
  have hm : (v.key.map (Value.int .u8)).length = 32 := by simp [hk]
  have key : ∀ j, (vcs D v sa sc)[33 + j]? = (Value.int .u64 (v.n : Int) :: .slice sa (wid v.n).length sc :: (rc v.top ++ [.int .u64 v.nx, .int .u64 v.lim]))[j]? := fun j => by
    rw [vcs, show 33 + j = (32 + j) + 1 by omega, List.getElem?_cons_succ, List.getElem?_append_right (by omega), hm]
    congr 1
    omega
  refine ⟨rfl, fun j x hx => ?_, key 0, key 1, fun j x hx => ?_, ?_, ?_⟩
  · have hj := (List.getElem?_eq_some_iff.1 hx).1
    rw [vcs, Nat.add_comm, List.getElem?_cons_succ, List.getElem?_append_left hj]
    exact hx
  · have hj := (List.getElem?_eq_some_iff.1 hx).1
    rw [show 35 + j = 33 + (j + 2) by omega, key, List.getElem?_cons_succ, List.getElem?_cons_succ, List.getElem?_append_left hj]
    exact hx
  · rw [show 68 = 33 + (33 + 2) by rfl, key, List.getElem?_cons_succ, List.getElem?_cons_succ, List.getElem?_append_right (by omega), hr]
    rfl
  · rw [show 69 = 33 + (34 + 2) by rfl, key, List.getElem?_cons_succ, List.getElem?_cons_succ, List.getElem?_append_right (by omega), hr]
    rfl
/-- What is read of a vault's cells. -/
structure Vrd (w : World) (V D : Nat) (v : Vt) (sa : Option Addr) (sc : Nat) : Prop where
  disk : w.cell? ⟨V, 0, none⟩ = some (.pointer (some ⟨D, 0, none⟩))
  key : w.rangeAt V 1 (v.key.map (Value.int .u8))
  leaves : w.cell? ⟨V, 33, none⟩ = some (.int .u64 (v.n : Int))
  shp : w.rangeAt V 34 [.slice sa (wid v.n).length sc]
  top : w.rangeAt V 35 (rc v.top)
  nx : w.cell? ⟨V, 68, none⟩ = some (.int .u64 v.nx)
  lim : w.cell? ⟨V, 69, none⟩ = some (.int .u64 v.lim)
theorem vrd_of {w : World} {V D : Nat} {v : Vt} {sa : Option Addr} {sc : Nat} (h : w.heap[V]? = some (.cells (vcs D v sa sc).toArray 102 (0, 0))) (ok : v.Ok) : Vrd w V D v sa sc := by
  obtain ⟨a0, a1, a2, a3, a4, a5, a6⟩ := vcs_at D v sa sc ok.key ok.top.ld
  have hc : ∀ i x, (vcs D v sa sc)[i]? = some x → w.cell? ⟨V, i, none⟩ = some x := fun i x hx => by
    rw [cell_of_row _ _ _ _ _ _ h]
    simpa using hx
  refine ⟨hc _ _ a0, fun j x hx => hc _ _ (a1 j x hx), hc _ _ a2, fun j x hx => ?_, fun j x hx => hc _ _ (a4 j x hx), hc _ _ a5, hc _ _ a6⟩
  cases j with
  | zero => simp at hx; subst hx; exact hc _ _ a3
  | succ j => simp at hx
theorem VC.rd {w0 w : World} {V D : Nat} {fp : Nat → Prop} {v : Vt} {d : Disk.Dk} {sa : Option Addr} {sc : Nat} (h : VC w0 w V D fp v d sa sc) : Vrd w V D v sa sc := vrd_of h.row h.ok
theorem infoShp : (Tryz.prog.info? 97).map (·.size) = some 1 := by kernel_rfl
theorem infoRef : (Tryz.prog.info? 26).map (·.size) = some 33 := by kernel_rfl
theorem infoSum : (Tryz.prog.info? 23).map (·.size) = some 32 := by kernel_rfl
/-- A row loaded from the midst of a block. -/
theorem wpList_ldMid {ops : Array Oper} {rest : List Oper} {o : Oper} {a : Act} {w : World} {Q : Exit → Act → World → Prop} (hg : o.guard = none) (t : TypeId) (d : TypeDesc) (x : Operand) (ho : o.op = .load t x) (hu : Tryz.prog.underlying t = some d) (hd : d.isRow = true) (b off : Nat) (hx : a.eval x = .pointer (some ⟨b, off, none⟩)) (cs : List Value) (hi : (Tryz.prog.info? t).map (·.size) = some cs.length) (hc : w.rangeAt b off cs)
    (h : wpList Tryz.prog ops Q rest (a.put o.dst (.agg cs.toArray)) w) : wpList Tryz.prog ops Q (o :: rest) a w := wpList_run hg _ _ (exec_load_mid t d x ho hu hd b off hx cs hi hc) h

theorem otherSide_any (r : Rf) (w : World) (hr : OkR r) : Calls Tryz.prog 92 #[.int .u64 r.s] w fun e w' => e = .returned (.int .i64 (ns r : Nat)) ∧ w = w' := by
  have HS : Box (∀ x, Calls Tryz.prog 105 #[.int .u64 r.s] x fun e w' => e = .returned (.int .i64 (r.s % 2)) ∧ x = w') := ⟨fun x => side_any r.s x hr.hs⟩
  by_cases h0 : r.s = 0
  · have e : ns r = 0 := by simp [ns, h0]
    rw [h0, e]
    go_enter Tryz.func92, Tryz.ntmps92
    go_wp2
    go_ret
    exact ⟨rfl, rfl⟩
  · have hq : (r.s == 0) = false := by simpa using h0
    have e : ((ns r : Nat) : Int) = 1 - r.s % 2 := by
      unfold ns sd
      rw [if_neg h0]
      omega
    rw [e]
    have hw : IntKind.i64.wrap (1 - r.s % 2) = 1 - r.s % 2 := by rw [IntKind.wrap_i64]; omega
    clear hr h0 e
    go_enter Tryz.func92, Tryz.ntmps92
    go_wp2_with (go_at_call 105; refine (HS.out _).mono ?_; rintro e w' ⟨rfl, rfl⟩)
    go_ret
    exact ⟨rfl, rfl⟩
/-- How many items there are, of a shape that is no nonsense. -/
theorem items_of (n : Nat) (a : Option Addr) (cap : Nat) (w : World) (h1 : 1 ≤ n) (h2 : n ≤ 1024) (hI : Shap.Ints w a (wid n).length (wid n)) :
    Calls Tryz.prog 68 #[.agg #[.slice a (wid n).length cap]] w fun e w' => e = .returned (.int .i64 (off n (topL n + 1) : Nat)) ∧ Below w.heap.size w w' := by
  have := Shap.items_any a (wid n).length cap (wid n) w hI (shp_wid n h1 h2)
  rw [wid_items n h1 h2] at this
  exact this
theorem off_le (n : Nat) (h1 : 1 ≤ n) (h2 : n ≤ 1024) : 2 ≤ off n (topL n + 1) ∧ off n (topL n + 1) ≤ 6144 := by
  have h := shp_wid n h1 h2
  have e := wid_items n h1 h2
  have hs := h.sum (wid n).length
  have h6 := h.hi
  have hm := h.mono 2 (wid n).length h.lo
  have b0 := h.bd 0 (by have := h.lo; omega)
  have b1 := h.bd 1 (by have := h.lo; omega)
  have e2 : sumTo (wid n) 2 = (wid n).getD 0 0 + (wid n).getD 1 0 := by simp [sumTo]
  omega
theorem places_any (n : Nat) (a : Option Addr) (cap : Nat) (w : World) (h1 : 1 ≤ n) (h2 : n ≤ 1024) (hI : Shap.Ints w a (wid n).length (wid n)) :
    Calls Tryz.prog 33 #[.agg #[.slice a (wid n).length cap]] w fun e w' => e = .returned (.int .i64 (2 * off n (topL n + 1) : Nat)) ∧ Below w.heap.size w w' := by
  have HC : Box (Calls Tryz.prog 68 #[.agg #[.slice a (wid n).length cap]] (w.alloc (.cells #[.slice a (wid n).length cap] 97)) fun e w' => e = .returned (.int .i64 (off n (topL n + 1) : Nat)) ∧ Below (w.alloc (.cells #[.slice a (wid n).length cap] 97)).heap.size (w.alloc (.cells #[.slice a (wid n).length cap] 97)) w') := ⟨items_of n a cap _ h1 h2 (hI.below (Shap.box_below _ _))⟩
  have HB : Box (Below w.heap.size w (w.alloc (.cells #[.slice a (wid n).length cap] 97))) := ⟨Shap.box_below _ _⟩
  have hr : (w.alloc (.cells #[.slice a (wid n).length cap] 97)).heap[w.heap.size]? = some (.cells #[.slice a (wid n).length cap] 97 (0, 0)) := al_at rfl
  have ho := off_le n h1 h2
  have hw : IntKind.i64.wrap (2 * ((off n (topL n + 1) : Nat) : Int)) = ((2 * off n (topL n + 1) : Nat) : Int) := by rw [IntKind.wrap_i64]; omega
  clear hI
  generalize off n (topL n + 1) = q at *
  go_enter Tryz.func33, Tryz.ntmps33
  go_wp2_with (first
    | (go_at_call 68; refine HC.out.mono ?_; rintro e w' ⟨rfl, hb⟩)
    | (refine Shap.wpList_ldS rfl _ rfl _ _ rfl hr ?_))
  go_ret
  exact ⟨rfl, HB.out.trans (hb.mono (by simp))⟩
end Go.Proofs.YtnicgmimhgbcfaaGreatDoor
