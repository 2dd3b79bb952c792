/-
  The walk of DigestPieces: however bytes are cut into pieces, their digest is the reference's of them all: the law returns true, in every memory that holds the package's two tables.
-/
import Derived.Test.YtanpbceppjpblaaDoorQA
import Derived.Test.YtanpbceppjpblaaDoorB4
import Derived.Test.YtanpbceppjpblaaDoorSeq
import Derived.Test.YtanpbceppjpblaaDoorFS
namespace Go.Proofs.YtanpbceppjpblaaDoor
set_option linter.unusedVariables false
open Go.RowKit Plain

theorem Pcs.below {w w' : World} {a : Option Addr} {n : Nat} {va : Nat → Option Addr} {vl vc : Nat → Nat} {C : Nat → List Int} (h : Pcs w a n va vl vc C) (hb : Below w.heap.size w w') : Pcs w' a n va vl vc C := by
  refine ⟨fun hp => ?_, fun i hi => ⟨(h.2 i hi).1.below hb, (h.2 i hi).2⟩⟩
  obtain ⟨b, off, e, hlt, hc⟩ := h.1 hp
  exact ⟨b, off, e, Nat.lt_of_lt_of_le hlt hb.size, fun i hi => (hb.cell hlt).trans (hc i hi)⟩
theorem joinTo_bd (C : Nat → List Int) (n : Nat) (h : ∀ i, i < n → (C i).length ≤ 500) : (joinTo C n).length ≤ 500 * n := by
  induction n with
  | zero => simp [joinTo]
  | succ n ih =>
    have := ih (fun i hi => h i (by omega))
    have := h n (by omega)
    rw [joinTo, List.length_append]; omega
theorem byt_joinTo (C : Nat → List Int) (n : Nat) (h : ∀ i, i < n → Byt (C i)) : Byt (joinTo C n) := by
  induction n with
  | zero => exact byt_nil
  | succ n ih => exact byt_app _ _ (ih (fun i hi => h i (by omega))) (h n (by omega))

set_option maxRecDepth 20000 in
set_option maxHeartbeats 1000000 in
theorem cuts_in (a : Option Addr) (n cap : Nat) (va : Nat → Option Addr) (vl vc : Nat → Nat) (C : Nat → List Int) (w : World) (hT : Tabs w) (hP : Pcs w a n va vl vc C) (hl : n ≤ 20) (hvm : ∀ i, i < n → vc i ≤ maxLen) :
    Calls Tryd.prog 4 #[.slice a n cap] w fun e w' => e = .returned (.bool true) ∧ Below w.heap.size w w' := by
  have h1 : ¬ 20 < (n : Int) := by omega
  have HT : Box (∀ x, Below w.heap.size w x → Tabs x ∧ Pcs x a n va vl vc C) := ⟨fun x hx => ⟨hT.below hx, hP.below hx⟩⟩
  have HVM : Box (∀ i, i < n → vc i ≤ maxLen) := ⟨hvm⟩
  have H0 : Box (Tabs w) := ⟨hT⟩
  clear hT hP hvm
  go_enter Tryd.func4, Tryd.ntmps4
  go_wp2_with (go_at_call 9; refine (awake_any _ H0.out).mono ?_; rintro e w1 ⟨rfl, hb1⟩; have H1 : Box (Below w.heap.size w w1) := ⟨hb1⟩; clear hb1)
  obtain ⟨S, HS⟩ : ∃ S, Hid (w1.heap.size = S) := ⟨_, rfl⟩
  go_loopw [4, 5] (fun v i wr => ∃ k m : Nat, k ≤ n ∧ i = .int .i64 k ∧ m ≤ 500 * k ∧ Box ((∀ j, j < k → (C j).length ≤ 500) ∧ wr.ownsRow S 5 1 v m ((joinTo C k).map (Value.int .u8)) ∧ Below S w1 wr ∧ S ≤ wr.heap.size)) (fun _ i _ => n - (intOf i).toNat)
  case atStart => exact ⟨0, 0, Nat.zero_le _, rfl, Nat.zero_le _, ⟨fun j hj => absurd hj (Nat.not_lt_zero j), World.ownsRow_nil _ _ _ _, Below.refl _ _, by rw [HS.out]; exact Nat.le_refl _⟩⟩
  case round =>
    obtain ⟨k, m, hk, rfl, hm, HB⟩ := hrel
    obtain ⟨av, cv, hv⟩ := own_form HB.out.2.1
    subst hv
    have HWr : Box (Below w.heap.size w wr) := ⟨H1.out.trans (HB.out.2.2.1.mono (by rw [← HS.out]; exact H1.out.size))⟩
    by_cases hlt : k < n
    · obtain ⟨b, off, ha, hblt, hc⟩ := (HT.out wr HWr.out).2.1 (by omega)
      subst ha
      have c1 := hc k hlt
      obtain ⟨p1, p2, p3⟩ := (HT.out wr HWr.out).2.2 k hlt
      have hCl := p1.1
      have hvk := HVM.out k hlt
      unfold maxLen at hvk
      have HP1 : Box (Bytes wr (va k) (vl k) (C k)) := ⟨p1⟩
      clear hc hblt p1 p3
      generalize hge : va k = ga at c1 HP1
      generalize hgl : vl k = gl at c1 HP1 p2 hCl
      generalize hgc : vc k = gcc at c1 p2 hvk
      by_cases hbig : 500 < gl
      · have hb1 : 500 < (gl : Int) := by omega
        go_wp2
        go_ret
        exact ⟨rfl, HWr.out⟩
      · have hb1 : ¬ 500 < (gl : Int) := by omega
        go_wp2_with (at_builtin; refine wpList_app rfl (.tmp 25) (.tmp 29) rfl S m gl gcc _ _ (C k) ga w1 rfl rfl HB.out.2.1 HP1.out (by omega) HB.out.2.2.1 HB.out.2.2.2 ?_; intro v3 w3 H3)
        go_roundw
        case rel =>
          refine ⟨k + 1, m + gl, by omega, by go_num, by omega, ⟨fun j hj => ?_, H3.out⟩⟩
          by_cases hj' : j < k
          · exact HB.out.1 j hj'
          · obtain rfl : j = k := by omega
            omega
        case measure => simp [intOf]; omega
    · have hkn : k = n := by omega
      subst hkn
      have hJb : Byt (joinTo C k) := byt_joinTo C k (fun i hi => ((HT.out wr HWr.out).2.2 i hi).1.2.1)
      have hJl := joinTo_bd C k HB.out.1
      have hBy := own_bytes HB.out.2.1 hJb
      have hcp := own_cap HB.out.2.1
      unfold maxLen at hcp
      obtain ⟨X, HX⟩ : ∃ X, Box (sha (joinTo C k) = X) := ⟨_, ⟨rfl⟩⟩
      have hXl : X.length = 32 := by rw [← HX.out]; exact length_sha _
      have eX := eq_same25 X hXl
      have HPC : Box (Calls Tryd.prog 14 #[.slice a k cap] wr fun e w' => e = .returned (.agg (u8s X)) ∧ Below wr.heap.size wr w') := ⟨by rw [← HX.out]; exact pieces_any a k cap va vl vc C wr (HT.out wr HWr.out).1 (HT.out wr HWr.out).2 (by omega) (by unfold maxLen; omega)⟩
      have HOF : Box (∀ x, Below wr.heap.size wr x → Calls Tryd.prog 10 #[.slice av m cv] x fun e w' => e = .returned (.agg (u8s X)) ∧ Below x.heap.size x w') := ⟨fun x hx => of_is av m cv _ X x ((HT.out wr HWr.out).1.below hx) ⟨hBy.below hx, hcp.1, by show cv ≤ 9223372036854775807; omega⟩ (by omega) HX.out⟩
      have HRF : Box (∀ x, Below wr.heap.size wr x → Calls Tryd.prog 11 #[.slice av m cv] x fun e w' => e = .returned (.agg (u8s X)) ∧ Below x.heap.size x w') := ⟨fun x hx => by rw [← HX.out]; exact rof_any av m cv _ x (hBy.below hx) (by omega)⟩
      clear hJb hJl hBy hcp HB hk hlt hm
      go_wp2_with (first
        | (go_at_call 14; refine Calls.mono HPC.out ?_; rintro e w2 ⟨rfl, hb2⟩; have H2 : Box (Way wr w2 []) := ⟨Stand.nil _, hb2⟩; clear hb2)
        | (refine wpList_new25 wr w2 [] X hXl H2.out ?old ?hold rfl (.tmp 6) (.tmp 32) rfl rfl rfl ?hv ?_; (case hv => rfl); (case hold => rfl); intro z3 H3))
      refine Seq.begin_any (by kernel_rfl) (fun wd hd => ?_)
      have HD : Box (Way wr wd [(w2.heap.size, X)]) := ⟨H3.out.on hd⟩
      clear hd
      refine Seq.take_lat (i := 0) (v := .agg (u8s X)) rfl (by kernel_rfl) (by kernel_rfl) (by kernel_rfl) (fun _ _ _ h => h) (by rfl) (fun w' hLat => exec_load25 (.tmp 6) rfl w2.heap.size rfl X _ (HD.out.1.below hLat) (.head _)) ?_
      try simp only [Act.put, List.setIfInBounds_toArray, List.set_cons_zero, List.set_cons_succ, List.getElem_toArray, List.getElem_cons_zero]
      refine Seq.take_lat (i := 1) (v := ?_) rfl (by kernel_rfl) (by kernel_rfl) (by kernel_rfl) (fun _ _ _ h => h) (by rfl) ?_ ?_
      rotate_left
      · intro w' hLat; change Below _ _ _ at hLat; go_simp <;> with_reducible rfl
      try simp only [Act.put, List.setIfInBounds_toArray, List.set_cons_zero, List.set_cons_succ, List.getElem_toArray, List.getElem_cons_zero, List.getElem_cons_succ]
      refine Seq.only_lat (i := 2) rfl (by kernel_rfl) (fun K hK => ?_)
      rw [if_pos (by rfl)]
      go_simp
      refine Calls.mono (HRF.out wd HD.out.2) ?_
      rintro e w4 ⟨rfl, hb4⟩
      have HE : Box (Way wr w4 [(w2.heap.size, X)]) := ⟨HD.out.on hb4⟩
      refine hK.out _ _ hb4 ?_
      clear hb4
      clear hK K
      try simp only [Act.put, List.setIfInBounds_toArray, List.set_cons_zero, List.set_cons_succ, List.getElem_toArray, List.getElem_cons_zero, List.getElem_cons_succ]
      refine Seq.take_lat (i := 3) (v := ?_) rfl (by kernel_rfl) (by kernel_rfl) (by kernel_rfl) (fun _ _ _ h => h) (by rfl) ?_ ?_
      rotate_left
      · intro w' hLat; change Below _ _ _ at hLat; go_simp <;> with_reducible rfl
      try simp only [Act.put, List.setIfInBounds_toArray, List.set_cons_zero, List.set_cons_succ, List.getElem_toArray, List.getElem_cons_zero, List.getElem_cons_succ]
      refine Seq.take_lat (i := 4) (v := ?_) rfl (by kernel_rfl) (by kernel_rfl) (by kernel_rfl) (fun _ _ _ h => h) (by rfl) ?_ ?_
      rotate_left
      · intro w' hLat; change Below _ _ _ at hLat; go_simp <;> with_reducible rfl
      try simp only [Act.put, List.setIfInBounds_toArray, List.set_cons_zero, List.set_cons_succ, List.getElem_toArray, List.getElem_cons_zero, List.getElem_cons_succ]
      refine Seq.take_lat (i := 5) (v := .agg (u8s X)) rfl (by kernel_rfl) (by kernel_rfl) (by kernel_rfl) (fun _ _ _ h => h) (by rfl) (fun w' hLat => exec_load25 (.tmp 6) rfl w2.heap.size rfl X _ (HE.out.1.below hLat) (.head _)) ?_
      try simp only [Act.put, List.setIfInBounds_toArray, List.set_cons_zero, List.set_cons_succ, List.getElem_toArray, List.getElem_cons_zero, List.getElem_cons_succ]
      refine Seq.take_lat (i := 6) (v := ?_) rfl (by kernel_rfl) (by kernel_rfl) (by kernel_rfl) (fun _ _ _ h => h) (by rfl) ?_ ?_
      rotate_left
      · intro w' hLat; change Below _ _ _ at hLat; go_simp <;> with_reducible rfl
      try simp only [Act.put, List.setIfInBounds_toArray, List.set_cons_zero, List.set_cons_succ, List.getElem_toArray, List.getElem_cons_zero, List.getElem_cons_succ]
      refine Seq.only_lat (i := 7) rfl (by kernel_rfl) (fun K hK => ?_)
      rw [if_pos (by rfl)]
      go_simp
      refine Calls.mono (HOF.out w4 HE.out.2) ?_
      rintro e w5 ⟨rfl, hb5⟩
      have HF : Box (Way wr w5 [(w2.heap.size, X)]) := ⟨HE.out.on hb5⟩
      refine hK.out _ _ hb5 ?_
      clear hb5
      clear hK K
      try simp only [Act.put, List.setIfInBounds_toArray, List.set_cons_zero, List.set_cons_succ, List.getElem_toArray, List.getElem_cons_zero, List.getElem_cons_succ]
      refine Seq.take_lat (i := 8) (v := ?_) rfl (by kernel_rfl) (by kernel_rfl) (by kernel_rfl) (fun _ _ _ h => h) (by rfl) ?_ ?_
      rotate_left
      · intro w' hLat; change Below _ _ _ at hLat; go_simp <;> with_reducible rfl
      try simp only [Act.put, List.setIfInBounds_toArray, List.set_cons_zero, List.set_cons_succ, List.getElem_toArray, List.getElem_cons_zero, List.getElem_cons_succ]
      refine Seq.take_lat (i := 9) (v := ?_) rfl (by kernel_rfl) (by kernel_rfl) (by kernel_rfl) (fun _ _ _ h => h) (by rfl) ?_ ?_
      rotate_left
      · intro w' hLat; change Below _ _ _ at hLat; go_simp <;> with_reducible rfl
      try simp only [Act.put, List.setIfInBounds_toArray, List.set_cons_zero, List.set_cons_succ, List.getElem_toArray, List.getElem_cons_zero, List.getElem_cons_succ]
      refine Seq.take_lat (i := 10) (v := ?_) rfl (by kernel_rfl) (by kernel_rfl) (by kernel_rfl) (fun _ _ _ h => h) (by rfl) ?_ ?_
      rotate_left
      · intro w' hLat; change Below _ _ _ at hLat; go_simp <;> with_reducible rfl
      try simp only [Act.put, List.setIfInBounds_toArray, List.set_cons_zero, List.set_cons_succ, List.getElem_toArray, List.getElem_cons_zero, List.getElem_cons_succ]
      refine wpAnyH_done (by kernel_rfl) ?_ _
      go_wp2
      go_ret
      exact ⟨rfl, below_to HWr.out HF.out.2⟩

set_option maxHeartbeats 400000 in
theorem cuts_out (a : Option Addr) (n cap : Nat) (w : World) (hT : Tabs w) (hl : n ≤ maxLen) (h : 20 < n) :
    Calls Tryd.prog 4 #[.slice a n cap] w fun e w' => e = .returned (.bool true) ∧ Below w.heap.size w w' := by
  unfold maxLen at hl
  have h1 : 20 < (n : Int) := by omega
  have H0 : Box (Tabs w) := ⟨hT⟩
  clear hT h
  go_enter Tryd.func4, Tryd.ntmps4
  go_wp2_with (go_at_call 9; refine (awake_any _ H0.out).mono ?_; rintro e w1 ⟨rfl, hb1⟩)
  go_ret
  exact ⟨rfl, hb1⟩

/-- Slices of bytes that came in. -/
def AreRows (w : World) (a : Option Addr) (n cap : Nat) (va : Nat → Option Addr) (vl vc : Nat → Nat) (Z : Nat → List Int) : Prop :=
  (a = none ∧ n = 0 ∧ cap = 0) ∨ ∃ x, a = some x ∧ n ≤ cap ∧ cap ≤ maxLen ∧ ∀ r, r < cap → w.cell? (x.add r) = some (.slice (va r) (vl r) (vc r)) ∧ IsRow .u8 w (va r) (vl r) (vc r) (Z r)
theorem AreRows.pcs {w : World} {a : Option Addr} {n cap : Nat} {va : Nat → Option Addr} {vl vc : Nat → Nat} {Z : Nat → List Int} (h : AreRows w a n cap va vl vc Z) :
    Pcs w a n va vl vc (fun r => (Z r).take (vl r)) ∧ n ≤ maxLen ∧ ∀ i, i < n → vc i ≤ maxLen := by
  rcases h with ⟨rfl, rfl, rfl⟩ | ⟨⟨b, off, spot⟩, rfl, hl, hm, hr⟩
  · exact ⟨⟨fun h => absurd h (Nat.lt_irrefl 0), fun i hi => absurd hi (Nat.not_lt_zero i)⟩, Nat.zero_le _, fun i hi => absurd hi (Nat.not_lt_zero i)⟩
  · refine ⟨⟨fun hp => ?_, fun i hi => ?_⟩, Nat.le_trans hl hm, fun i hi => ?_⟩
    · have h0 := (hr 0 (by omega)).1
      have hspot : spot = none := by simpa [Addr.add] using World.cell?_spot h0
      subst hspot
      refine ⟨b, off, rfl, ?_, fun i hi => ?_⟩
      · rw [Addr.add_lit] at h0
        exact cell_block h0
      · have := (hr i (by omega)).1
        rwa [Addr.add_lit] at this
    · exact (hr i (by omega)).2.pc
    · rcases (hr i (by omega)).2 with ⟨_, _, h0, _⟩ | ⟨_, _, _, h0, _⟩
      · rw [h0]; exact Nat.zero_le _
      · exact h0
theorem digestPieces_walk (a : Option Addr) (n cap : Nat) (va : Nat → Option Addr) (vl vc : Nat → Nat) (Z : Nat → List Int) (w : World) (hT : Tabs w) (h : AreRows w a n cap va vl vc Z) :
    Calls Tryd.prog 4 #[.slice a n cap] w fun e w' => e = .returned (.bool true) ∧ Below w.heap.size w w' := by
  obtain ⟨h1, h2, h3⟩ := h.pcs
  by_cases hl : n ≤ 20
  · exact cuts_in a n cap va vl vc _ w hT h1 hl h3
  · exact cuts_out a n cap w hT h2 (by omega)
end Go.Proofs.YtanpbceppjpblaaDoor
