/-
  The reference of layer 6: Flush, Crash.
-/
import Derived.Test.YtlokhbkjkobmaaaZR
namespace Go.Proofs.Ytlokhbkjkobmaaa
set_option linter.unusedVariables false
open Go.RowKit Plain

/-- Nothing but the box has turned, and of it not what is under way. -/
def Kp (B : Nat) (v : Value) (wd : World) : World → Prop := fun w' => Turned (fun k => k = B) wd w' ∧ w'.cell? ⟨B, 2, none⟩ = some v
section
variable {P : Program} {md : Region.Mode} {ops : Array Oper} {Q : Exit → Act → World → Prop}
theorem begin_kp (B : Nat) (v : Value) {id : Nat} {a : Act} {w : World} (hm : P.follows .mixedOrders = true) (h : ∀ wd, wd = w.drew → wpAnyH P .any ops Q (Kp B v wd) ops.size (Array.replicate ops.size false) a wd) : (Code.region id ops true).wp P Q a w :=
  wp_region_held (S := Kp B v w.drew) hm (h _ rfl)
theorem step_kp {S : World → Prop} {i : Nat} {o : Oper} {fuel : Nat} {listed : Array Bool} {a : Act} {w : World} (ho : ops[i]? = some o) (hr : Region.ready md ops listed = [i]) (hw : Region.wanted o (yielded ops a.tmps) = true)
    (h : ∀ K' : Act → World → Prop, (∀ a1 w1, S w1 → wpAnyH P md ops Q S fuel (listed.setIfInBounds i true) a1 w1 → K' a1 w1) → Oper.wp P o a w K' Q) : wpAnyH P md ops Q S (fuel + 1) listed a w := by
  refine wpAnyH_all hr (by simp) (fun j hj => ?_)
  simp only [List.mem_cons, List.not_mem_nil, or_false] at hj
  subst hj
  unfold wpOp
  simp only [ho, hw, if_true]
  exact .inl (h _ (fun a1 w1 hs hh => ⟨hs, hh⟩))
theorem wp_run {o : Oper} {a : Act} {w w' : World} {K : Act → World → Prop} {v : Value} (hr : (execOp a.eval o).run P w = .ok (.value v) w') (h : K (a.put o.dst v) w') : Oper.wp P o a w K Q := by
  unfold Oper.wp
  rw [hr]
  exact h
end
theorem infoW2 {x : Nat × List Int} : (Try.prog.info? 82).map (·.size) = some (rc x).length := by kernel_rfl
theorem infoWs : (Try.prog.info? 28).map (·.size) = some 1 := by kernel_rfl
theorem cells_own {w : World} {base n : Nat} {e : TypeId} {sz : Nat} {v : Value} {xs : List Value} (h : w.ownsRow base e sz v n xs) : v.cells = #[v] := by
  obtain ⟨a, c, rfl⟩ := own_form2 h
  rfl
theorem Rw.range {w : World} {g cap : Nat} {L : List (Nat × List Int)} (h : Rw w (.slice (some ⟨g, 0, none⟩) L.length cap) L) (k : Nat) (hk : k < L.length) : w.rangeAt g (k * 2) (rc L[k]) := by
  obtain ⟨g', c', e, _, hc⟩ := h.at_ (by omega)
  simp only [Value.slice.injEq, Option.some.injEq, Addr.mk.injEq, and_true, true_and] at e
  obtain ⟨rfl, rfl⟩ := e
  obtain ⟨h0, h1⟩ := hc k hk
  intro j v hv
  match j with
  | 0 => simp only [rc, List.getElem?_cons_zero, Option.some.injEq] at hv; subst hv; exact h0
  | 1 => simp only [rc, List.getElem?_cons_succ, List.getElem?_cons_zero, Option.some.injEq] at hv; subst hv; exact h1
  | j + 2 => simp [rc] at hv
theorem range_turned {w w' : World} {fp : Nat → Prop} {g o : Nat} {cs : List Value} (h : w.rangeAt g o cs) (t : Turned fp w w') (hn : ¬ fp g) : w'.rangeAt g o cs := fun j v hv => t.cell (h j v hv) hn
theorem Rw.some_ {w : World} {a : Option Addr} {c : Nat} {L : List (Nat × List Int)} (h : Rw w (.slice a L.length c) L) (h0 : 0 < L.length) : ∃ g, a = some ⟨g, 0, none⟩ ∧ g < w.heap.size := by
  obtain ⟨g, cap, e, hg, _⟩ := h.at_ h0
  simp only [Value.slice.injEq, true_and] at e
  exact ⟨g, e.1, hg⟩
/-- The box, and what is done so far, in a row apart from it. -/
def Fl (S : Nat) (w wr : World) (n : Nat) (vw vo : Value) (l : Int) (b : Bool) (M : List (Nat × List Int)) : Prop := ∃ vd', Bx S w wr (rv n vd' vw l b vo) ∧ Rw wr vd' M ∧ ∀ k, vd'.ownBlock = some k → ¬ Two S k
theorem Fl.start {S : Nat} {w wr : World} {n : Nat} {vd vw vo : Value} {l : Int} {b : Bool} {M : List (Nat × List Int)} (h : Bx S w wr (rv n vd vw l b vo)) (hr : Rw w vd M) : Fl S w wr n vw vo l b M :=
  ⟨vd, h, h.old hr, fun k hk e => by have := (hr.lt k hk).2; have := h.sz; rcases e with rfl | rfl <;> omega⟩
theorem Fl.step {S : Nat} {w w4 : World} {n : Nat} {v4 vw vo : Value} {l : Int} {b : Bool} {M : List (Nat × List Int)} (h : Bx S w (w4.setCell ⟨S, 1, none⟩ v4) (rv n v4 vw l b vo)) (hr : Rw w4 v4 M) (hk : ∀ k, v4.ownBlock = some k → S + 2 ≤ k) : Fl S w (w4.setCell ⟨S, 1, none⟩ v4) n vw vo l b M :=
  ⟨v4, h, own_new hr (turned_set (Turned.refl _ _) (fp := fun k => k = S) rfl _) (fun k e => by omega) hk, fun k hk' e => by have := hk k hk'; rcases e with rfl | rfl <;> omega⟩
set_option maxRecDepth 20000 in
set_option maxHeartbeats 2000000 in
theorem rflush_ok (w : World) (n : Nat) (vd vw vo : Value) (l : Int) (Ld L : List (Nat × List Int)) (O : List (Int × Int)) (hd : Rw w vd Ld) (hw : Rw w vw L) (ho : Ro w vo O) (hLd : Ld.length + L.length < 1000000) (hO : O.length < 1000000) :
    Calls Try.prog 30 #[.agg (rv n vd vw l false vo).toArray] w fun e w' => ∃ vd' vo', e = .returned (.tuple #[.agg (rv n vd' (.slice none 0 0) l false vo').toArray, .int .i64 0]) ∧ Below w.heap.size w w' ∧ Rw w' vd' (Ld ++ L) ∧ Ro w' vo' (O ++ [(3, 0)]) := by
  have HW : Box (Rw w vw L ∧ Ro w vo O ∧ Ld.length + L.length < 1000000 ∧ O.length < 1000000) := ⟨hw, ho, hLd, hO⟩
  have HD : Box (Rw w vd Ld) := ⟨hd⟩
  have hL9 : L.length < 9223372036854775807 := by omega
  clear hLd hO hd
  obtain ⟨aw, cw, rfl⟩ := own_form2 hw
  obtain ⟨ao, co, rfl⟩ := own_form2 ho
  clear hw ho
  have H : Box (Bx w.heap.size w ((w.alloc (.cells (rv n vd (.slice aw L.length cw) l false (.slice ao O.length co)).toArray 31)).alloc (.cells #[.int .i64 0, .slice none 0 0, .slice none 0 0, .int .i64 0, .bool false, .slice none 0 0] 31)) (rv n vd (.slice aw L.length cw) l false (.slice ao O.length co))) := ⟨Bx.start w _ _ rfl⟩
  obtain ⟨S, HS⟩ : ∃ S, Box (w.heap.size = S) := ⟨_, ⟨rfl⟩⟩
  go_enter Try.func30, Try.ntmps30
  go_upto_region 1 with fail
  rw [HS.out] at H ⊢
  generalize (w.alloc (.cells (rv n vd (.slice aw L.length cw) l false (.slice ao O.length co)).toArray 31)).alloc (.cells #[.int .i64 0, .slice none 0 0, .slice none 0 0, .int .i64 0, .bool false, .slice none 0 0] 31) = w1 at H ⊢
  have c4 : w1.cell? ⟨S, 4, none⟩ = some (.bool false) := H.out.cell 4
  have H0 : Box (Fl S w w1 n (.slice aw L.length cw) (.slice ao O.length co) l false (Ld ++ L.take 0)) := ⟨Fl.start H.out (by rw [List.take_zero, List.append_nil]; exact HD.out)⟩
  clear H HD
  go_wp2
  go_loopw [4] (fun j wr => ∃ k : Nat, k ≤ L.length ∧ j = .int .i64 k ∧ Box (Fl S w wr n (.slice aw L.length cw) (.slice ao O.length co) l false (Ld ++ L.take k))) (fun j _ => L.length - (intOf j).toNat)
  case atStart => exact ⟨0, Nat.zero_le _, rfl, H0⟩
  case round =>
    obtain ⟨k, hk, rfl, HK⟩ := hrel
    clear H0 c4
    obtain ⟨vd', hbx, hrw, hbl⟩ := HK.out
    have HB : Box (Bx S w wr (rv n vd' (.slice aw L.length cw) l false (.slice ao O.length co))) := ⟨hbx⟩
    have HR : Box (∀ w', Below wr.heap.size wr w' → Rw w' vd' (Ld ++ L.take k)) := ⟨fun w' hb => hrw.below hb⟩
    have c2 : wr.cell? ⟨S, 2, none⟩ = some (.slice aw L.length cw) := hbx.cell 2
    have HBl : Box (Rw wr vd' (Ld ++ L.take k) ∧ ∀ k, vd'.ownBlock = some k → ¬ Two S k) := ⟨hrw, hbl⟩
    clear HK hbx hrw hbl
    by_cases hlt : k < L.length
    · obtain ⟨g, rfl, hg⟩ := HW.out.1.some_ (show 0 < L.length by omega)
      obtain ⟨x, hx⟩ : ∃ x, L[k] = x := ⟨_, rfl⟩
      have HXr : Box (∀ w', Turned (fun k => k = S) wr.drew w' → w'.rangeAt g (k * 2) (rc x)) := ⟨fun w' ht => by
        have h5 : g < S := by have := HB.out.sz; omega
        rw [← hx]
        exact range_turned (Rw.range (HB.out.old HW.out.1) k hlt) (w' := w') (fp := fun k => k = S) ⟨ht.os, ht.tape, ht.output, ht.size, ht.block⟩ (by omega)⟩
      obtain ⟨M, HM⟩ : ∃ M, Box (Ld ++ L.take k = M) := ⟨_, ⟨rfl⟩⟩
      have HM2 : Box (Ld ++ L.take (k + 1) = M ++ [x]) := ⟨by rw [← HM.out, ← hx, List.append_assoc, List.take_add_one]; simp [hlt]⟩
      have HML : Box (M.length < 1000000) := ⟨by rw [← HM.out, List.length_append, List.length_take]; have := HW.out.2.2.1; omega⟩
      rw [HM.out] at HR
      clear hx hg HBl HM
      go_upto_region 6 with fail
      rename_i KK ax
      try simp only [Act.put, List.setIfInBounds_toArray, List.set_cons_zero, List.set_cons_succ, List.getElem_toArray, List.getElem_cons_zero, List.getElem_cons_succ]
      refine begin_kp S (.slice (some ⟨g, 0, none⟩) L.length cw) (by kernel_rfl) (fun wd hwd => ?_)
      have GB : Box (Bx S w wd (rv n vd' (.slice (some ⟨g, 0, none⟩) L.length cw) l false (.slice ao O.length co))) := ⟨by rw [hwd]; exact HB.out.on (Below.refl _ _).drew⟩
      have GX : Box (∀ w', Turned (fun k => k = S) wd w' → w'.rangeAt g (k * 2) (rc x)) := ⟨fun w' ht => HXr.out w' (by rw [hwd] at ht; exact ⟨ht.os, ht.tape, ht.output, ht.size, ht.block⟩)⟩
      have GS : Box (Kp S (.slice (some ⟨g, 0, none⟩) L.length cw) wd wd) := ⟨Turned.refl _ _, GB.out.cell 2⟩
      have GM : Box (Calls Try.prog 45 #[vd', .agg (rc x).toArray] wd fun e w' => ∃ v', e = .returned v' ∧ Rw w' v' (M ++ [x]) ∧ Below wd.heap.size wd w' ∧ ∀ k, v'.ownBlock = some k → wd.heap.size ≤ k) := ⟨rmore_any wd vd' M x (HR.out wd (by rw [hwd]; exact (Below.refl _ _).drew)) HML.out⟩
      clear hwd
      refine wpAnyH_take (i := 0) (v := ?_) rfl (by kernel_rfl) (by kernel_rfl) (by kernel_rfl) (fun _ _ _ h => h) (Or.inl ⟨by rfl, ?_⟩) GS.out ?_
      rotate_left
      · intro w' hB; clear hB; go_simp <;> with_reducible rfl
      try simp only [Act.put, List.setIfInBounds_toArray, List.set_cons_zero, List.set_cons_succ, List.getElem_toArray, List.getElem_cons_zero]
      refine wpAnyH_take (i := 2) (v := ?_) rfl (by kernel_rfl) (by kernel_rfl) (by kernel_rfl) (fun _ _ _ h => h) (Or.inl ⟨by rfl, ?_⟩) GS.out ?_
      rotate_left
      · intro w' hB; clear hB; go_simp <;> with_reducible rfl
      try simp only [Act.put, List.setIfInBounds_toArray, List.set_cons_zero, List.set_cons_succ, List.getElem_toArray, List.getElem_cons_zero, List.getElem_cons_succ]
      refine wpAnyH_take (i := 3) (v := (.slice (some ⟨g, 0, none⟩) L.length cw)) rfl (by kernel_rfl) (by kernel_rfl) (by kernel_rfl) (fun _ _ _ h => h) (Or.inl ⟨by rfl, fun w' hB => exec_load1 28 _ _ rfl Try.underlying28 rfl _ rfl _ hB.2⟩) GS.out ?_
      try simp only [Act.put, List.setIfInBounds_toArray, List.set_cons_zero, List.set_cons_succ, List.getElem_toArray, List.getElem_cons_zero, List.getElem_cons_succ]
      refine wpAnyH_take (i := 4) (v := ?_) rfl (by kernel_rfl) (by kernel_rfl) (by kernel_rfl) (fun _ _ _ h => h) (Or.inl ⟨by rfl, ?_⟩) GS.out ?_
      rotate_left
      · intro w' hB; clear hB; go_simp <;> with_reducible rfl
      try simp only [Act.put, List.setIfInBounds_toArray, List.set_cons_zero, List.set_cons_succ, List.getElem_toArray, List.getElem_cons_zero, List.getElem_cons_succ]
      refine wpAnyH_take (i := 5) (v := ?_) rfl (by kernel_rfl) (by kernel_rfl) (by kernel_rfl) (fun _ _ _ h => h) (Or.inl ⟨by rfl, ?_⟩) GS.out ?_
      rotate_left
      · intro w' hB; clear hB; go_simp <;> with_reducible rfl
      try simp only [Act.put, List.setIfInBounds_toArray, List.set_cons_zero, List.set_cons_succ, List.getElem_toArray, List.getElem_cons_zero, List.getElem_cons_succ]
      refine wpAnyH_take (i := 6) (v := .agg (rc x).toArray) rfl (by kernel_rfl) (by kernel_rfl) (by kernel_rfl) (fun _ _ _ h => h) (Or.inl ⟨by rfl, fun w' hB => exec_load_mid 82 _ _ rfl Try.underlying82 rfl g (k * 2) rfl (rc x) infoW2 (GX.out w' hB.1)⟩) GS.out ?_
      try simp only [Act.put, List.setIfInBounds_toArray, List.set_cons_zero, List.set_cons_succ, List.getElem_toArray, List.getElem_cons_zero, List.getElem_cons_succ]
      refine step_kp (i := 1) rfl (by kernel_rfl) (by rfl) (fun KK hK => ?_)
      refine wp_run (exec_load1 28 _ _ rfl Try.underlying28 rfl _ rfl vd' (GB.out.cell 1)) ?_
      refine hK _ _ GS.out ?_
      clear hK KK
      try simp only [Act.put, List.setIfInBounds_toArray, List.set_cons_zero, List.set_cons_succ, List.getElem_toArray, List.getElem_cons_zero, List.getElem_cons_succ]
      refine step_kp (i := 7) rfl (by kernel_rfl) (by rfl) (fun KK hK => ?_)
      go_simp
      refine Calls.mono GM.out ?_
      rintro e w4 ⟨v4, rfl, r4, b4, o4⟩
      have GB4 : Box (Bx S w w4 (rv n vd' (.slice (some ⟨g, 0, none⟩) L.length cw) l false (.slice ao O.length co))) := ⟨GB.out.on b4⟩
      have GS4 : Box (Kp S (.slice (some ⟨g, 0, none⟩) L.length cw) wd w4) := ⟨Turned.of_below b4, GB4.out.cell 2⟩
      have R4 : Box (Rw w4 v4 (M ++ [x]) ∧ ∀ k, v4.ownBlock = some k → S + 2 ≤ k) := ⟨r4, fun k hk => by have := o4 k hk; have := GB.out.lt; omega⟩
      refine hK _ _ GS4.out ?_
      clear hK KK r4 b4 o4
      try simp only [Act.put, List.setIfInBounds_toArray, List.set_cons_zero, List.set_cons_succ, List.getElem_toArray, List.getElem_cons_zero, List.getElem_cons_succ]
      refine wpAnyH_take (i := 8) (v := ?_) rfl (by kernel_rfl) (by kernel_rfl) (by kernel_rfl) (fun _ _ _ h => h) (Or.inl ⟨by rfl, ?_⟩) GS4.out ?_
      rotate_left
      · intro w' hB; clear hB; go_simp <;> with_reducible rfl
      try simp only [Act.put, List.setIfInBounds_toArray, List.set_cons_zero, List.set_cons_succ, List.getElem_toArray, List.getElem_cons_zero, List.getElem_cons_succ]
      refine step_kp (i := 9) rfl (by kernel_rfl) (by rfl) (fun KK hK => ?_)
      refine wp_store_one 28 _ _ rfl infoWs v4 (cells_own R4.out.1) (one_own R4.out.1) rfl (D := S) (k := 1) rfl (by rw [GB4.out.cell 1]; rfl) (GB4.out.froz 1) ?_
      have GB5 : Box (Bx S w (w4.setCell ⟨S, 1, none⟩ v4) (rv n v4 (.slice (some ⟨g, 0, none⟩) L.length cw) l false (.slice ao O.length co))) := ⟨GB4.out.put 1 _⟩
      refine hK _ _ ⟨turned_set GS4.out.1 rfl _, GB5.out.cell 2⟩ ?_
      clear hK KK
      try simp only [Act.put, List.getElem_toArray, List.getElem_cons_zero, List.getElem_cons_succ]
      refine wpAnyH_done (by kernel_rfl) ?_ _
      show KK _ _
      refine ax _ _ ?_
      try simp only [Act.put, List.setIfInBounds_toArray, List.set_cons_zero, List.set_cons_succ, List.getElem_toArray, List.getElem_cons_zero, List.getElem_cons_succ]
      have HF : Box (Fl S w (w4.setCell ⟨S, 1, none⟩ v4) n (.slice (some ⟨g, 0, none⟩) L.length cw) (.slice ao O.length co) l false (Ld ++ L.take (k + 1))) := ⟨by rw [HM2.out]; exact Fl.step GB5.out R4.out.1 R4.out.2⟩
      generalize w4.setCell ⟨S, 1, none⟩ v4 = wy at HF ⊢
      clear ax HB HR c2 HXr HM2 HML GB GX GS GM GB4 GS4 R4 GB5
      go_wp2
      go_roundw
      case rel => exact ⟨k + 1, by omega, by simp, HF⟩
      case measure => simp [intOf]; omega
    · obtain rfl : k = L.length := by omega
      rw [List.take_length] at HBl HR
      have f2 := HB.out.froz 2
      have H2 : Box (Bx S w (wr.setCell ⟨S, 2, none⟩ (.slice none 0 0)) (rv n vd' (.slice none 0 0) l false (.slice ao O.length co))) := ⟨HB.out.put 2 _⟩
      have R2 : Box (Rw (wr.setCell ⟨S, 2, none⟩ (.slice none 0 0)) vd' (Ld ++ L)) := ⟨own_turned HBl.out.1 (turned_set (Turned.refl _ _) (fp := fun k => k = S) rfl _) (fun k hk e => HBl.out.2 k hk (.inl e))⟩
      go_upto_region 8 with fail
      generalize wr.setCell ⟨S, 2, none⟩ (.slice none 0 0) = w2 at H2 R2 ⊢
      clear f2 c2 HB HR
      have HN : Box (Calls Try.prog 46 #[.agg (rv n vd' (.slice none 0 0) l false (.slice ao O.length co)).toArray, .int .i64 3, .int .i64 0] w2 fun e w' => ∃ v', e = .returned (.agg (rv n vd' (.slice none 0 0) l false v').toArray) ∧ Ro w' v' (O ++ [(3, 0)]) ∧ Below w2.heap.size w2 w' ∧ ∀ k, v'.ownBlock = some k → w2.heap.size ≤ k) := ⟨rnoted_any w2 _ _ _ _ _ _ O 3 0 (one_own R2.out) rfl (H2.out.old HW.out.2.1) HW.out.2.2.2⟩
      go_wp2_with (first
        | (refine wpList_ldD rfl _ rfl S (rv n vd' (.slice none 0 0) l false (.slice ao O.length co)) rfl H2.out.hB rfl ?_)
        | (go_at_call 46; refine HN.out.mono ?_; rintro e w6 ⟨v6, rfl, r6, b6, o6⟩; have H6 : Box (Bx S w w6 (rv n vd' (.slice none 0 0) l false (.slice ao O.length co))) := ⟨H2.out.on b6⟩; have R6 : Box (Rw w6 vd' (Ld ++ L) ∧ Ro w6 v6 (O ++ [(3, 0)]) ∧ ∀ k, v6.ownBlock = some k → S + 2 ≤ k) := ⟨R2.out.below b6, r6, fun k hk => by have := o6 k hk; have := H2.out.lt; omega⟩; clear r6 b6 o6)
        | (refine wpList_stD rfl _ _ rfl S w _ (rv n vd' (.slice none 0 0) l false v6) rfl rfl H6.out rfl (one_rv (one_own R6.out.1) rfl (one_own R6.out.2.1)) ?_; intro w7 h7 b7 t7))
      (try simp only [Exit.inBlock, Exit.then])
      refine bodyPost_ret (results_D2 rfl _ _ (S + 1) _ rfl rfl h7) rfl ?_
      exact ⟨_, _, rfl, HS.out ▸ b7.below, own_turned R6.out.1 t7 (fun k hk e => HBl.out.2 k hk (.inr e)), own_new R6.out.2.1 t7 (fun k e => by omega) R6.out.2.2⟩
set_option maxRecDepth 20000 in
set_option maxHeartbeats 2000000 in
theorem rflush_down (w : World) (n : Nat) (vd vw vo : Value) (l : Int) (hd : vd.oneCell' = true) (hw : vw.oneCell' = true) (ho : vo.oneCell' = true) :
    Calls Try.prog 30 #[.agg (rv n vd vw l true vo).toArray] w fun e w' => e = .returned (.tuple #[.agg (rv n vd vw l true vo).toArray, .int .i64 13]) ∧ Below w.heap.size w w' := by
  have H1 : Box (vd.oneCell' = true ∧ vw.oneCell' = true ∧ vo.oneCell' = true) := ⟨hd, hw, ho⟩
  clear hd hw ho
  have H : Box (Bx w.heap.size w ((w.alloc (.cells (rv n vd vw l true vo).toArray 31)).alloc (.cells #[.int .i64 0, .slice none 0 0, .slice none 0 0, .int .i64 0, .bool false, .slice none 0 0] 31)) (rv n vd vw l true vo)) := ⟨Bx.start w _ _ rfl⟩
  obtain ⟨S, HS⟩ : ∃ S, Box (w.heap.size = S) := ⟨_, ⟨rfl⟩⟩
  go_enter Try.func30, Try.ntmps30
  go_upto_region 1 with fail
  rw [HS.out] at H ⊢
  generalize (w.alloc (.cells (rv n vd vw l true vo).toArray 31)).alloc (.cells #[.int .i64 0, .slice none 0 0, .slice none 0 0, .int .i64 0, .bool false, .slice none 0 0] 31) = w1 at H ⊢
  have c4 : w1.cell? ⟨S, 4, none⟩ = some (.bool true) := H.out.cell 4
  go_wp2_with (first
    | (refine wpList_ldD rfl _ rfl S (rv n vd vw l true vo) rfl H.out.hB rfl ?_)
    | (refine wpList_stD rfl _ _ rfl S w _ (rv n vd vw l true vo) rfl rfl H.out rfl (one_rv H1.out.1 H1.out.2.1 H1.out.2.2) ?_; intro w5 h5 b5 t5))
  (try simp only [Exit.inBlock, Exit.then])
  refine bodyPost_ret (results_D2 rfl _ _ (S + 1) _ rfl rfl h5) rfl ?_
  exact ⟨rfl, HS.out ▸ b5.below⟩
end Go.Proofs.Ytlokhbkjkobmaaa
