/-
  The walk of CellKeeps: a keeper has the last cell whose counter was above the one ahead.
-/
import Derived.Test.YtejpbbgnammgkaaXE
import Derived.BigQuiet
namespace Go.Proofs.Ytejpbbgnammgkaa
set_option linter.unusedVariables false
open Go.RowKit Plain

theorem range_on {w w' : World} {b o : Nat} {cs : List Value} (h : w.rangeAt b o cs) (hb : Below w.heap.size w w') : w'.rangeAt b o cs := fun j v hv => by
  have hc := h j v hv
  exact (World.cell?_of_block (hb.block b (block_lt hc))).trans hc
theorem range_but {w w' : World} {b o K : Nat} {cs : List Value} (h : w.rangeAt b o cs) (hb : But K w w') (hn : b ≠ K) : w'.rangeAt b o cs := fun j v hv => by
  have hc := h j v hv
  exact (World.cell?_of_block (hb.block b (block_lt hc) hn)).trans hc
theorem But.setRow {G : Nat} {w w' : World} (h : But G w w') (cs : Array Value) : But G w (w'.setRow G cs) :=
  ⟨h.os, h.tape, h.output, by simpa [World.setRow] using h.size, fun k hk hn => by rw [setRow_other w' G k cs hn]; exact h.block k hk hn⟩
theorem vs33 {C : Cl} (h : Ok C) : (vs C)[33]? = some (.int .u64 C.c) := by
  have := av_n h 1 (by omega)
  simpa [av] using this
theorem vs0 {C : Cl} (h : Ok C) : (vs C)[0]? = some (.int .u8 (C.r.getD 0 0)) := by
  have := av_r h 0 (by omega)
  simpa [av] using this
/-- Where the law stands: the keeper in block K, its own cell in block G, the same in both. -/
structure Kp (w wr : World) (S K G : Nat) (C : Cl) (t : Int) : Prop where
  kp : Keeps wr K C t
  nw : Lies wr G C
  bel : Below S w wr
  hK : S ≤ K
  hG : S ≤ G
  ne : K ≠ G
  ok : Ok C
theorem Kp.on {w wr w' : World} {S K G : Nat} {C : Cl} {t : Int} (h : Kp w wr S K G C t) (hb : Below wr.heap.size wr w') : Kp w w' S K G C t :=
  ⟨h.kp.below hb, h.nw.below hb, h.bel.trans (hb.mono (Nat.le_trans h.hK (Nat.le_of_lt h.kp.lt))), h.hK, h.hG, h.ne, h.ok⟩
/-- Behind a Put that was taken, the law's own cell is laid anew. -/
theorem Kp.next {w wr w' : World} {S K G : Nat} {C D : Cl} {t u : Int} (h : Kp w wr S K G C t) (hk : Keeps w' K D u) (hb : But K wr w') (hD : Ok D) : Lies w' G C ∧ Kp w (w'.setRow G (av D)) S K G D u := by
  have hn : Lies w' G C := (hb.block G h.nw.lt (Ne.symm h.ne)).trans h.nw
  have hs : S ≤ wr.heap.size := Nat.le_trans h.hK (Nat.le_of_lt h.kp.lt)
  exact ⟨hn, (setRow_other _ _ _ _ h.ne).trans hk, setRow_heap _ _ _ _ _ _ hn, below_setRow (h.bel.trans (hb.below h.hK hs)) h.hG _, h.hK, h.hG, h.ne, hD⟩
theorem exec_neS {o : Oper} {ρ : Operand → Value} {w' : World} (x y : Operand) (ty : TypeId) (ho : o.op = .binOp .neq 26 x y ty) (A : Cl) (hA : Ok A) (hx : ρ x = .agg (av A)) (hy : ρ y = .agg (av A)) :
    (execOp ρ o).run Try.prog w' = .ok (.value (.bool false)) w' := by
  rw [exec_neC x y ty ho A A hA hA hx hy, eqb_self]; rfl
theorem exec_eqz {o : Oper} {ρ : Operand → Value} {w' : World} (x y : Operand) (ty : TypeId) (ho : o.op = .binOp .eql 26 x y ty) (hx : ρ x = .agg (av zc)) (hy : ρ y = .agg (av zc)) :
    (execOp ρ o).run Try.prog w' = .ok (.value (.bool true)) w' := by
  rw [exec_eqC x y ty ho zc zc ok_zc ok_zc hx hy, eqb_self]
theorem exec_nen {o : Oper} {ρ : Operand → Value} {w' : World} (x y : Operand) (ty : TypeId) (ho : o.op = .binOp .neq 3 x y ty) (n : Int) (hx : ρ x = .int .i64 n) (hy : ρ y = .int .i64 n) :
    (execOp ρ o).run Try.prog w' = .ok (.value (.bool false)) w' := by
  unfold execOp
  simp [ho, hx, hy, eqGuard, binOp, Op.intCmp]
theorem exec_idx {op : Oper} {ρ : Operand → Value} {w' : World} (x y : Operand) (ho : op.op = .indexAddr 34 x y) (b o len cap j : Nat) (hx : ρ x = .slice (some ⟨b, o, none⟩) len cap) (hy : ρ y = .int .i64 (j : Int)) (hj : j < len) :
    (execOp ρ op).run Try.prog w' = .ok (.value (.pointer (some ⟨b, o + j * 68, none⟩))) w' := by
  have hc : (0 : Int) ≤ (j : Int) ∧ (j : Int) < (len : Int) := by omega
  unfold execOp
  simp [ho, hx, hy, Instr.indexAt, asIntOf, Sem.run_bind, run_underlying Try.underlying34, hc, Addr.add_mid]
  intro hh; omega

set_option maxRecDepth 20000 in
set_option maxHeartbeats 2000000 in
theorem cellKeeps_walk (a : Option Addr) (len cap : Nat) (w : World) (h : Cells w a len) : Calls Try.prog 4 #[.slice a len cap] w fun e w' => e = .returned (.bool true) ∧ Below w.heap.size w w' := by
  obtain ⟨S, HS⟩ : ∃ S, Box (w.heap.size = S) := ⟨_, ⟨rfl⟩⟩
  have HM : Box (len ≤ 9223372036854775807) := ⟨by have := h.1; unfold maxLen at this; exact this⟩
  have HC : Box (0 < len → ∃ b o, a = some ⟨b, o, none⟩ ∧ ∀ i, i < len → ∃ C, Ok C ∧ w.rangeAt b (o + i * 68) (vs C)) := ⟨h.2⟩
  clear h
  go_enter Try.func4, Try.ntmps4
  go_wp2_with (first
    | (refine wpList_run rfl _ _ (exec_alloc 26 rfl _ zeroC) ?_)
    | (go_at_call 12; refine Calls.mono (new_any w1) ?_; rintro e w2 ⟨rfl, hk, hb⟩; have H2 : Box (Keeps w2 w1.heap.size zc 0 ∧ Below w1.heap.size w1 w2) := ⟨hk, hb⟩; clear hk hb)
    | (go_at_call 7; refine Calls.mono (awake_any w) ?_; rintro e w1 ⟨rfl, hb⟩; have H1 : Box (Below w.heap.size w w1) := ⟨hb⟩; clear hb))
  have H3 : Box (Kp w (w2.alloc (.cells (av zc) 26)) S w1.heap.size w2.heap.size zc 0) := ⟨by
    have hb : Below w2.heap.size w2 (w2.alloc (.cells (av zc) 26)) := (Below.refl _ _).alloc (Nat.le_refl _) _
    have l1 := H1.out.size
    have l2 := H2.out.1.lt
    rw [← HS.out]
    exact ⟨H2.out.1.below hb, lies_new w2 zc, below_to (below_to H1.out H2.out.2) hb, l1, by omega, by omega, ok_zc⟩⟩
  generalize w2.alloc (.cells (av zc) 26) = w3 at H3 ⊢
  generalize w1.heap.size = K at H3 ⊢
  generalize w2.heap.size = G at H3 ⊢
  clear H1 H2
  go_loopw [7, 8] (fun n i wr => ∃ (j t : Nat) (C : Cl), j ≤ 100 ∧ t ≤ j ∧ n = .int .i64 t ∧ i = .int .i64 j ∧ Box (Kp w wr S K G C t)) (fun _ i _ => 100 - (intOf i).toNat)
  case atStart => exact ⟨0, 0, zc, by omega, by omega, rfl, rfl, H3⟩
  case round =>
    obtain ⟨j, t, C, hj, ht, rfl, rfl, HP⟩ := hrel
    clear H3
    by_cases hlt : j < len ∧ j < 100
    · obtain ⟨b, o, rfl, hr⟩ := HC.out (by omega)
      obtain ⟨D, hD, hrg⟩ := hr j hlt.1
      have HJ : Box (j < len) := ⟨hlt.1⟩
      have HD : Box (Ok D) := ⟨hD⟩
      have HN : Box ((vs D).length = 68 ∧ (av D).size = 68 ∧ (av C).size = 68) := ⟨len_vs hD, size_av hD, size_av HP.out.ok⟩
      have H0 : Box (Kp w wr S K G C t ∧ wr.rangeAt b (o + j * 68) (vs D)) := ⟨HP.out, range_on hrg (by rw [HS.out]; exact HP.out.bel)⟩
      have d1 : decide ((j : Int) < (len : Int)) = true := by simp; omega
      have d2 : decide ((j : Int) < 100) = true := by simp; omega
      have HT : Box ((0 : Int) ≤ t ∧ (t : Int) ≤ 1000000) := ⟨by omega⟩
      have HQ : Box (j ≤ 100 ∧ t ≤ j ∧ j < 100) := ⟨hj, ht, hlt.2⟩
      have hj1 : (j : Int) < len := by omega
      have hj2 : j < len := by omega
      have HE : Box (b ≠ K ∧ b ≠ G) := ⟨by have := block_lt (hrg 0 _ (vs0 hD)); have := HP.out.hK; have := HP.out.hG; have := HS.out; omega⟩
      have HOC : Box (Ok C) := ⟨HP.out.ok⟩
      clear hr hrg hD HP
      by_cases hc : D.c ≤ C.c
      · have hcd : decide (C.c < D.c) = false := by simp; omega
        go_upto_region 12 with (first
          | (refine wpList_run rfl _ _ (exec_idx _ _ rfl b o len cap j rfl rfl HJ.out) ?_)
          | (refine wpList_load_mid rfl 26 _ rfl b (o + j * 68) rfl (vs D) _ H0.out.2 Try.underlying26 rfl (by rw [HN.out.1]; exact infoC) ?_)
          | (go_at_call 13; refine Calls.mono (kput_back wr K C D t H0.out.1.kp H0.out.1.ok HD.out hc) ?_; rintro e w4 ⟨rfl, hb⟩; have H4 : Box (Kp w w4 S K G C t ∧ w4.rangeAt b (o + j * 68) (vs D)) := ⟨H0.out.1.on hb, range_on H0.out.2 hb⟩; clear hb))
        have c1 : w4.cell? ⟨b, o + j * 68 + 33, none⟩ = some (.int .u64 D.c) := H4.out.2 33 _ (vs33 HD.out)
        have c2 : w4.cell? ⟨G, 33, none⟩ = some (.int .u64 C.c) := H4.out.1.nw.num H4.out.1.ok 1 (by omega)
        go_quiet (fail)
        have H5 : Box (Kp w (w4.drewN nq) S K G C t ∧ (w4.drewN nq).rangeAt b (o + j * 68) (vs D)) := ⟨H4.out.1.on (below_drewN (Below.refl _ _) nq), range_on H4.out.2 (below_drewN (Below.refl _ _) nq)⟩
        generalize w4.drewN nq = w5 at H5 ⊢
        clear c1 c2 H4
        go_upto_region 19 with fail
        refine Seq.begin_any (by kernel_rfl) (fun wd hd => ?_)
        have HX0 : Box (Kp w wd S K G C t ∧ wd.rangeAt b (o + j * 68) (vs D)) := ⟨H5.out.1.on hd, range_on H5.out.2 hd⟩
        clear hd
        refine Seq.take_lat (i := 0) (v := ?_) rfl (by kernel_rfl) (by kernel_rfl) (by kernel_rfl) (fun _ _ _ h => h) (by rfl) ?_ ?_
        rotate_left
        · intro w' hLat; change Below _ _ _ at hLat; go_simp <;> with_reducible rfl
        try simp only [Act.put, List.setIfInBounds_toArray, List.set_cons_zero, List.set_cons_succ, List.getElem_toArray, List.getElem_cons_zero]
        refine Seq.take_lat (i := 2) (v := .agg (av C)) rfl (by kernel_rfl) (by kernel_rfl) (by kernel_rfl) (fun _ _ _ h => h) (by rfl) (fun w' hLat => exec_cell (.tmp 6) rfl G rfl C HX0.out.1.ok (HX0.out.1.nw.below hLat)) ?_
        try simp only [Act.put, List.setIfInBounds_toArray, List.set_cons_zero, List.set_cons_succ, List.getElem_toArray, List.getElem_cons_zero, List.getElem_cons_succ]
        refine Seq.only_lat (i := 1) rfl (by kernel_rfl) (fun KK hK => ?_)
        rw [if_pos (by rfl)]
        go_simp
        refine Calls.mono (kget_any wd K C t HX0.out.1.kp HX0.out.1.ok) ?_
        rintro e x1 ⟨rfl, hb⟩
        have HX1 : Box (Kp w x1 S K G C t ∧ x1.rangeAt b (o + j * 68) (vs D)) := ⟨HX0.out.1.on hb, range_on HX0.out.2 hb⟩
        refine hK.out _ _ hb ?_
        clear hb
        clear hK KK
        try simp only [Act.put, List.setIfInBounds_toArray, List.set_cons_zero, List.set_cons_succ, List.getElem_toArray, List.getElem_cons_zero, List.getElem_cons_succ]
        refine Seq.take_lat (i := 3) (v := .bool false) rfl (by kernel_rfl) (by kernel_rfl) (by kernel_rfl) (fun _ _ _ h => h) (by rfl) (fun w' hLat => exec_neS (.tmp 49) (.tmp 50) _ rfl C HX0.out.1.ok rfl rfl) ?_
        try simp only [Act.put, List.setIfInBounds_toArray, List.set_cons_zero, List.set_cons_succ, List.getElem_toArray, List.getElem_cons_zero, List.getElem_cons_succ]
        refine Seq.take_lat (i := 4) (v := ?_) rfl (by kernel_rfl) (by kernel_rfl) (by kernel_rfl) (fun _ _ _ h => h) (by rfl) ?_ ?_
        rotate_left
        · intro w' hLat; change Below _ _ _ at hLat; go_simp <;> with_reducible rfl
        try simp only [Act.put, List.setIfInBounds_toArray, List.set_cons_zero, List.set_cons_succ, List.getElem_toArray, List.getElem_cons_zero, List.getElem_cons_succ]
        refine Seq.take_lat (i := 5) (v := ?_) rfl (by kernel_rfl) (by kernel_rfl) (by kernel_rfl) (fun _ _ _ h => h) (by rfl) ?_ ?_
        rotate_left
        · intro w' hLat; change Below _ _ _ at hLat; go_simp <;> with_reducible rfl
        try simp only [Act.put, List.setIfInBounds_toArray, List.set_cons_zero, List.set_cons_succ, List.getElem_toArray, List.getElem_cons_zero, List.getElem_cons_succ]
        refine Seq.take_lat (i := 7) (v := ?_) rfl (by kernel_rfl) (by kernel_rfl) (by kernel_rfl) (fun _ _ _ h => h) (by rfl) ?_ ?_
        rotate_left
        · intro w' hLat; change Below _ _ _ at hLat; go_simp <;> with_reducible rfl
        try simp only [Act.put, List.setIfInBounds_toArray, List.set_cons_zero, List.set_cons_succ, List.getElem_toArray, List.getElem_cons_zero, List.getElem_cons_succ]
        refine Seq.only_lat (i := 6) rfl (by kernel_rfl) (fun KK hK => ?_)
        rw [if_pos (by rfl)]
        go_simp
        refine Calls.mono (ktimes_any x1 K C t HX1.out.1.kp HX1.out.1.ok) ?_
        rintro e x6 ⟨rfl, hb⟩
        subst hb
        refine hK.out _ _ (Below.refl _ _) ?_
        clear hK KK
        try simp only [Act.put, List.setIfInBounds_toArray, List.set_cons_zero, List.set_cons_succ, List.getElem_toArray, List.getElem_cons_zero, List.getElem_cons_succ]
        refine Seq.take_lat (i := 8) (v := .bool false) rfl (by kernel_rfl) (by kernel_rfl) (by kernel_rfl) (fun _ _ _ h => h) (by rfl) (fun w' hLat => exec_nen (.tmp 54) (.tmp 55) _ rfl (t : Int) rfl rfl) ?_
        try simp only [Act.put, List.setIfInBounds_toArray, List.set_cons_zero, List.set_cons_succ, List.getElem_toArray, List.getElem_cons_zero, List.getElem_cons_succ]
        refine Seq.take_lat (i := 9) (v := ?_) rfl (by kernel_rfl) (by kernel_rfl) (by kernel_rfl) (fun _ _ _ h => h) (by rfl) ?_ ?_
        rotate_left
        · intro w' hLat; change Below _ _ _ at hLat; go_simp <;> with_reducible rfl
        try simp only [Act.put, List.setIfInBounds_toArray, List.set_cons_zero, List.set_cons_succ, List.getElem_toArray, List.getElem_cons_zero, List.getElem_cons_succ]
        refine Seq.take_lat (i := 10) (v := ?_) rfl (by kernel_rfl) (by kernel_rfl) (by kernel_rfl) (fun _ _ _ h => h) (by rfl) ?_ ?_
        rotate_left
        · intro w' hLat; change Below _ _ _ at hLat; go_simp <;> with_reducible rfl
        try simp only [Act.put, List.setIfInBounds_toArray, List.set_cons_zero, List.set_cons_succ, List.getElem_toArray, List.getElem_cons_zero, List.getElem_cons_succ]
        refine Seq.take_lat (i := 11) (v := ?_) rfl (by kernel_rfl) (by kernel_rfl) (by kernel_rfl) (fun _ _ _ h => h) (by rfl) ?_ ?_
        rotate_left
        · intro w' hLat; change Below _ _ _ at hLat; go_simp <;> with_reducible rfl
        try simp only [Act.put, List.setIfInBounds_toArray, List.set_cons_zero, List.set_cons_succ, List.getElem_toArray, List.getElem_cons_zero, List.getElem_cons_succ]
        refine Seq.take_lat (i := 12) (v := ?_) rfl (by kernel_rfl) (by kernel_rfl) (by kernel_rfl) (fun _ _ _ h => h) (by rfl) ?_ ?_
        rotate_left
        · intro w' hLat; change Below _ _ _ at hLat; go_simp <;> with_reducible rfl
        try simp only [Act.put, List.setIfInBounds_toArray, List.set_cons_zero, List.set_cons_succ, List.getElem_toArray, List.getElem_cons_zero, List.getElem_cons_succ]
        refine Seq.take_lat (i := 13) (v := ?_) rfl (by kernel_rfl) (by kernel_rfl) (by kernel_rfl) (fun _ _ _ h => h) (by rfl) ?_ ?_
        rotate_left
        · intro w' hLat; change Below _ _ _ at hLat; go_simp <;> with_reducible rfl
        try simp only [Act.put, List.setIfInBounds_toArray, List.set_cons_zero, List.set_cons_succ, List.getElem_toArray, List.getElem_cons_zero, List.getElem_cons_succ]
        refine Seq.take_lat (i := 14) (v := .pointer (some ⟨b, o + j * 68, none⟩)) rfl (by kernel_rfl) (by kernel_rfl) (by kernel_rfl) (fun _ _ _ h => h) (by rfl) (fun w' hLat => exec_idx (.tmp 60) (.tmp 61) rfl b o len cap j rfl rfl HJ.out) ?_
        try simp only [Act.put, List.setIfInBounds_toArray, List.set_cons_zero, List.set_cons_succ, List.getElem_toArray, List.getElem_cons_zero, List.getElem_cons_succ]
        refine Seq.take_lat (i := 15) (v := .agg (av D)) rfl (by kernel_rfl) (by kernel_rfl) (by kernel_rfl) (fun _ _ _ h => h) (by rfl) (fun w' hLat => exec_load_mid 26 _ (.tmp 62) rfl Try.underlying26 rfl b (o + j * 68) rfl (vs D) (by rw [HN.out.1]; exact infoC) (range_on HX1.out.2 hLat)) ?_
        try simp only [Act.put, List.setIfInBounds_toArray, List.set_cons_zero, List.set_cons_succ, List.getElem_toArray, List.getElem_cons_zero, List.getElem_cons_succ]
        refine Seq.only_lat (i := 16) rfl (by kernel_rfl) (fun KK hK => ?_)
        rw [if_pos (by rfl)]
        go_simp
        refine Calls.mono (kput_none D x1) ?_
        rintro e x16 ⟨rfl, hb⟩
        have HX2 : Box (Kp w x16 S K G C t) := ⟨HX1.out.1.on hb⟩
        refine hK.out _ _ hb ?_
        clear hb
        clear hK KK
        try simp only [Act.put, List.setIfInBounds_toArray, List.set_cons_zero, List.set_cons_succ, List.getElem_toArray, List.getElem_cons_zero, List.getElem_cons_succ]
        refine Seq.take_lat (i := 17) (v := ?_) rfl (by kernel_rfl) (by kernel_rfl) (by kernel_rfl) (fun _ _ _ h => h) (by rfl) ?_ ?_
        rotate_left
        · intro w' hLat; change Below _ _ _ at hLat; go_simp <;> with_reducible rfl
        try simp only [Act.put, List.setIfInBounds_toArray, List.set_cons_zero, List.set_cons_succ, List.getElem_toArray, List.getElem_cons_zero, List.getElem_cons_succ]
        refine Seq.take_lat (i := 18) (v := ?_) rfl (by kernel_rfl) (by kernel_rfl) (by kernel_rfl) (fun _ _ _ h => h) (by rfl) ?_ ?_
        rotate_left
        · intro w' hLat; change Below _ _ _ at hLat; go_simp <;> with_reducible rfl
        try simp only [Act.put, List.setIfInBounds_toArray, List.set_cons_zero, List.set_cons_succ, List.getElem_toArray, List.getElem_cons_zero, List.getElem_cons_succ]
        refine wpAnyH_done (by kernel_rfl) ?_ _
        clear HX0 HX1
        go_wp2
        go_roundw
        case rel => exact ⟨j + 1, t, C, by have := HQ.out; omega, by have := HQ.out; omega, rfl, by go_num, HX2⟩
        case measure => have := HQ.out; simp [intOf]; omega
      · have hc : C.c < D.c := by omega
        have hcd : decide (C.c < D.c) = true := by simpa using hc
        go_upto_region 12 with (first
          | (refine wpList_run rfl _ _ (exec_idx _ _ rfl b o len cap j rfl rfl HJ.out) ?_)
          | (refine wpList_load_mid rfl 26 _ rfl b (o + j * 68) rfl (vs D) _ H0.out.2 Try.underlying26 rfl (by rw [HN.out.1]; exact infoC) ?_)
          | (go_at_call 13; refine Calls.mono (kput_ok wr K C D t H0.out.1.kp H0.out.1.ok HD.out hc HT.out) ?_; rintro e w4 ⟨rfl, hk, hb⟩; have H4 : Box ((Lies w4 G C ∧ Kp w (w4.setRow G (av D)) S K G D (t + 1)) ∧ w4.rangeAt b (o + j * 68) (vs D) ∧ b ≠ K ∧ b ≠ G) := ⟨H0.out.1.next hk hb HD.out, range_but H0.out.2 hb HE.out.1, HE.out⟩; clear hk hb))
        have H4x : Box (True ∧ w4.rangeAt b (o + j * 68) (vs D)) := ⟨trivial, H4.out.2.1⟩
        have c1 : w4.cell? ⟨b, o + j * 68 + 33, none⟩ = some (.int .u64 D.c) := H4x.out.2 33 _ (vs33 HD.out)
        have c2 : w4.cell? ⟨G, 33, none⟩ = some (.int .u64 C.c) := H4.out.1.1.num HOC.out 1 (by omega)
        go_quiet (fail)
        have H5 : Box (Lies (w4.drewN nq) G C ∧ Kp w ((w4.drewN nq).setRow G (av D)) S K G D (t + 1) ∧ (w4.drewN nq).rangeAt b (o + j * 68) (vs D) ∧ ((w4.drewN nq).setRow G (av D)).rangeAt b (o + j * 68) (vs D)) := ⟨H4.out.1.1, ⟨H4.out.1.2.kp, H4.out.1.2.nw, ⟨H4.out.1.2.bel.os, H4.out.1.2.bel.tape, H4.out.1.2.bel.output, H4.out.1.2.bel.size, H4.out.1.2.bel.block⟩, H4.out.1.2.hK, H4.out.1.2.hG, H4.out.1.2.ne, H4.out.1.2.ok⟩, range_on H4.out.2.1 (below_drewN (Below.refl _ _) nq), range_but (range_on H4.out.2.1 (below_drewN (Below.refl _ _) nq)) (But.setRow (But.refl _ _) _) H4.out.2.2.2⟩
        generalize w4.drewN nq = w5 at H5 ⊢
        clear c1 c2 H4 H4x
        go_upto_region 14 with (first
          | (refine wpList_run rfl _ _ (exec_idx _ _ rfl b o len cap j rfl rfl HJ.out) ?_)
          | (refine wpList_load_mid rfl 26 _ rfl b (o + j * 68) rfl (vs D) _ H5.out.2.2.1 Try.underlying26 rfl (by rw [HN.out.1]; exact infoC) ?_)
          | (refine wpList_store_row rfl 26 _ _ rfl G (av D) rfl rfl 26 (av C) H5.out.1 (by rw [HN.out.2.1]; exact infoC) (by rw [HN.out.2.1, HN.out.2.2]) (all_av D) ?_))
        have H6 : Box (Kp w (w5.setRow G (av D)) S K G D (t + 1) ∧ (w5.setRow G (av D)).rangeAt b (o + j * 68) (vs D)) := ⟨H5.out.2.1, H5.out.2.2.2⟩
        generalize w5.setRow G (av D) = w6 at H6 ⊢
        clear H5
        have ht1 : IntKind.i64.wrap ((t : Int) + 1) = (t : Int) + 1 := by rw [IntKind.wrap_i64]; have := HQ.out; omega
        go_upto_region 19 with fail
        refine Seq.begin_any (by kernel_rfl) (fun wd hd => ?_)
        have HX0 : Box (Kp w wd S K G D (t + 1) ∧ wd.rangeAt b (o + j * 68) (vs D)) := ⟨H6.out.1.on hd, range_on H6.out.2 hd⟩
        clear hd
        refine Seq.take_lat (i := 0) (v := ?_) rfl (by kernel_rfl) (by kernel_rfl) (by kernel_rfl) (fun _ _ _ h => h) (by rfl) ?_ ?_
        rotate_left
        · intro w' hLat; change Below _ _ _ at hLat; go_simp <;> with_reducible rfl
        try simp only [Act.put, List.setIfInBounds_toArray, List.set_cons_zero, List.set_cons_succ, List.getElem_toArray, List.getElem_cons_zero]
        refine Seq.take_lat (i := 2) (v := .agg (av D)) rfl (by kernel_rfl) (by kernel_rfl) (by kernel_rfl) (fun _ _ _ h => h) (by rfl) (fun w' hLat => exec_cell (.tmp 6) rfl G rfl D HX0.out.1.ok (HX0.out.1.nw.below hLat)) ?_
        try simp only [Act.put, List.setIfInBounds_toArray, List.set_cons_zero, List.set_cons_succ, List.getElem_toArray, List.getElem_cons_zero, List.getElem_cons_succ]
        refine Seq.only_lat (i := 1) rfl (by kernel_rfl) (fun KK hK => ?_)
        rw [if_pos (by rfl)]
        go_simp
        refine Calls.mono (kget_any wd K D (t + 1) HX0.out.1.kp HX0.out.1.ok) ?_
        rintro e x1 ⟨rfl, hb⟩
        have HX1 : Box (Kp w x1 S K G D (t + 1) ∧ x1.rangeAt b (o + j * 68) (vs D)) := ⟨HX0.out.1.on hb, range_on HX0.out.2 hb⟩
        refine hK.out _ _ hb ?_
        clear hb
        clear hK KK
        try simp only [Act.put, List.setIfInBounds_toArray, List.set_cons_zero, List.set_cons_succ, List.getElem_toArray, List.getElem_cons_zero, List.getElem_cons_succ]
        refine Seq.take_lat (i := 3) (v := .bool false) rfl (by kernel_rfl) (by kernel_rfl) (by kernel_rfl) (fun _ _ _ h => h) (by rfl) (fun w' hLat => exec_neS (.tmp 49) (.tmp 50) _ rfl D HX0.out.1.ok rfl rfl) ?_
        try simp only [Act.put, List.setIfInBounds_toArray, List.set_cons_zero, List.set_cons_succ, List.getElem_toArray, List.getElem_cons_zero, List.getElem_cons_succ]
        refine Seq.take_lat (i := 4) (v := ?_) rfl (by kernel_rfl) (by kernel_rfl) (by kernel_rfl) (fun _ _ _ h => h) (by rfl) ?_ ?_
        rotate_left
        · intro w' hLat; change Below _ _ _ at hLat; go_simp <;> with_reducible rfl
        try simp only [Act.put, List.setIfInBounds_toArray, List.set_cons_zero, List.set_cons_succ, List.getElem_toArray, List.getElem_cons_zero, List.getElem_cons_succ]
        refine Seq.take_lat (i := 5) (v := ?_) rfl (by kernel_rfl) (by kernel_rfl) (by kernel_rfl) (fun _ _ _ h => h) (by rfl) ?_ ?_
        rotate_left
        · intro w' hLat; change Below _ _ _ at hLat; go_simp <;> with_reducible rfl
        try simp only [Act.put, List.setIfInBounds_toArray, List.set_cons_zero, List.set_cons_succ, List.getElem_toArray, List.getElem_cons_zero, List.getElem_cons_succ]
        refine Seq.take_lat (i := 7) (v := ?_) rfl (by kernel_rfl) (by kernel_rfl) (by kernel_rfl) (fun _ _ _ h => h) (by rfl) ?_ ?_
        rotate_left
        · intro w' hLat; change Below _ _ _ at hLat; go_simp <;> with_reducible rfl
        try simp only [Act.put, List.setIfInBounds_toArray, List.set_cons_zero, List.set_cons_succ, List.getElem_toArray, List.getElem_cons_zero, List.getElem_cons_succ]
        refine Seq.only_lat (i := 6) rfl (by kernel_rfl) (fun KK hK => ?_)
        rw [if_pos (by rfl)]
        go_simp
        refine Calls.mono (ktimes_any x1 K D (t + 1) HX1.out.1.kp HX1.out.1.ok) ?_
        rintro e x6 ⟨rfl, hb⟩
        subst hb
        refine hK.out _ _ (Below.refl _ _) ?_
        clear hK KK
        try simp only [Act.put, List.setIfInBounds_toArray, List.set_cons_zero, List.set_cons_succ, List.getElem_toArray, List.getElem_cons_zero, List.getElem_cons_succ]
        refine Seq.take_lat (i := 8) (v := .bool false) rfl (by kernel_rfl) (by kernel_rfl) (by kernel_rfl) (fun _ _ _ h => h) (by rfl) (fun w' hLat => exec_nen (.tmp 54) (.tmp 55) _ rfl ((t : Int) + 1) rfl rfl) ?_
        try simp only [Act.put, List.setIfInBounds_toArray, List.set_cons_zero, List.set_cons_succ, List.getElem_toArray, List.getElem_cons_zero, List.getElem_cons_succ]
        refine Seq.take_lat (i := 9) (v := ?_) rfl (by kernel_rfl) (by kernel_rfl) (by kernel_rfl) (fun _ _ _ h => h) (by rfl) ?_ ?_
        rotate_left
        · intro w' hLat; change Below _ _ _ at hLat; go_simp <;> with_reducible rfl
        try simp only [Act.put, List.setIfInBounds_toArray, List.set_cons_zero, List.set_cons_succ, List.getElem_toArray, List.getElem_cons_zero, List.getElem_cons_succ]
        refine Seq.take_lat (i := 10) (v := ?_) rfl (by kernel_rfl) (by kernel_rfl) (by kernel_rfl) (fun _ _ _ h => h) (by rfl) ?_ ?_
        rotate_left
        · intro w' hLat; change Below _ _ _ at hLat; go_simp <;> with_reducible rfl
        try simp only [Act.put, List.setIfInBounds_toArray, List.set_cons_zero, List.set_cons_succ, List.getElem_toArray, List.getElem_cons_zero, List.getElem_cons_succ]
        refine Seq.take_lat (i := 11) (v := ?_) rfl (by kernel_rfl) (by kernel_rfl) (by kernel_rfl) (fun _ _ _ h => h) (by rfl) ?_ ?_
        rotate_left
        · intro w' hLat; change Below _ _ _ at hLat; go_simp <;> with_reducible rfl
        try simp only [Act.put, List.setIfInBounds_toArray, List.set_cons_zero, List.set_cons_succ, List.getElem_toArray, List.getElem_cons_zero, List.getElem_cons_succ]
        refine Seq.take_lat (i := 12) (v := ?_) rfl (by kernel_rfl) (by kernel_rfl) (by kernel_rfl) (fun _ _ _ h => h) (by rfl) ?_ ?_
        rotate_left
        · intro w' hLat; change Below _ _ _ at hLat; go_simp <;> with_reducible rfl
        try simp only [Act.put, List.setIfInBounds_toArray, List.set_cons_zero, List.set_cons_succ, List.getElem_toArray, List.getElem_cons_zero, List.getElem_cons_succ]
        refine Seq.take_lat (i := 13) (v := ?_) rfl (by kernel_rfl) (by kernel_rfl) (by kernel_rfl) (fun _ _ _ h => h) (by rfl) ?_ ?_
        rotate_left
        · intro w' hLat; change Below _ _ _ at hLat; go_simp <;> with_reducible rfl
        try simp only [Act.put, List.setIfInBounds_toArray, List.set_cons_zero, List.set_cons_succ, List.getElem_toArray, List.getElem_cons_zero, List.getElem_cons_succ]
        refine Seq.take_lat (i := 14) (v := .pointer (some ⟨b, o + j * 68, none⟩)) rfl (by kernel_rfl) (by kernel_rfl) (by kernel_rfl) (fun _ _ _ h => h) (by rfl) (fun w' hLat => exec_idx (.tmp 60) (.tmp 61) rfl b o len cap j rfl rfl HJ.out) ?_
        try simp only [Act.put, List.setIfInBounds_toArray, List.set_cons_zero, List.set_cons_succ, List.getElem_toArray, List.getElem_cons_zero, List.getElem_cons_succ]
        refine Seq.take_lat (i := 15) (v := .agg (av D)) rfl (by kernel_rfl) (by kernel_rfl) (by kernel_rfl) (fun _ _ _ h => h) (by rfl) (fun w' hLat => exec_load_mid 26 _ (.tmp 62) rfl Try.underlying26 rfl b (o + j * 68) rfl (vs D) (by rw [HN.out.1]; exact infoC) (range_on HX1.out.2 hLat)) ?_
        try simp only [Act.put, List.setIfInBounds_toArray, List.set_cons_zero, List.set_cons_succ, List.getElem_toArray, List.getElem_cons_zero, List.getElem_cons_succ]
        refine Seq.only_lat (i := 16) rfl (by kernel_rfl) (fun KK hK => ?_)
        rw [if_pos (by rfl)]
        go_simp
        refine Calls.mono (kput_none D x1) ?_
        rintro e x16 ⟨rfl, hb⟩
        have HX2 : Box (Kp w x16 S K G D (t + 1)) := ⟨HX1.out.1.on hb⟩
        refine hK.out _ _ hb ?_
        clear hb
        clear hK KK
        try simp only [Act.put, List.setIfInBounds_toArray, List.set_cons_zero, List.set_cons_succ, List.getElem_toArray, List.getElem_cons_zero, List.getElem_cons_succ]
        refine Seq.take_lat (i := 17) (v := ?_) rfl (by kernel_rfl) (by kernel_rfl) (by kernel_rfl) (fun _ _ _ h => h) (by rfl) ?_ ?_
        rotate_left
        · intro w' hLat; change Below _ _ _ at hLat; go_simp <;> with_reducible rfl
        try simp only [Act.put, List.setIfInBounds_toArray, List.set_cons_zero, List.set_cons_succ, List.getElem_toArray, List.getElem_cons_zero, List.getElem_cons_succ]
        refine Seq.take_lat (i := 18) (v := ?_) rfl (by kernel_rfl) (by kernel_rfl) (by kernel_rfl) (fun _ _ _ h => h) (by rfl) ?_ ?_
        rotate_left
        · intro w' hLat; change Below _ _ _ at hLat; go_simp <;> with_reducible rfl
        try simp only [Act.put, List.setIfInBounds_toArray, List.set_cons_zero, List.set_cons_succ, List.getElem_toArray, List.getElem_cons_zero, List.getElem_cons_succ]
        refine wpAnyH_done (by kernel_rfl) ?_ _
        clear HX0 HX1
        go_wp2
        go_roundw
        case rel => exact ⟨j + 1, t + 1, D, by have := HQ.out; omega, by have := HQ.out; omega, by go_num, by go_num, ⟨by rw [Int.natCast_add]; exact HX2.out⟩⟩
        case measure => have := HQ.out; simp [intOf]; omega
    · have hx : ¬ (j < len ∧ j < 100) := hlt
      by_cases h1 : j < len
      · have d1 : decide ((j : Int) < (len : Int)) = true := by simp; omega
        have d2 : decide ((j : Int) < 100) = false := by simp; omega
        clear hx hlt
        go_wp2_with (first
          | (refine wpList_run rfl _ _ (exec_built 26 [] rfl [] rfl _ built_C) ?_)
          | (refine wpList_run rfl _ _ (exec_eqz (.tmp 68) (.tmp 69) _ rfl rfl rfl) ?_)
          | (go_at_call 15; refine Calls.mono (ktimes_none w8) ?_; rintro e w9 ⟨rfl, rfl⟩)
          | (go_at_call 14; refine Calls.mono (kget_none wr) ?_; rintro e w8 ⟨rfl, hb⟩; have H8 : Box (Kp w w8 S K G C t) := ⟨HP.out.on hb⟩; clear hb))
        go_ret
        exact ⟨rfl, by rw [HS.out]; exact H8.out.bel⟩
      · have d1 : decide ((j : Int) < (len : Int)) = false := by simp; omega
        clear hx hlt
        go_wp2_with (first
          | (refine wpList_run rfl _ _ (exec_built 26 [] rfl [] rfl _ built_C) ?_)
          | (refine wpList_run rfl _ _ (exec_eqz (.tmp 68) (.tmp 69) _ rfl rfl rfl) ?_)
          | (go_at_call 15; refine Calls.mono (ktimes_none w8) ?_; rintro e w9 ⟨rfl, rfl⟩)
          | (go_at_call 14; refine Calls.mono (kget_none wr) ?_; rintro e w8 ⟨rfl, hb⟩; have H8 : Box (Kp w w8 S K G C t) := ⟨HP.out.on hb⟩; clear hb))
        go_ret
        exact ⟨rfl, by rw [HS.out]; exact H8.out.bel⟩
end Go.Proofs.Ytejpbbgnammgkaa
