/-
  The law's step: something is done with a disk and the reference's, and they answer alike.
-/
import Derived.Test.YtlokhbkjkobmaaaZV
import Derived.Test.YtlokhbkjkobmaaaZF
namespace Go.Proofs.Ytlokhbkjkobmaaa
set_option linter.unusedVariables false
open Go.RowKit Plain

/-- What is done, as a value. -/
def ac (kd sl : Int) (a : Option Addr) (len cap : Nat) (ka : Option Addr) (kl kc : Nat) (sh : Bool) : List Value := [.int .i64 kd, .int .i64 sl, .slice a len cap, .slice ka kl kc, .bool sh]
structure Lc (S : Nat) (w : World) (V A : List Value) : Prop where
  b1 : w.heap[S]? = some (.cells V.toArray 31 (0, 0))
  b2 : w.heap[S + 1]? = some (.cells A.toArray 39 (0, 0))
  b3 : ∃ Z : Array Value, w.heap[S + 2]? = some (.cells Z 31 (0, 0)) ∧ Z.size = 6
theorem Lc.fr {S : Nat} {w w' : World} {V A : List Value} (h : Lc S w V A) (f : Fr w w') : Lc S w' V A := by
  obtain ⟨Z, h3, h4⟩ := h.b3
  exact ⟨(f.2 _ _ _ _ h.b1 (by unfold Own4; decide)).trans h.b1, (f.2 _ _ _ _ h.b2 (by unfold Own4; decide)).trans h.b2, ⟨Z, (f.2 _ _ _ _ h3 (by unfold Own4; decide)).trans h3, h4⟩⟩
theorem Lc.act {S : Nat} {w : World} {V A : List Value} (h : Lc S w V A) (k : Nat) : w.cell? ⟨S + 1, k, none⟩ = A.toArray[k]? := cell_of_row _ _ _ _ _ _ h.b2
theorem Lc.start (w : World) (V A Z : List Value) (hZ : Z.length = 6) : Lc w.heap.size (((w.alloc (.cells V.toArray 31)).alloc (.cells A.toArray 39)).alloc (.cells Z.toArray 31)) V A :=
  ⟨al_old (al_old (al_at rfl)), al_old (al_at (by simp)), ⟨_, al_at (by simp), by simp [hZ]⟩⟩
theorem infoA : (Try.prog.info? 39).map (·.size) = some 5 := by kernel_rfl
theorem wpList_ldA {ops : Array Oper} {rest : List Oper} {o : Oper} {act : Act} {w : World} {Q : Exit → Act → World → Prop} (hgd : o.guard = none) (x : Operand) (ho : o.op = .load 39 x) (S : Nat) (V : List Value) (hx : act.eval x = .pointer (some ⟨S, 0, none⟩)) (hB : w.heap[S]? = some (.cells V.toArray 39 (0, 0))) (hV : V.length = 5)
    (h : wpList Try.prog ops Q rest (act.put o.dst (.agg V.toArray)) w) : wpList Try.prog ops Q (o :: rest) act w :=
  wpList_load_row hgd 39 x ho S hx _ _ _ _ hB Try.underlying39 rfl (by rw [infoA]; simp [hV]) h
/-- The answer is laid, in any block of its type. -/
theorem wpList_stG {ops : Array Oper} {rest : List Oper} {o : Oper} {act : Act} {w : World} {Q : Exit → Act → World → Prop} (hgd : o.guard = none) (x y : Operand) (ho : o.op = .store 31 x y) (b : Nat) (V' : List Value) (hx : act.eval x = .pointer (some ⟨b, 0, none⟩)) (hy : act.eval y = .agg V'.toArray)
    (H : ∃ Z : Array Value, w.heap[b]? = some (.cells Z 31 (0, 0)) ∧ Z.size = 6) (hV : V'.length = 6) (h1 : V'.toArray.all (·.oneCell') = true)
    (h : ∀ w', w'.heap[b]? = some (.cells V'.toArray 31 (0, 0)) → Turned (fun k => k = b) w w' → wpList Try.prog ops Q rest (act.put o.dst undef) w') : wpList Try.prog ops Q (o :: rest) act w := by
  obtain ⟨Z, hR, hZ⟩ := H
  have hr := run_storeVar_row (P := Try.prog) w b _ 31 Z V'.toArray hR (by rw [infoD]; simp [hV]) (by simp [hZ, hV]) h1
  have t : Turned (fun k => k = b) w (w.setRow b V'.toArray) := ⟨rfl, rfl, rfl, by simp, fun k _ hk => setRow_other w b k _ hk⟩
  refine wpList_plain hgd fun _ hK => ?_
  unfold Oper.wp execOp
  simp only [ho, hx, hy, Instr.storeAt, Instr.sureAddr, Sem.run_bind, Sem.run_pure, Result.andThen_ok, hr]
  exact hK _ _ (h _ (setRow_heap w b Z _ _ _ hR) t)
theorem own_ne {w : World} {base n : Nat} {e : TypeId} {sz : Nat} {v : Value} {xs : List Value} {b : Nat} {Z : Array Value} {t : TypeId} {fr : Nat × Nat} (h : w.ownsRow base e sz v n xs) (hb : w.heap[b]? = some (.cells Z t fr)) (hne : t ≠ e) : ∀ k, v.ownBlock = some k → ¬ (k = b) := by
  rintro k hk rfl
  rcases h.2 with ⟨rfl, _⟩ | ⟨g, cap, cur, rfl, _, hg, _⟩
  · simp [Value.ownBlock] at hk
  · simp only [Value.ownBlock, Option.some.injEq] at hk
    subst hk
    rw [hg] at hb
    simp only [Option.some.injEq, Obj.cells.injEq] at hb
    exact hne hb.2.1.symm
theorem Cm.put {w0 w w' : World} {D : Nat} {d : Dk} {b : Nat} {Z : Array Value} (C : Cm w0 w D d) (hb : w.heap[b]? = some (.cells Z 31 (0, 0))) (hlo : w0.heap.size ≤ b) (t : Turned (fun k => k = b) w w') : Cm w0 w' D d := by
  obtain ⟨fp, c, hf⟩ := C.foot
  have hn : ¬ fp b := hf b _ _ _ hb (by unfold Own4; decide)
  exact ⟨fp, c.is.same (fun k hk hl => t.block k hl (fun e => hn (e ▸ hk))), c.bel.trans (t.below c.bel.size (fun k e => by omega)), c.lo, fun k hk => Nat.lt_of_lt_of_le (c.hi k hk) t.size⟩
theorem Rv.put {w w' : World} {v : Value} {r : Rd} {b : Nat} {Z : Array Value} (h : Rv w v r) (hb : w.heap[b]? = some (.cells Z 31 (0, 0))) (t : Turned (fun k => k = b) w w') : Rv w' v r := by
  obtain ⟨vd, vw, vo, rfl, h1, h2, h3⟩ := h
  exact ⟨vd, vw, vo, rfl, own_turned h1 t (own_ne h1 hb (by decide)), own_turned h2 t (own_ne h2 hb (by decide)), own_turned h3 t (own_ne h3 hb (by decide))⟩
theorem Fr.put {a w w' : World} {b : Nat} (h : Fr a w) (hb : a.heap.size ≤ b) (t : Turned (fun k => k = b) w w') : Fr a w' := ⟨Nat.le_trans h.1 t.size, fun k cs ty fr hk ht => by
  have hl := (Array.getElem?_eq_some_iff.1 hk).1
  have h0 := h.1
  exact (t.block k (by omega) (by omega)).trans (h.2 k cs ty fr hk ht)⟩
/-- What step leaves. -/
def Stp (w0 w : World) (D k : Nat) (d : Dk) (w' : World) (v' : Value) : Prop := ∃ d' r', Cm w0 w' D d' ∧ Rv w' v' r' ∧ J (k + 1) d' r' ∧ Fr w w' ∧ d'.n = d.n
theorem rv_of {w : World} {v : Value} {r : Rd} (h : Rv w v r) : ∃ V : List Value, v = .agg V.toArray ∧ V.length = 6 ∧ V.toArray.all (·.oneCell') = true := by
  obtain ⟨vd, vw, vo, rfl, h1, h2, h3⟩ := h
  exact ⟨_, rfl, rfl, one_rv (oneR h1) (oneR h2) (oneO h3)⟩
theorem stp_end {w0 w w5 w6 : World} {D k S : Nat} {V A : List Value} {v : Value} {d' : Dk} {r' : Rd} (H : Lc S w5 V A ∧ Rv w5 v r' ∧ Fr w w5 ∧ Cm w0 w5 D d' ∧ J (k + 1) d' r') (hS : w.heap.size = S) (hC : w0.heap.size ≤ S) (t : Turned (fun k => k = S + 1 + 1) w5 w6) (d : Dk) (hnn : d'.n = d.n) : Stp w0 w D k d w6 v := by
  obtain ⟨hL, hv, hf, hc, hj⟩ := H
  obtain ⟨Z, h3, _⟩ := hL.b3
  exact ⟨d', r', hc.put h3 (by omega) t, hv.put h3 t, hj, hf.put (by omega) t, hnn⟩
theorem stp_new {w0 w w4 : World} {D k S : Nat} {V A : List Value} {v : Value} {d' : Dk} {r' : Rd} (H : Lc S w4 V A ∧ Rv w4 v r' ∧ Fr w w4 ∧ Cm w0 w4 D d' ∧ J (k + 1) d' r') (o : Obj) : Lc S (w4.alloc o) V A ∧ Rv (w4.alloc o) v r' ∧ Fr w (w4.alloc o) ∧ Cm w0 (w4.alloc o) D d' ∧ J (k + 1) d' r' := by
  have hb : Below w4.heap.size w4 (w4.alloc o) := (Below.refl _ _).alloc (Nat.le_refl _) _
  exact ⟨H.1.fr (Fr.below hb), H.2.1.below hb, H.2.2.1.trans (Fr.below hb), H.2.2.2.1.step hb, H.2.2.2.2⟩
theorem stp_on {w0 w w3 w4 : World} {D k S : Nat} {V A : List Value} {v : Value} {d' : Dk} {r' : Rd} (h1 : Lc S w3 V A) (h2 : Fr w w3) (h3 : Cm w0 w3 D d') (h4 : J (k + 1) d' r') (hv : Rv w4 v r') (hb : Below w3.heap.size w3 w4) : Lc S w4 V A ∧ Rv w4 v r' ∧ Fr w w4 ∧ Cm w0 w4 D d' ∧ J (k + 1) d' r' :=
  ⟨h1.fr (Fr.below hb), hv, h2.trans (Fr.below hb), h3.step hb, h4⟩
set_option maxRecDepth 20000 in
set_option maxHeartbeats 4000000 in
theorem step_w0 (w0 w : World) (D k : Nat) (d : Dk) (r : Rd) (V : List Value) (C : Cm w0 w D d) (hR : Rv w (.agg V.toArray) r) (hV6 : V.length = 6) (hJ : J k d r) (hk : k < 900000) (kd sl : Int) (a : Option Addr) (len cap : Nat) (ka : Option Addr) (kl kc : Nat) (sh : Bool) (X : List Int) (K : List Bool)
    (hX : ∀ x, Below w0.heap.size w0 x → Bytes x a len X) (hK : ∀ x, Below w0.heap.size w0 x → Bools x ka kl K) (hKn : ∀ ad, ka = some ad → 0 < kl → ad.block < w0.heap.size) (hlen : len ≤ maxLen) (hkl : kl ≤ maxLen) (hsl : sl ≤ 9223372036854775807) (e0 : (bits BinOp.and IntKind.i64 kd 7 == 0) = true) :
    Calls Try.prog 12 #[.pointer (some ⟨D, 0, none⟩), .agg V.toArray, .agg (ac kd sl a len cap ka kl kc sh).toArray] w fun e w' => ∃ v', e = .returned (.tuple #[v', .bool true]) ∧ Stp w0 w D k d w' v' := by
  have hb0 : Below w.heap.size w (((w.alloc (.cells V.toArray 31)).alloc (.cells (ac kd sl a len cap ka kl kc sh).toArray 39)).alloc (.cells [.int .i64 0, .slice none 0 0, .slice none 0 0, .int .i64 0, .bool false, .slice none 0 0].toArray 31)) := (((Below.refl _ w).alloc (Nat.le_refl _) _).alloc (by simp) _).alloc (by simp; omega) _
  have H : Box (Lc w.heap.size (((w.alloc (.cells V.toArray 31)).alloc (.cells (ac kd sl a len cap ka kl kc sh).toArray 39)).alloc (.cells [.int .i64 0, .slice none 0 0, .slice none 0 0, .int .i64 0, .bool false, .slice none 0 0].toArray 31)) V (ac kd sl a len cap ka kl kc sh) ∧ Cm w0 (((w.alloc (.cells V.toArray 31)).alloc (.cells (ac kd sl a len cap ka kl kc sh).toArray 39)).alloc (.cells [.int .i64 0, .slice none 0 0, .slice none 0 0, .int .i64 0, .bool false, .slice none 0 0].toArray 31)) D d ∧ Rv (((w.alloc (.cells V.toArray 31)).alloc (.cells (ac kd sl a len cap ka kl kc sh).toArray 39)).alloc (.cells [.int .i64 0, .slice none 0 0, .slice none 0 0, .int .i64 0, .bool false, .slice none 0 0].toArray 31)) (.agg V.toArray) r ∧ Fr w (((w.alloc (.cells V.toArray 31)).alloc (.cells (ac kd sl a len cap ka kl kc sh).toArray 39)).alloc (.cells [.int .i64 0, .slice none 0 0, .slice none 0 0, .int .i64 0, .bool false, .slice none 0 0].toArray 31))) := ⟨Lc.start w _ _ _ rfl, C.step hb0, hR.below hb0, Fr.below hb0⟩
  have HJ : Box (J k d r ∧ k < 900000 ∧ V.length = 6) := ⟨hJ, hk, hV6⟩
  have HX : Box (∀ x, Below w0.heap.size w0 x → Bytes x a len X) := ⟨hX⟩
  have HK : Box ((∀ x, Below w0.heap.size w0 x → Bools x ka kl K) ∧ (∀ ad, ka = some ad → 0 < kl → ad.block < w0.heap.size) ∧ kl ≤ maxLen ∧ sl ≤ 9223372036854775807) := ⟨hK, hKn, hkl, hsl⟩
  have HC : Box (w0.heap.size ≤ w.heap.size) := ⟨by obtain ⟨fp, c⟩ := C; exact c.bel.size⟩
  have HLe : Box (len ≤ maxLen) := ⟨hlen⟩
  have HBy : Box (Byt X) := ⟨by obtain ⟨fp, c⟩ := C; exact (hX w c.bel).2.1⟩
  obtain ⟨S, HS⟩ : ∃ S, Box (w.heap.size = S) := ⟨_, ⟨rfl⟩⟩
  clear C hR hJ hk hX hK hKn hlen hkl hb0 hsl hV6
  go_enter Try.func12, Try.ntmps12
  go_upto_region 1 with fail
  rw [HS.out] at H HC ⊢
  generalize ((w.alloc (.cells V.toArray 31)).alloc (.cells (ac kd sl a len cap ka kl kc sh).toArray 39)).alloc (.cells [.int .i64 0, .slice none 0 0, .slice none 0 0, .int .i64 0, .bool false, .slice none 0 0].toArray 31) = w1 at H ⊢
  have HF : Box (Calls Try.prog 22 #[.agg (ac kd sl a len cap ka kl kc sh).toArray] w1 fun e w' => ∃ g, e = .returned (.slice (some ⟨g, 0, none⟩) (fln sh) (fln sh)) ∧ w1.heap.size ≤ g ∧ w'.heap[g]? = some (.cells (u8s (fullB (fln sh) X)) 5 (0, 0)) ∧ Below w1.heap.size w1 w') := ⟨full_any w1 kd sl a len cap (.slice ka kl kc) rfl sh X (by obtain ⟨fp, c⟩ := H.out.2.1; exact HX.out _ c.bel) HLe.out⟩
  go_upto_region 2 with (first
    | (refine wpList_ldA rfl _ rfl (S + 1) (ac kd sl a len cap ka kl kc sh) rfl H.out.1.b2 rfl ?_)
    | (go_at_call 22; refine HF.out.mono ?_; rintro e w2 ⟨g, rfl, hg, hrow, hb⟩; have H2 : Box (Lc S w2 V (ac kd sl a len cap ka kl kc sh) ∧ Cm w0 w2 D d ∧ Rv w2 (.agg V.toArray) r ∧ Fr w w2 ∧ w2.heap[g]? = some (.cells (u8s (fullB (fln sh) X)) 5 (0, 0))) := ⟨H.out.1.fr (Fr.below hb), H.out.2.1.step hb, H.out.2.2.1.below hb, H.out.2.2.2.trans (Fr.below hb), hrow⟩; clear hg hrow hb))
  clear HF H HLe HX
  obtain ⟨B, hBe⟩ : ∃ B, fullB (fln sh) X = B := ⟨_, rfl⟩
  have hBl : fln sh = B.length := by rw [← hBe, length_fullB]
  have HFb : Box (Byt B) := ⟨by rw [← hBe]; exact byt_fullB _ _ HBy.out⟩
  rw [hBe] at H2
  rw [hBl]
  clear hBe hBl
  have a0 : w2.cell? ⟨S + 1, 0, none⟩ = some (.int .i64 kd) := H2.out.1.act 0
  have a1 : w2.cell? ⟨S + 1, 1, none⟩ = some (.int .i64 sl) := H2.out.1.act 1
  have a3 : w2.cell? ⟨S + 1, 3, none⟩ = some (.slice ka kl kc) := H2.out.1.act 3
  go_upto_region 3 with fail
  generalize bits BinOp.and IntKind.i64 kd 7 = m at e0 ⊢
  go_upto_region 5 with fail
  have HD : Box _ := ⟨both_write H2.out.2.1 HJ.out.1 HJ.out.2.1 sl g B H2.out.2.2.2.2 HFb.out⟩
  go_upto_region 6 with (go_at_call 18; refine HD.out.mono ?_; rintro e w3 ⟨x, d', r', rfl, hn, hr⟩; have H3 : Box (Lc S w3 V (ac kd sl a len cap ka kl kc sh) ∧ Rv w3 (.agg V.toArray) r ∧ Fr w w3 ∧ w3.heap[g]? = some (.cells (u8s B) 5 (0, 0)) ∧ Cm w0 w3 D d' ∧ J (k + 1) d' r') := ⟨H2.out.1.fr hn.f, H2.out.2.2.1.fr hn.f, H2.out.2.2.2.1.trans hn.f, (hn.f.2 _ _ _ _ H2.out.2.2.2.2 (by unfold Own4; decide)).trans H2.out.2.2.2.2, hn.c, hn.j⟩; have HRf : Box _ := ⟨hr⟩; have HNn : Box (d'.n = d.n) := ⟨hn.nn⟩; clear hn hr)
  clear HD a0 a1 a3 H2
  have a1 : w3.cell? ⟨S + 1, 1, none⟩ = some (.int .i64 sl) := H3.out.1.act 1
  have a3 : w3.cell? ⟨S + 1, 3, none⟩ = some (.slice ka kl kc) := H3.out.1.act 3
  have HY : Box (Bytes w3 (some ⟨g, 0, none⟩) B.length B) := ⟨bytes_of_row HFb.out H3.out.2.2.2.1⟩
  go_upto_region 7 with (first
    | (refine wpList_ldD rfl _ rfl S V rfl H3.out.1.b1 HJ.out.2.2 ?_)
    | (refine wpList_run rfl _ _ (exec_conv _ rfl rfl HY.out) ?_)
    | (go_at_call 28; refine (HRf.out w3 _ H3.out.2.1).mono ?_; rintro e w4 ⟨v4, rfl, hv4, hb4⟩; obtain ⟨V4, rfl, hV4, ho4⟩ := rv_of hv4; have H4 : Box (Lc S w4 V (ac kd sl a len cap ka kl kc sh) ∧ Rv w4 (.agg V4.toArray) r' ∧ Fr w w4 ∧ Cm w0 w4 D d' ∧ J (k + 1) d' r') := ⟨stp_on H3.out.1 H3.out.2.2.1 H3.out.2.2.2.2.1 H3.out.2.2.2.2.2 hv4 hb4⟩; have H4b : Box (V4.length = 6 ∧ V4.toArray.all (·.oneCell') = true) := ⟨hV4, ho4⟩; clear hv4 hb4 hV4 ho4)
    | (refine wpList_run rfl _ _ (exec_alloc 31 rfl _ zeroD) ?_)
    | (refine wpList_stN rfl _ _ rfl _ V4 rfl rfl rfl H4b.out.1 H4b.out.2 ?_))
  clear HY
  have H5 : Box (Lc S (w4.alloc (.cells V4.toArray 31)) V (ac kd sl a len cap ka kl kc sh) ∧ Rv (w4.alloc (.cells V4.toArray 31)) (.agg V4.toArray) r' ∧ Fr w (w4.alloc (.cells V4.toArray 31)) ∧ Cm w0 (w4.alloc (.cells V4.toArray 31)) D d' ∧ J (k + 1) d' r') := ⟨stp_new H4.out _⟩
  have H5b : Box ((w4.alloc (.cells V4.toArray 31)).heap[w4.heap.size]? = some (.cells V4.toArray 31 (0, 0))) := ⟨al_at rfl⟩
  generalize w4.alloc (.cells V4.toArray 31) = w5 at *
  generalize w4.heap.size = G at *
  clear a1 a3 HRf H3 H4
  go_wp2_with (first
    | (refine wpList_ldD rfl _ rfl G V4 rfl H5b.out H4b.out.1 ?_)
    | (refine wpList_stG rfl _ _ rfl (S + 1 + 1) V4 rfl rfl H5.out.1.b3 H4b.out.1 H4b.out.2 ?_; intro w6 h6 t6))
  (try simp only [Exit.inBlock, Exit.then])
  refine bodyPost_ret (results_D2 rfl _ _ (S + 1 + 1) V4 rfl H4b.out.1 h6) rfl ?_
  exact ⟨_, rfl, stp_end H5.out HS.out HC.out t6 d HNn.out⟩
set_option maxRecDepth 20000 in
set_option maxHeartbeats 4000000 in
theorem step_w1 (w0 w : World) (D k : Nat) (d : Dk) (r : Rd) (V : List Value) (C : Cm w0 w D d) (hR : Rv w (.agg V.toArray) r) (hV6 : V.length = 6) (hJ : J k d r) (hk : k < 900000) (kd sl : Int) (a : Option Addr) (len cap : Nat) (ka : Option Addr) (kl kc : Nat) (sh : Bool) (X : List Int) (K : List Bool)
    (hX : ∀ x, Below w0.heap.size w0 x → Bytes x a len X) (hK : ∀ x, Below w0.heap.size w0 x → Bools x ka kl K) (hKn : ∀ ad, ka = some ad → 0 < kl → ad.block < w0.heap.size) (hlen : len ≤ maxLen) (hkl : kl ≤ maxLen) (hsl : sl ≤ 9223372036854775807) (e0 : (bits BinOp.and IntKind.i64 kd 7 == 0) = false) (e1 : (bits BinOp.and IntKind.i64 kd 7 == 1) = true) :
    Calls Try.prog 12 #[.pointer (some ⟨D, 0, none⟩), .agg V.toArray, .agg (ac kd sl a len cap ka kl kc sh).toArray] w fun e w' => ∃ v', e = .returned (.tuple #[v', .bool true]) ∧ Stp w0 w D k d w' v' := by
  have hb0 : Below w.heap.size w (((w.alloc (.cells V.toArray 31)).alloc (.cells (ac kd sl a len cap ka kl kc sh).toArray 39)).alloc (.cells [.int .i64 0, .slice none 0 0, .slice none 0 0, .int .i64 0, .bool false, .slice none 0 0].toArray 31)) := (((Below.refl _ w).alloc (Nat.le_refl _) _).alloc (by simp) _).alloc (by simp; omega) _
  have H : Box (Lc w.heap.size (((w.alloc (.cells V.toArray 31)).alloc (.cells (ac kd sl a len cap ka kl kc sh).toArray 39)).alloc (.cells [.int .i64 0, .slice none 0 0, .slice none 0 0, .int .i64 0, .bool false, .slice none 0 0].toArray 31)) V (ac kd sl a len cap ka kl kc sh) ∧ Cm w0 (((w.alloc (.cells V.toArray 31)).alloc (.cells (ac kd sl a len cap ka kl kc sh).toArray 39)).alloc (.cells [.int .i64 0, .slice none 0 0, .slice none 0 0, .int .i64 0, .bool false, .slice none 0 0].toArray 31)) D d ∧ Rv (((w.alloc (.cells V.toArray 31)).alloc (.cells (ac kd sl a len cap ka kl kc sh).toArray 39)).alloc (.cells [.int .i64 0, .slice none 0 0, .slice none 0 0, .int .i64 0, .bool false, .slice none 0 0].toArray 31)) (.agg V.toArray) r ∧ Fr w (((w.alloc (.cells V.toArray 31)).alloc (.cells (ac kd sl a len cap ka kl kc sh).toArray 39)).alloc (.cells [.int .i64 0, .slice none 0 0, .slice none 0 0, .int .i64 0, .bool false, .slice none 0 0].toArray 31))) := ⟨Lc.start w _ _ _ rfl, C.step hb0, hR.below hb0, Fr.below hb0⟩
  have HJ : Box (J k d r ∧ k < 900000 ∧ V.length = 6) := ⟨hJ, hk, hV6⟩
  have HX : Box (∀ x, Below w0.heap.size w0 x → Bytes x a len X) := ⟨hX⟩
  have HK : Box ((∀ x, Below w0.heap.size w0 x → Bools x ka kl K) ∧ (∀ ad, ka = some ad → 0 < kl → ad.block < w0.heap.size) ∧ kl ≤ maxLen ∧ sl ≤ 9223372036854775807) := ⟨hK, hKn, hkl, hsl⟩
  have HC : Box (w0.heap.size ≤ w.heap.size) := ⟨by obtain ⟨fp, c⟩ := C; exact c.bel.size⟩
  have HLe : Box (len ≤ maxLen) := ⟨hlen⟩
  have HBy : Box (Byt X) := ⟨by obtain ⟨fp, c⟩ := C; exact (hX w c.bel).2.1⟩
  obtain ⟨S, HS⟩ : ∃ S, Box (w.heap.size = S) := ⟨_, ⟨rfl⟩⟩
  clear C hR hJ hk hX hK hKn hlen hkl hb0 hsl hV6
  go_enter Try.func12, Try.ntmps12
  go_upto_region 1 with fail
  rw [HS.out] at H HC ⊢
  generalize ((w.alloc (.cells V.toArray 31)).alloc (.cells (ac kd sl a len cap ka kl kc sh).toArray 39)).alloc (.cells [.int .i64 0, .slice none 0 0, .slice none 0 0, .int .i64 0, .bool false, .slice none 0 0].toArray 31) = w1 at H ⊢
  have HF : Box (Calls Try.prog 22 #[.agg (ac kd sl a len cap ka kl kc sh).toArray] w1 fun e w' => ∃ g, e = .returned (.slice (some ⟨g, 0, none⟩) (fln sh) (fln sh)) ∧ w1.heap.size ≤ g ∧ w'.heap[g]? = some (.cells (u8s (fullB (fln sh) X)) 5 (0, 0)) ∧ Below w1.heap.size w1 w') := ⟨full_any w1 kd sl a len cap (.slice ka kl kc) rfl sh X (by obtain ⟨fp, c⟩ := H.out.2.1; exact HX.out _ c.bel) HLe.out⟩
  go_upto_region 2 with (first
    | (refine wpList_ldA rfl _ rfl (S + 1) (ac kd sl a len cap ka kl kc sh) rfl H.out.1.b2 rfl ?_)
    | (go_at_call 22; refine HF.out.mono ?_; rintro e w2 ⟨g, rfl, hg, hrow, hb⟩; have H2 : Box (Lc S w2 V (ac kd sl a len cap ka kl kc sh) ∧ Cm w0 w2 D d ∧ Rv w2 (.agg V.toArray) r ∧ Fr w w2 ∧ w2.heap[g]? = some (.cells (u8s (fullB (fln sh) X)) 5 (0, 0))) := ⟨H.out.1.fr (Fr.below hb), H.out.2.1.step hb, H.out.2.2.1.below hb, H.out.2.2.2.trans (Fr.below hb), hrow⟩; clear hg hrow hb))
  clear HF H HLe HX
  obtain ⟨B, hBe⟩ : ∃ B, fullB (fln sh) X = B := ⟨_, rfl⟩
  have hBl : fln sh = B.length := by rw [← hBe, length_fullB]
  have HFb : Box (Byt B) := ⟨by rw [← hBe]; exact byt_fullB _ _ HBy.out⟩
  rw [hBe] at H2
  rw [hBl]
  clear hBe hBl
  have a0 : w2.cell? ⟨S + 1, 0, none⟩ = some (.int .i64 kd) := H2.out.1.act 0
  have a1 : w2.cell? ⟨S + 1, 1, none⟩ = some (.int .i64 sl) := H2.out.1.act 1
  have a3 : w2.cell? ⟨S + 1, 3, none⟩ = some (.slice ka kl kc) := H2.out.1.act 3
  go_upto_region 3 with fail
  generalize bits BinOp.and IntKind.i64 kd 7 = m at e0 e1 ⊢
  go_upto_region 5 with fail
  have HD : Box _ := ⟨both_write H2.out.2.1 HJ.out.1 HJ.out.2.1 sl g B H2.out.2.2.2.2 HFb.out⟩
  go_upto_region 6 with (go_at_call 18; refine HD.out.mono ?_; rintro e w3 ⟨x, d', r', rfl, hn, hr⟩; have H3 : Box (Lc S w3 V (ac kd sl a len cap ka kl kc sh) ∧ Rv w3 (.agg V.toArray) r ∧ Fr w w3 ∧ w3.heap[g]? = some (.cells (u8s B) 5 (0, 0)) ∧ Cm w0 w3 D d' ∧ J (k + 1) d' r') := ⟨H2.out.1.fr hn.f, H2.out.2.2.1.fr hn.f, H2.out.2.2.2.1.trans hn.f, (hn.f.2 _ _ _ _ H2.out.2.2.2.2 (by unfold Own4; decide)).trans H2.out.2.2.2.2, hn.c, hn.j⟩; have HRf : Box _ := ⟨hr⟩; have HNn : Box (d'.n = d.n) := ⟨hn.nn⟩; clear hn hr)
  clear HD a0 a1 a3 H2
  have a1 : w3.cell? ⟨S + 1, 1, none⟩ = some (.int .i64 sl) := H3.out.1.act 1
  have a3 : w3.cell? ⟨S + 1, 3, none⟩ = some (.slice ka kl kc) := H3.out.1.act 3
  have HY : Box (Bytes w3 (some ⟨g, 0, none⟩) B.length B) := ⟨bytes_of_row HFb.out H3.out.2.2.2.1⟩
  go_upto_region 7 with (first
    | (refine wpList_ldD rfl _ rfl S V rfl H3.out.1.b1 HJ.out.2.2 ?_)
    | (refine wpList_run rfl _ _ (exec_conv _ rfl rfl HY.out) ?_)
    | (go_at_call 28; refine (HRf.out w3 _ H3.out.2.1).mono ?_; rintro e w4 ⟨v4, rfl, hv4, hb4⟩; obtain ⟨V4, rfl, hV4, ho4⟩ := rv_of hv4; have H4 : Box (Lc S w4 V (ac kd sl a len cap ka kl kc sh) ∧ Rv w4 (.agg V4.toArray) r' ∧ Fr w w4 ∧ Cm w0 w4 D d' ∧ J (k + 1) d' r') := ⟨stp_on H3.out.1 H3.out.2.2.1 H3.out.2.2.2.2.1 H3.out.2.2.2.2.2 hv4 hb4⟩; have H4b : Box (V4.length = 6 ∧ V4.toArray.all (·.oneCell') = true) := ⟨hV4, ho4⟩; clear hv4 hb4 hV4 ho4)
    | (refine wpList_run rfl _ _ (exec_alloc 31 rfl _ zeroD) ?_)
    | (refine wpList_stN rfl _ _ rfl _ V4 rfl rfl rfl H4b.out.1 H4b.out.2 ?_))
  clear HY
  have H5 : Box (Lc S (w4.alloc (.cells V4.toArray 31)) V (ac kd sl a len cap ka kl kc sh) ∧ Rv (w4.alloc (.cells V4.toArray 31)) (.agg V4.toArray) r' ∧ Fr w (w4.alloc (.cells V4.toArray 31)) ∧ Cm w0 (w4.alloc (.cells V4.toArray 31)) D d' ∧ J (k + 1) d' r') := ⟨stp_new H4.out _⟩
  have H5b : Box ((w4.alloc (.cells V4.toArray 31)).heap[w4.heap.size]? = some (.cells V4.toArray 31 (0, 0))) := ⟨al_at rfl⟩
  generalize w4.alloc (.cells V4.toArray 31) = w5 at *
  generalize w4.heap.size = G at *
  clear a1 a3 HRf H3 H4
  go_wp2_with (first
    | (refine wpList_ldD rfl _ rfl G V4 rfl H5b.out H4b.out.1 ?_)
    | (refine wpList_stG rfl _ _ rfl (S + 1 + 1) V4 rfl rfl H5.out.1.b3 H4b.out.1 H4b.out.2 ?_; intro w6 h6 t6))
  (try simp only [Exit.inBlock, Exit.then])
  refine bodyPost_ret (results_D2 rfl _ _ (S + 1 + 1) V4 rfl H4b.out.1 h6) rfl ?_
  exact ⟨_, rfl, stp_end H5.out HS.out HC.out t6 d HNn.out⟩
set_option maxRecDepth 20000 in
set_option maxHeartbeats 4000000 in
theorem step_r2 (w0 w : World) (D k : Nat) (d : Dk) (r : Rd) (V : List Value) (C : Cm w0 w D d) (hR : Rv w (.agg V.toArray) r) (hV6 : V.length = 6) (hJ : J k d r) (hk : k < 900000) (kd sl : Int) (a : Option Addr) (len cap : Nat) (ka : Option Addr) (kl kc : Nat) (sh : Bool) (X : List Int) (K : List Bool)
    (hX : ∀ x, Below w0.heap.size w0 x → Bytes x a len X) (hK : ∀ x, Below w0.heap.size w0 x → Bools x ka kl K) (hKn : ∀ ad, ka = some ad → 0 < kl → ad.block < w0.heap.size) (hlen : len ≤ maxLen) (hkl : kl ≤ maxLen) (hsl : sl ≤ 9223372036854775807) (e0 : (bits BinOp.and IntKind.i64 kd 7 == 0) = false) (e1 : (bits BinOp.and IntKind.i64 kd 7 == 1) = false) (e2 : (bits BinOp.and IntKind.i64 kd 7 == 2) = true) :
    Calls Try.prog 12 #[.pointer (some ⟨D, 0, none⟩), .agg V.toArray, .agg (ac kd sl a len cap ka kl kc sh).toArray] w fun e w' => ∃ v', e = .returned (.tuple #[v', .bool true]) ∧ Stp w0 w D k d w' v' := by
  have hb0 : Below w.heap.size w (((w.alloc (.cells V.toArray 31)).alloc (.cells (ac kd sl a len cap ka kl kc sh).toArray 39)).alloc (.cells [.int .i64 0, .slice none 0 0, .slice none 0 0, .int .i64 0, .bool false, .slice none 0 0].toArray 31)) := (((Below.refl _ w).alloc (Nat.le_refl _) _).alloc (by simp) _).alloc (by simp; omega) _
  have H : Box (Lc w.heap.size (((w.alloc (.cells V.toArray 31)).alloc (.cells (ac kd sl a len cap ka kl kc sh).toArray 39)).alloc (.cells [.int .i64 0, .slice none 0 0, .slice none 0 0, .int .i64 0, .bool false, .slice none 0 0].toArray 31)) V (ac kd sl a len cap ka kl kc sh) ∧ Cm w0 (((w.alloc (.cells V.toArray 31)).alloc (.cells (ac kd sl a len cap ka kl kc sh).toArray 39)).alloc (.cells [.int .i64 0, .slice none 0 0, .slice none 0 0, .int .i64 0, .bool false, .slice none 0 0].toArray 31)) D d ∧ Rv (((w.alloc (.cells V.toArray 31)).alloc (.cells (ac kd sl a len cap ka kl kc sh).toArray 39)).alloc (.cells [.int .i64 0, .slice none 0 0, .slice none 0 0, .int .i64 0, .bool false, .slice none 0 0].toArray 31)) (.agg V.toArray) r ∧ Fr w (((w.alloc (.cells V.toArray 31)).alloc (.cells (ac kd sl a len cap ka kl kc sh).toArray 39)).alloc (.cells [.int .i64 0, .slice none 0 0, .slice none 0 0, .int .i64 0, .bool false, .slice none 0 0].toArray 31))) := ⟨Lc.start w _ _ _ rfl, C.step hb0, hR.below hb0, Fr.below hb0⟩
  have HJ : Box (J k d r ∧ k < 900000 ∧ V.length = 6) := ⟨hJ, hk, hV6⟩
  have HX : Box (∀ x, Below w0.heap.size w0 x → Bytes x a len X) := ⟨hX⟩
  have HK : Box ((∀ x, Below w0.heap.size w0 x → Bools x ka kl K) ∧ (∀ ad, ka = some ad → 0 < kl → ad.block < w0.heap.size) ∧ kl ≤ maxLen ∧ sl ≤ 9223372036854775807) := ⟨hK, hKn, hkl, hsl⟩
  have HC : Box (w0.heap.size ≤ w.heap.size) := ⟨by obtain ⟨fp, c⟩ := C; exact c.bel.size⟩
  have HLe : Box (len ≤ maxLen) := ⟨hlen⟩
  have HBy : Box (Byt X) := ⟨by obtain ⟨fp, c⟩ := C; exact (hX w c.bel).2.1⟩
  obtain ⟨S, HS⟩ : ∃ S, Box (w.heap.size = S) := ⟨_, ⟨rfl⟩⟩
  clear C hR hJ hk hX hK hKn hlen hkl hb0 hsl hV6
  go_enter Try.func12, Try.ntmps12
  go_upto_region 1 with fail
  rw [HS.out] at H HC ⊢
  generalize ((w.alloc (.cells V.toArray 31)).alloc (.cells (ac kd sl a len cap ka kl kc sh).toArray 39)).alloc (.cells [.int .i64 0, .slice none 0 0, .slice none 0 0, .int .i64 0, .bool false, .slice none 0 0].toArray 31) = w1 at H ⊢
  have HF : Box (Calls Try.prog 22 #[.agg (ac kd sl a len cap ka kl kc sh).toArray] w1 fun e w' => ∃ g, e = .returned (.slice (some ⟨g, 0, none⟩) (fln sh) (fln sh)) ∧ w1.heap.size ≤ g ∧ w'.heap[g]? = some (.cells (u8s (fullB (fln sh) X)) 5 (0, 0)) ∧ Below w1.heap.size w1 w') := ⟨full_any w1 kd sl a len cap (.slice ka kl kc) rfl sh X (by obtain ⟨fp, c⟩ := H.out.2.1; exact HX.out _ c.bel) HLe.out⟩
  go_upto_region 2 with (first
    | (refine wpList_ldA rfl _ rfl (S + 1) (ac kd sl a len cap ka kl kc sh) rfl H.out.1.b2 rfl ?_)
    | (go_at_call 22; refine HF.out.mono ?_; rintro e w2 ⟨g, rfl, hg, hrow, hb⟩; have H2 : Box (Lc S w2 V (ac kd sl a len cap ka kl kc sh) ∧ Cm w0 w2 D d ∧ Rv w2 (.agg V.toArray) r ∧ Fr w w2 ∧ w2.heap[g]? = some (.cells (u8s (fullB (fln sh) X)) 5 (0, 0))) := ⟨H.out.1.fr (Fr.below hb), H.out.2.1.step hb, H.out.2.2.1.below hb, H.out.2.2.2.trans (Fr.below hb), hrow⟩; clear hg hrow hb))
  clear HF H HLe HX
  obtain ⟨B, hBe⟩ : ∃ B, fullB (fln sh) X = B := ⟨_, rfl⟩
  have hBl : fln sh = B.length := by rw [← hBe, length_fullB]
  have HFb : Box (Byt B) := ⟨by rw [← hBe]; exact byt_fullB _ _ HBy.out⟩
  rw [hBe] at H2
  rw [hBl]
  clear hBe hBl
  have a0 : w2.cell? ⟨S + 1, 0, none⟩ = some (.int .i64 kd) := H2.out.1.act 0
  have a1 : w2.cell? ⟨S + 1, 1, none⟩ = some (.int .i64 sl) := H2.out.1.act 1
  have a3 : w2.cell? ⟨S + 1, 3, none⟩ = some (.slice ka kl kc) := H2.out.1.act 3
  go_upto_region 3 with fail
  generalize bits BinOp.and IntKind.i64 kd 7 = m at e0 e1 e2 ⊢
  go_upto_region 9 with fail
  have HD : Box _ := ⟨both_read H2.out.2.1 HJ.out.1 HJ.out.2.1 sl⟩
  go_upto_region 10 with (go_at_call 21; refine HD.out.mono ?_; rintro e w3 ⟨ra, rl, rcp, X3, x, d', r', rfl, hby, hn, hr⟩; have H3 : Box (Lc S w3 V (ac kd sl a len cap ka kl kc sh) ∧ Rv w3 (.agg V.toArray) r ∧ Fr w w3 ∧ w3.heap[g]? = some (.cells (u8s B) 5 (0, 0)) ∧ Cm w0 w3 D d' ∧ J (k + 1) d' r') := ⟨H2.out.1.fr hn.f, H2.out.2.2.1.fr hn.f, H2.out.2.2.2.1.trans hn.f, (hn.f.2 _ _ _ _ H2.out.2.2.2.2 (by unfold Own4; decide)).trans H2.out.2.2.2.2, hn.c, hn.j⟩; have HRf : Box _ := ⟨hr⟩; have HNn : Box (d'.n = d.n) := ⟨hn.nn⟩; have HY : Box (Bytes w3 ra rl X3) := ⟨hby⟩; clear hn hr hby)
  clear HD a0 a1 a3 H2
  have a1 : w3.cell? ⟨S + 1, 1, none⟩ = some (.int .i64 sl) := H3.out.1.act 1
  have a3 : w3.cell? ⟨S + 1, 3, none⟩ = some (.slice ka kl kc) := H3.out.1.act 3
  go_upto_region 11 with (first
    | (refine wpList_ldD rfl _ rfl S V rfl H3.out.1.b1 HJ.out.2.2 ?_)
    | (go_at_call 29; refine (HRf.out w3 _ H3.out.2.1).mono ?_; rintro e w4 ⟨v4, rfl, hv4, hb4⟩; obtain ⟨V4, rfl, hV4, ho4⟩ := rv_of hv4; have H4 : Box (Lc S w4 V (ac kd sl a len cap ka kl kc sh) ∧ Rv w4 (.agg V4.toArray) r' ∧ Fr w w4 ∧ Cm w0 w4 D d' ∧ J (k + 1) d' r') := ⟨stp_on H3.out.1 H3.out.2.2.1 H3.out.2.2.2.2.1 H3.out.2.2.2.2.2 hv4 hb4⟩; have H4b : Box (V4.length = 6 ∧ V4.toArray.all (·.oneCell') = true) := ⟨hV4, ho4⟩; have HY4 : Box (Bytes w4 ra rl X3) := ⟨HY.out.below hb4⟩; clear hv4 hb4 hV4 ho4)
    | (refine wpList_run rfl _ _ (exec_alloc 31 rfl _ zeroD) ?_)
    | (refine wpList_stN rfl _ _ rfl _ V4 rfl rfl rfl H4b.out.1 H4b.out.2 ?_))
  have H5 : Box (Lc S (w4.alloc (.cells V4.toArray 31)) V (ac kd sl a len cap ka kl kc sh) ∧ Rv (w4.alloc (.cells V4.toArray 31)) (.agg V4.toArray) r' ∧ Fr w (w4.alloc (.cells V4.toArray 31)) ∧ Cm w0 (w4.alloc (.cells V4.toArray 31)) D d' ∧ J (k + 1) d' r') := ⟨stp_new H4.out _⟩
  have H5b : Box ((w4.alloc (.cells V4.toArray 31)).heap[w4.heap.size]? = some (.cells V4.toArray 31 (0, 0))) := ⟨al_at rfl⟩
  have HY5 : Box (Bytes (w4.alloc (.cells V4.toArray 31)) ra rl X3) := ⟨HY4.out.below ((Below.refl _ _).alloc (Nat.le_refl _) _)⟩
  generalize w4.alloc (.cells V4.toArray 31) = w5 at *
  generalize w4.heap.size = G at *
  clear a1 a3 HRf H3 H4
  go_wp2_with (first
    | (refine wpList_ldD rfl _ rfl G V4 rfl H5b.out H4b.out.1 ?_)
    | (refine wpList_run rfl _ _ (exec_conv _ rfl rfl HY5.out) ?_)
    | (refine wpList_stG rfl _ _ rfl (S + 1 + 1) V4 rfl rfl H5.out.1.b3 H4b.out.1 H4b.out.2 ?_; intro w6 h6 t6))
  (try simp only [Exit.inBlock, Exit.then])
  refine bodyPost_ret (results_D2 rfl _ _ (S + 1 + 1) V4 rfl H4b.out.1 h6) rfl ?_
  exact ⟨_, rfl, stp_end H5.out HS.out HC.out t6 d HNn.out⟩
set_option maxRecDepth 20000 in
set_option maxHeartbeats 4000000 in
theorem step_f3 (w0 w : World) (D k : Nat) (d : Dk) (r : Rd) (V : List Value) (C : Cm w0 w D d) (hR : Rv w (.agg V.toArray) r) (hV6 : V.length = 6) (hJ : J k d r) (hk : k < 900000) (kd sl : Int) (a : Option Addr) (len cap : Nat) (ka : Option Addr) (kl kc : Nat) (sh : Bool) (X : List Int) (K : List Bool)
    (hX : ∀ x, Below w0.heap.size w0 x → Bytes x a len X) (hK : ∀ x, Below w0.heap.size w0 x → Bools x ka kl K) (hKn : ∀ ad, ka = some ad → 0 < kl → ad.block < w0.heap.size) (hlen : len ≤ maxLen) (hkl : kl ≤ maxLen) (hsl : sl ≤ 9223372036854775807) (e0 : (bits BinOp.and IntKind.i64 kd 7 == 0) = false) (e1 : (bits BinOp.and IntKind.i64 kd 7 == 1) = false) (e2 : (bits BinOp.and IntKind.i64 kd 7 == 2) = false) (e3 : (bits BinOp.and IntKind.i64 kd 7 == 3) = true) :
    Calls Try.prog 12 #[.pointer (some ⟨D, 0, none⟩), .agg V.toArray, .agg (ac kd sl a len cap ka kl kc sh).toArray] w fun e w' => ∃ v', e = .returned (.tuple #[v', .bool true]) ∧ Stp w0 w D k d w' v' := by
  have hb0 : Below w.heap.size w (((w.alloc (.cells V.toArray 31)).alloc (.cells (ac kd sl a len cap ka kl kc sh).toArray 39)).alloc (.cells [.int .i64 0, .slice none 0 0, .slice none 0 0, .int .i64 0, .bool false, .slice none 0 0].toArray 31)) := (((Below.refl _ w).alloc (Nat.le_refl _) _).alloc (by simp) _).alloc (by simp; omega) _
  have H : Box (Lc w.heap.size (((w.alloc (.cells V.toArray 31)).alloc (.cells (ac kd sl a len cap ka kl kc sh).toArray 39)).alloc (.cells [.int .i64 0, .slice none 0 0, .slice none 0 0, .int .i64 0, .bool false, .slice none 0 0].toArray 31)) V (ac kd sl a len cap ka kl kc sh) ∧ Cm w0 (((w.alloc (.cells V.toArray 31)).alloc (.cells (ac kd sl a len cap ka kl kc sh).toArray 39)).alloc (.cells [.int .i64 0, .slice none 0 0, .slice none 0 0, .int .i64 0, .bool false, .slice none 0 0].toArray 31)) D d ∧ Rv (((w.alloc (.cells V.toArray 31)).alloc (.cells (ac kd sl a len cap ka kl kc sh).toArray 39)).alloc (.cells [.int .i64 0, .slice none 0 0, .slice none 0 0, .int .i64 0, .bool false, .slice none 0 0].toArray 31)) (.agg V.toArray) r ∧ Fr w (((w.alloc (.cells V.toArray 31)).alloc (.cells (ac kd sl a len cap ka kl kc sh).toArray 39)).alloc (.cells [.int .i64 0, .slice none 0 0, .slice none 0 0, .int .i64 0, .bool false, .slice none 0 0].toArray 31))) := ⟨Lc.start w _ _ _ rfl, C.step hb0, hR.below hb0, Fr.below hb0⟩
  have HJ : Box (J k d r ∧ k < 900000 ∧ V.length = 6) := ⟨hJ, hk, hV6⟩
  have HX : Box (∀ x, Below w0.heap.size w0 x → Bytes x a len X) := ⟨hX⟩
  have HK : Box ((∀ x, Below w0.heap.size w0 x → Bools x ka kl K) ∧ (∀ ad, ka = some ad → 0 < kl → ad.block < w0.heap.size) ∧ kl ≤ maxLen ∧ sl ≤ 9223372036854775807) := ⟨hK, hKn, hkl, hsl⟩
  have HC : Box (w0.heap.size ≤ w.heap.size) := ⟨by obtain ⟨fp, c⟩ := C; exact c.bel.size⟩
  have HLe : Box (len ≤ maxLen) := ⟨hlen⟩
  have HBy : Box (Byt X) := ⟨by obtain ⟨fp, c⟩ := C; exact (hX w c.bel).2.1⟩
  obtain ⟨S, HS⟩ : ∃ S, Box (w.heap.size = S) := ⟨_, ⟨rfl⟩⟩
  clear C hR hJ hk hX hK hKn hlen hkl hb0 hsl hV6
  go_enter Try.func12, Try.ntmps12
  go_upto_region 1 with fail
  rw [HS.out] at H HC ⊢
  generalize ((w.alloc (.cells V.toArray 31)).alloc (.cells (ac kd sl a len cap ka kl kc sh).toArray 39)).alloc (.cells [.int .i64 0, .slice none 0 0, .slice none 0 0, .int .i64 0, .bool false, .slice none 0 0].toArray 31) = w1 at H ⊢
  have HF : Box (Calls Try.prog 22 #[.agg (ac kd sl a len cap ka kl kc sh).toArray] w1 fun e w' => ∃ g, e = .returned (.slice (some ⟨g, 0, none⟩) (fln sh) (fln sh)) ∧ w1.heap.size ≤ g ∧ w'.heap[g]? = some (.cells (u8s (fullB (fln sh) X)) 5 (0, 0)) ∧ Below w1.heap.size w1 w') := ⟨full_any w1 kd sl a len cap (.slice ka kl kc) rfl sh X (by obtain ⟨fp, c⟩ := H.out.2.1; exact HX.out _ c.bel) HLe.out⟩
  go_upto_region 2 with (first
    | (refine wpList_ldA rfl _ rfl (S + 1) (ac kd sl a len cap ka kl kc sh) rfl H.out.1.b2 rfl ?_)
    | (go_at_call 22; refine HF.out.mono ?_; rintro e w2 ⟨g, rfl, hg, hrow, hb⟩; have H2 : Box (Lc S w2 V (ac kd sl a len cap ka kl kc sh) ∧ Cm w0 w2 D d ∧ Rv w2 (.agg V.toArray) r ∧ Fr w w2 ∧ w2.heap[g]? = some (.cells (u8s (fullB (fln sh) X)) 5 (0, 0))) := ⟨H.out.1.fr (Fr.below hb), H.out.2.1.step hb, H.out.2.2.1.below hb, H.out.2.2.2.trans (Fr.below hb), hrow⟩; clear hg hrow hb))
  clear HF H HLe HX
  obtain ⟨B, hBe⟩ : ∃ B, fullB (fln sh) X = B := ⟨_, rfl⟩
  have hBl : fln sh = B.length := by rw [← hBe, length_fullB]
  have HFb : Box (Byt B) := ⟨by rw [← hBe]; exact byt_fullB _ _ HBy.out⟩
  rw [hBe] at H2
  rw [hBl]
  clear hBe hBl
  have a0 : w2.cell? ⟨S + 1, 0, none⟩ = some (.int .i64 kd) := H2.out.1.act 0
  have a1 : w2.cell? ⟨S + 1, 1, none⟩ = some (.int .i64 sl) := H2.out.1.act 1
  have a3 : w2.cell? ⟨S + 1, 3, none⟩ = some (.slice ka kl kc) := H2.out.1.act 3
  go_upto_region 3 with fail
  generalize bits BinOp.and IntKind.i64 kd 7 = m at e0 e1 e2 e3 ⊢
  go_upto_region 13 with fail
  have HD : Box _ := ⟨both_flush H2.out.2.1 HJ.out.1 HJ.out.2.1⟩
  go_upto_region 14 with (go_at_call 19; refine HD.out.mono ?_; rintro e w3 ⟨x, d', r', rfl, hn, hr⟩; have H3 : Box (Lc S w3 V (ac kd sl a len cap ka kl kc sh) ∧ Rv w3 (.agg V.toArray) r ∧ Fr w w3 ∧ w3.heap[g]? = some (.cells (u8s B) 5 (0, 0)) ∧ Cm w0 w3 D d' ∧ J (k + 1) d' r') := ⟨H2.out.1.fr hn.f, H2.out.2.2.1.fr hn.f, H2.out.2.2.2.1.trans hn.f, (hn.f.2 _ _ _ _ H2.out.2.2.2.2 (by unfold Own4; decide)).trans H2.out.2.2.2.2, hn.c, hn.j⟩; have HRf : Box _ := ⟨hr⟩; have HNn : Box (d'.n = d.n) := ⟨hn.nn⟩; clear hn hr)
  clear HD a0 a1 a3 H2
  have a1 : w3.cell? ⟨S + 1, 1, none⟩ = some (.int .i64 sl) := H3.out.1.act 1
  have a3 : w3.cell? ⟨S + 1, 3, none⟩ = some (.slice ka kl kc) := H3.out.1.act 3
  go_upto_region 15 with (first
    | (refine wpList_ldD rfl _ rfl S V rfl H3.out.1.b1 HJ.out.2.2 ?_)
    | (go_at_call 30; refine (HRf.out w3 _ H3.out.2.1).mono ?_; rintro e w4 ⟨v4, rfl, hv4, hb4⟩; obtain ⟨V4, rfl, hV4, ho4⟩ := rv_of hv4; have H4 : Box (Lc S w4 V (ac kd sl a len cap ka kl kc sh) ∧ Rv w4 (.agg V4.toArray) r' ∧ Fr w w4 ∧ Cm w0 w4 D d' ∧ J (k + 1) d' r') := ⟨stp_on H3.out.1 H3.out.2.2.1 H3.out.2.2.2.2.1 H3.out.2.2.2.2.2 hv4 hb4⟩; have H4b : Box (V4.length = 6 ∧ V4.toArray.all (·.oneCell') = true) := ⟨hV4, ho4⟩; clear hv4 hb4 hV4 ho4)
    | (refine wpList_run rfl _ _ (exec_alloc 31 rfl _ zeroD) ?_)
    | (refine wpList_stN rfl _ _ rfl _ V4 rfl rfl rfl H4b.out.1 H4b.out.2 ?_))
  have H5 : Box (Lc S (w4.alloc (.cells V4.toArray 31)) V (ac kd sl a len cap ka kl kc sh) ∧ Rv (w4.alloc (.cells V4.toArray 31)) (.agg V4.toArray) r' ∧ Fr w (w4.alloc (.cells V4.toArray 31)) ∧ Cm w0 (w4.alloc (.cells V4.toArray 31)) D d' ∧ J (k + 1) d' r') := ⟨stp_new H4.out _⟩
  have H5b : Box ((w4.alloc (.cells V4.toArray 31)).heap[w4.heap.size]? = some (.cells V4.toArray 31 (0, 0))) := ⟨al_at rfl⟩
  generalize w4.alloc (.cells V4.toArray 31) = w5 at *
  generalize w4.heap.size = G at *
  clear a1 a3 HRf H3 H4
  go_wp2_with (first
    | (refine wpList_ldD rfl _ rfl G V4 rfl H5b.out H4b.out.1 ?_)
    | (refine wpList_stG rfl _ _ rfl (S + 1 + 1) V4 rfl rfl H5.out.1.b3 H4b.out.1 H4b.out.2 ?_; intro w6 h6 t6))
  (try simp only [Exit.inBlock, Exit.then])
  refine bodyPost_ret (results_D2 rfl _ _ (S + 1 + 1) V4 rfl H4b.out.1 h6) rfl ?_
  exact ⟨_, rfl, stp_end H5.out HS.out HC.out t6 d HNn.out⟩
set_option maxRecDepth 20000 in
set_option maxHeartbeats 4000000 in
theorem step_s4 (w0 w : World) (D k : Nat) (d : Dk) (r : Rd) (V : List Value) (C : Cm w0 w D d) (hR : Rv w (.agg V.toArray) r) (hV6 : V.length = 6) (hJ : J k d r) (hk : k < 900000) (kd sl : Int) (a : Option Addr) (len cap : Nat) (ka : Option Addr) (kl kc : Nat) (sh : Bool) (X : List Int) (K : List Bool)
    (hX : ∀ x, Below w0.heap.size w0 x → Bytes x a len X) (hK : ∀ x, Below w0.heap.size w0 x → Bools x ka kl K) (hKn : ∀ ad, ka = some ad → 0 < kl → ad.block < w0.heap.size) (hlen : len ≤ maxLen) (hkl : kl ≤ maxLen) (hsl : sl ≤ 9223372036854775807) (e0 : (bits BinOp.and IntKind.i64 kd 7 == 0) = false) (e1 : (bits BinOp.and IntKind.i64 kd 7 == 1) = false) (e2 : (bits BinOp.and IntKind.i64 kd 7 == 2) = false) (e3 : (bits BinOp.and IntKind.i64 kd 7 == 3) = false) (e4 : (bits BinOp.and IntKind.i64 kd 7 == 4) = true) :
    Calls Try.prog 12 #[.pointer (some ⟨D, 0, none⟩), .agg V.toArray, .agg (ac kd sl a len cap ka kl kc sh).toArray] w fun e w' => ∃ v', e = .returned (.tuple #[v', .bool true]) ∧ Stp w0 w D k d w' v' := by
  have hb0 : Below w.heap.size w (((w.alloc (.cells V.toArray 31)).alloc (.cells (ac kd sl a len cap ka kl kc sh).toArray 39)).alloc (.cells [.int .i64 0, .slice none 0 0, .slice none 0 0, .int .i64 0, .bool false, .slice none 0 0].toArray 31)) := (((Below.refl _ w).alloc (Nat.le_refl _) _).alloc (by simp) _).alloc (by simp; omega) _
  have H : Box (Lc w.heap.size (((w.alloc (.cells V.toArray 31)).alloc (.cells (ac kd sl a len cap ka kl kc sh).toArray 39)).alloc (.cells [.int .i64 0, .slice none 0 0, .slice none 0 0, .int .i64 0, .bool false, .slice none 0 0].toArray 31)) V (ac kd sl a len cap ka kl kc sh) ∧ Cm w0 (((w.alloc (.cells V.toArray 31)).alloc (.cells (ac kd sl a len cap ka kl kc sh).toArray 39)).alloc (.cells [.int .i64 0, .slice none 0 0, .slice none 0 0, .int .i64 0, .bool false, .slice none 0 0].toArray 31)) D d ∧ Rv (((w.alloc (.cells V.toArray 31)).alloc (.cells (ac kd sl a len cap ka kl kc sh).toArray 39)).alloc (.cells [.int .i64 0, .slice none 0 0, .slice none 0 0, .int .i64 0, .bool false, .slice none 0 0].toArray 31)) (.agg V.toArray) r ∧ Fr w (((w.alloc (.cells V.toArray 31)).alloc (.cells (ac kd sl a len cap ka kl kc sh).toArray 39)).alloc (.cells [.int .i64 0, .slice none 0 0, .slice none 0 0, .int .i64 0, .bool false, .slice none 0 0].toArray 31))) := ⟨Lc.start w _ _ _ rfl, C.step hb0, hR.below hb0, Fr.below hb0⟩
  have HJ : Box (J k d r ∧ k < 900000 ∧ V.length = 6) := ⟨hJ, hk, hV6⟩
  have HX : Box (∀ x, Below w0.heap.size w0 x → Bytes x a len X) := ⟨hX⟩
  have HK : Box ((∀ x, Below w0.heap.size w0 x → Bools x ka kl K) ∧ (∀ ad, ka = some ad → 0 < kl → ad.block < w0.heap.size) ∧ kl ≤ maxLen ∧ sl ≤ 9223372036854775807) := ⟨hK, hKn, hkl, hsl⟩
  have HC : Box (w0.heap.size ≤ w.heap.size) := ⟨by obtain ⟨fp, c⟩ := C; exact c.bel.size⟩
  have HLe : Box (len ≤ maxLen) := ⟨hlen⟩
  have HBy : Box (Byt X) := ⟨by obtain ⟨fp, c⟩ := C; exact (hX w c.bel).2.1⟩
  obtain ⟨S, HS⟩ : ∃ S, Box (w.heap.size = S) := ⟨_, ⟨rfl⟩⟩
  clear C hR hJ hk hX hK hKn hlen hkl hb0 hsl hV6
  go_enter Try.func12, Try.ntmps12
  go_upto_region 1 with fail
  rw [HS.out] at H HC ⊢
  generalize ((w.alloc (.cells V.toArray 31)).alloc (.cells (ac kd sl a len cap ka kl kc sh).toArray 39)).alloc (.cells [.int .i64 0, .slice none 0 0, .slice none 0 0, .int .i64 0, .bool false, .slice none 0 0].toArray 31) = w1 at H ⊢
  have HF : Box (Calls Try.prog 22 #[.agg (ac kd sl a len cap ka kl kc sh).toArray] w1 fun e w' => ∃ g, e = .returned (.slice (some ⟨g, 0, none⟩) (fln sh) (fln sh)) ∧ w1.heap.size ≤ g ∧ w'.heap[g]? = some (.cells (u8s (fullB (fln sh) X)) 5 (0, 0)) ∧ Below w1.heap.size w1 w') := ⟨full_any w1 kd sl a len cap (.slice ka kl kc) rfl sh X (by obtain ⟨fp, c⟩ := H.out.2.1; exact HX.out _ c.bel) HLe.out⟩
  go_upto_region 2 with (first
    | (refine wpList_ldA rfl _ rfl (S + 1) (ac kd sl a len cap ka kl kc sh) rfl H.out.1.b2 rfl ?_)
    | (go_at_call 22; refine HF.out.mono ?_; rintro e w2 ⟨g, rfl, hg, hrow, hb⟩; have H2 : Box (Lc S w2 V (ac kd sl a len cap ka kl kc sh) ∧ Cm w0 w2 D d ∧ Rv w2 (.agg V.toArray) r ∧ Fr w w2 ∧ w2.heap[g]? = some (.cells (u8s (fullB (fln sh) X)) 5 (0, 0))) := ⟨H.out.1.fr (Fr.below hb), H.out.2.1.step hb, H.out.2.2.1.below hb, H.out.2.2.2.trans (Fr.below hb), hrow⟩; clear hg hrow hb))
  clear HF H HLe HX
  obtain ⟨B, hBe⟩ : ∃ B, fullB (fln sh) X = B := ⟨_, rfl⟩
  have hBl : fln sh = B.length := by rw [← hBe, length_fullB]
  have HFb : Box (Byt B) := ⟨by rw [← hBe]; exact byt_fullB _ _ HBy.out⟩
  rw [hBe] at H2
  rw [hBl]
  clear hBe hBl
  have a0 : w2.cell? ⟨S + 1, 0, none⟩ = some (.int .i64 kd) := H2.out.1.act 0
  have a1 : w2.cell? ⟨S + 1, 1, none⟩ = some (.int .i64 sl) := H2.out.1.act 1
  have a3 : w2.cell? ⟨S + 1, 3, none⟩ = some (.slice ka kl kc) := H2.out.1.act 3
  go_upto_region 3 with fail
  generalize bits BinOp.and IntKind.i64 kd 7 = m at e0 e1 e2 e3 e4 ⊢
  go_upto_region 17 with fail
  have HD : Box _ := ⟨both_stop H2.out.2.1 HJ.out.1 sl HK.out.2.2.2⟩
  go_upto_region 18 with (go_at_call 23; refine HD.out.mono ?_; rintro e w3 ⟨d', r', rfl, hn, hr⟩; have H3 : Box (Lc S w3 V (ac kd sl a len cap ka kl kc sh) ∧ Rv w3 (.agg V.toArray) r ∧ Fr w w3 ∧ w3.heap[g]? = some (.cells (u8s B) 5 (0, 0)) ∧ Cm w0 w3 D d' ∧ J (k + 1) d' r') := ⟨H2.out.1.fr hn.f, H2.out.2.2.1.fr hn.f, H2.out.2.2.2.1.trans hn.f, (hn.f.2 _ _ _ _ H2.out.2.2.2.2 (by unfold Own4; decide)).trans H2.out.2.2.2.2, hn.c, hn.j⟩; have HRf : Box _ := ⟨hr⟩; have HNn : Box (d'.n = d.n) := ⟨hn.nn⟩; clear hn hr)
  clear HD a0 a1 a3 H2
  have a1 : w3.cell? ⟨S + 1, 1, none⟩ = some (.int .i64 sl) := H3.out.1.act 1
  have a3 : w3.cell? ⟨S + 1, 3, none⟩ = some (.slice ka kl kc) := H3.out.1.act 3
  go_wp2_with (first
    | (refine wpList_ldD rfl _ rfl S V rfl H3.out.1.b1 HJ.out.2.2 ?_)
    | (go_at_call 31; refine (HRf.out w3 _ H3.out.2.1).mono ?_; rintro e w4 ⟨v4, rfl, hv4, hb4⟩; obtain ⟨V4, rfl, hV4, ho4⟩ := rv_of hv4; have H4 : Box (Lc S w4 V (ac kd sl a len cap ka kl kc sh) ∧ Rv w4 (.agg V4.toArray) r' ∧ Fr w w4 ∧ Cm w0 w4 D d' ∧ J (k + 1) d' r') := ⟨stp_on H3.out.1 H3.out.2.2.1 H3.out.2.2.2.2.1 H3.out.2.2.2.2.2 hv4 hb4⟩; have H4b : Box (V4.length = 6 ∧ V4.toArray.all (·.oneCell') = true) := ⟨hV4, ho4⟩; clear hv4 hb4 hV4 ho4)
    | (refine wpList_stG rfl _ _ rfl (S + 1 + 1) V4 rfl rfl H4.out.1.b3 H4b.out.1 H4b.out.2 ?_; intro w6 h6 t6))
  (try simp only [Exit.inBlock, Exit.then])
  refine bodyPost_ret (results_D2 rfl _ _ (S + 1 + 1) V4 rfl H4b.out.1 h6) rfl ?_
  exact ⟨_, rfl, stp_end H4.out HS.out HC.out t6 d HNn.out⟩
set_option maxRecDepth 20000 in
set_option maxHeartbeats 4000000 in
theorem step_c5 (w0 w : World) (D k : Nat) (d : Dk) (r : Rd) (V : List Value) (C : Cm w0 w D d) (hR : Rv w (.agg V.toArray) r) (hV6 : V.length = 6) (hJ : J k d r) (hk : k < 900000) (kd sl : Int) (a : Option Addr) (len cap : Nat) (ka : Option Addr) (kl kc : Nat) (sh : Bool) (X : List Int) (K : List Bool)
    (hX : ∀ x, Below w0.heap.size w0 x → Bytes x a len X) (hK : ∀ x, Below w0.heap.size w0 x → Bools x ka kl K) (hKn : ∀ ad, ka = some ad → 0 < kl → ad.block < w0.heap.size) (hlen : len ≤ maxLen) (hkl : kl ≤ maxLen) (hsl : sl ≤ 9223372036854775807) (e0 : (bits BinOp.and IntKind.i64 kd 7 == 0) = false) (e1 : (bits BinOp.and IntKind.i64 kd 7 == 1) = false) (e2 : (bits BinOp.and IntKind.i64 kd 7 == 2) = false) (e3 : (bits BinOp.and IntKind.i64 kd 7 == 3) = false) (e4 : (bits BinOp.and IntKind.i64 kd 7 == 4) = false) (e5 : (bits BinOp.and IntKind.i64 kd 7 == 5) = true) :
    Calls Try.prog 12 #[.pointer (some ⟨D, 0, none⟩), .agg V.toArray, .agg (ac kd sl a len cap ka kl kc sh).toArray] w fun e w' => ∃ v', e = .returned (.tuple #[v', .bool true]) ∧ Stp w0 w D k d w' v' := by
  have hb0 : Below w.heap.size w (((w.alloc (.cells V.toArray 31)).alloc (.cells (ac kd sl a len cap ka kl kc sh).toArray 39)).alloc (.cells [.int .i64 0, .slice none 0 0, .slice none 0 0, .int .i64 0, .bool false, .slice none 0 0].toArray 31)) := (((Below.refl _ w).alloc (Nat.le_refl _) _).alloc (by simp) _).alloc (by simp; omega) _
  have H : Box (Lc w.heap.size (((w.alloc (.cells V.toArray 31)).alloc (.cells (ac kd sl a len cap ka kl kc sh).toArray 39)).alloc (.cells [.int .i64 0, .slice none 0 0, .slice none 0 0, .int .i64 0, .bool false, .slice none 0 0].toArray 31)) V (ac kd sl a len cap ka kl kc sh) ∧ Cm w0 (((w.alloc (.cells V.toArray 31)).alloc (.cells (ac kd sl a len cap ka kl kc sh).toArray 39)).alloc (.cells [.int .i64 0, .slice none 0 0, .slice none 0 0, .int .i64 0, .bool false, .slice none 0 0].toArray 31)) D d ∧ Rv (((w.alloc (.cells V.toArray 31)).alloc (.cells (ac kd sl a len cap ka kl kc sh).toArray 39)).alloc (.cells [.int .i64 0, .slice none 0 0, .slice none 0 0, .int .i64 0, .bool false, .slice none 0 0].toArray 31)) (.agg V.toArray) r ∧ Fr w (((w.alloc (.cells V.toArray 31)).alloc (.cells (ac kd sl a len cap ka kl kc sh).toArray 39)).alloc (.cells [.int .i64 0, .slice none 0 0, .slice none 0 0, .int .i64 0, .bool false, .slice none 0 0].toArray 31))) := ⟨Lc.start w _ _ _ rfl, C.step hb0, hR.below hb0, Fr.below hb0⟩
  have HJ : Box (J k d r ∧ k < 900000 ∧ V.length = 6) := ⟨hJ, hk, hV6⟩
  have HX : Box (∀ x, Below w0.heap.size w0 x → Bytes x a len X) := ⟨hX⟩
  have HK : Box ((∀ x, Below w0.heap.size w0 x → Bools x ka kl K) ∧ (∀ ad, ka = some ad → 0 < kl → ad.block < w0.heap.size) ∧ kl ≤ maxLen ∧ sl ≤ 9223372036854775807) := ⟨hK, hKn, hkl, hsl⟩
  have HC : Box (w0.heap.size ≤ w.heap.size) := ⟨by obtain ⟨fp, c⟩ := C; exact c.bel.size⟩
  have HLe : Box (len ≤ maxLen) := ⟨hlen⟩
  have HBy : Box (Byt X) := ⟨by obtain ⟨fp, c⟩ := C; exact (hX w c.bel).2.1⟩
  obtain ⟨S, HS⟩ : ∃ S, Box (w.heap.size = S) := ⟨_, ⟨rfl⟩⟩
  clear C hR hJ hk hX hK hKn hlen hkl hb0 hsl hV6
  go_enter Try.func12, Try.ntmps12
  go_upto_region 1 with fail
  rw [HS.out] at H HC ⊢
  generalize ((w.alloc (.cells V.toArray 31)).alloc (.cells (ac kd sl a len cap ka kl kc sh).toArray 39)).alloc (.cells [.int .i64 0, .slice none 0 0, .slice none 0 0, .int .i64 0, .bool false, .slice none 0 0].toArray 31) = w1 at H ⊢
  have HF : Box (Calls Try.prog 22 #[.agg (ac kd sl a len cap ka kl kc sh).toArray] w1 fun e w' => ∃ g, e = .returned (.slice (some ⟨g, 0, none⟩) (fln sh) (fln sh)) ∧ w1.heap.size ≤ g ∧ w'.heap[g]? = some (.cells (u8s (fullB (fln sh) X)) 5 (0, 0)) ∧ Below w1.heap.size w1 w') := ⟨full_any w1 kd sl a len cap (.slice ka kl kc) rfl sh X (by obtain ⟨fp, c⟩ := H.out.2.1; exact HX.out _ c.bel) HLe.out⟩
  go_upto_region 2 with (first
    | (refine wpList_ldA rfl _ rfl (S + 1) (ac kd sl a len cap ka kl kc sh) rfl H.out.1.b2 rfl ?_)
    | (go_at_call 22; refine HF.out.mono ?_; rintro e w2 ⟨g, rfl, hg, hrow, hb⟩; have H2 : Box (Lc S w2 V (ac kd sl a len cap ka kl kc sh) ∧ Cm w0 w2 D d ∧ Rv w2 (.agg V.toArray) r ∧ Fr w w2 ∧ w2.heap[g]? = some (.cells (u8s (fullB (fln sh) X)) 5 (0, 0))) := ⟨H.out.1.fr (Fr.below hb), H.out.2.1.step hb, H.out.2.2.1.below hb, H.out.2.2.2.trans (Fr.below hb), hrow⟩; clear hg hrow hb))
  clear HF H HLe HX
  obtain ⟨B, hBe⟩ : ∃ B, fullB (fln sh) X = B := ⟨_, rfl⟩
  have hBl : fln sh = B.length := by rw [← hBe, length_fullB]
  have HFb : Box (Byt B) := ⟨by rw [← hBe]; exact byt_fullB _ _ HBy.out⟩
  rw [hBe] at H2
  rw [hBl]
  clear hBe hBl
  have a0 : w2.cell? ⟨S + 1, 0, none⟩ = some (.int .i64 kd) := H2.out.1.act 0
  have a1 : w2.cell? ⟨S + 1, 1, none⟩ = some (.int .i64 sl) := H2.out.1.act 1
  have a3 : w2.cell? ⟨S + 1, 3, none⟩ = some (.slice ka kl kc) := H2.out.1.act 3
  go_upto_region 3 with fail
  generalize bits BinOp.and IntKind.i64 kd 7 = m at e0 e1 e2 e3 e4 e5 ⊢
  go_upto_region 20 with fail
  have HD : Box _ := ⟨both_crash H2.out.2.1 HJ.out.1 HJ.out.2.1 ka kl kc K HK.out.1 HK.out.2.1 HK.out.2.2.1⟩
  go_upto_region 21 with (go_at_call 20; refine HD.out.mono ?_; rintro e w3 ⟨d', r', rfl, hn, hr⟩; have H3 : Box (Lc S w3 V (ac kd sl a len cap ka kl kc sh) ∧ Rv w3 (.agg V.toArray) r ∧ Fr w w3 ∧ w3.heap[g]? = some (.cells (u8s B) 5 (0, 0)) ∧ Cm w0 w3 D d' ∧ J (k + 1) d' r') := ⟨H2.out.1.fr hn.f, H2.out.2.2.1.fr hn.f, H2.out.2.2.2.1.trans hn.f, (hn.f.2 _ _ _ _ H2.out.2.2.2.2 (by unfold Own4; decide)).trans H2.out.2.2.2.2, hn.c, hn.j⟩; have HRf : Box _ := ⟨hr⟩; have HNn : Box (d'.n = d.n) := ⟨hn.nn⟩; clear hn hr)
  clear HD a0 a1 a3 H2
  have a1 : w3.cell? ⟨S + 1, 1, none⟩ = some (.int .i64 sl) := H3.out.1.act 1
  have a3 : w3.cell? ⟨S + 1, 3, none⟩ = some (.slice ka kl kc) := H3.out.1.act 3
  go_wp2_with (first
    | (refine wpList_ldD rfl _ rfl S V rfl H3.out.1.b1 HJ.out.2.2 ?_)
    | (go_at_call 32; refine (HRf.out w3 _ (by obtain ⟨fp, c⟩ := H3.out.2.2.2.2.1; exact c.bel) H3.out.2.1).mono ?_; rintro e w4 ⟨v4, rfl, hv4, hb4⟩; obtain ⟨V4, rfl, hV4, ho4⟩ := rv_of hv4; have H4 : Box (Lc S w4 V (ac kd sl a len cap ka kl kc sh) ∧ Rv w4 (.agg V4.toArray) r' ∧ Fr w w4 ∧ Cm w0 w4 D d' ∧ J (k + 1) d' r') := ⟨stp_on H3.out.1 H3.out.2.2.1 H3.out.2.2.2.2.1 H3.out.2.2.2.2.2 hv4 hb4⟩; have H4b : Box (V4.length = 6 ∧ V4.toArray.all (·.oneCell') = true) := ⟨hV4, ho4⟩; clear hv4 hb4 hV4 ho4)
    | (refine wpList_stG rfl _ _ rfl (S + 1 + 1) V4 rfl rfl H4.out.1.b3 H4b.out.1 H4b.out.2 ?_; intro w6 h6 t6))
  (try simp only [Exit.inBlock, Exit.then])
  refine bodyPost_ret (results_D2 rfl _ _ (S + 1 + 1) V4 rfl H4b.out.1 h6) rfl ?_
  exact ⟨_, rfl, stp_end H4.out HS.out HC.out t6 d HNn.out⟩
set_option maxRecDepth 20000 in
set_option maxHeartbeats 4000000 in
theorem step_t6 (w0 w : World) (D k : Nat) (d : Dk) (r : Rd) (V : List Value) (C : Cm w0 w D d) (hR : Rv w (.agg V.toArray) r) (hV6 : V.length = 6) (hJ : J k d r) (hk : k < 900000) (kd sl : Int) (a : Option Addr) (len cap : Nat) (ka : Option Addr) (kl kc : Nat) (sh : Bool) (X : List Int) (K : List Bool)
    (hX : ∀ x, Below w0.heap.size w0 x → Bytes x a len X) (hK : ∀ x, Below w0.heap.size w0 x → Bools x ka kl K) (hKn : ∀ ad, ka = some ad → 0 < kl → ad.block < w0.heap.size) (hlen : len ≤ maxLen) (hkl : kl ≤ maxLen) (hsl : sl ≤ 9223372036854775807) (e0 : (bits BinOp.and IntKind.i64 kd 7 == 0) = false) (e1 : (bits BinOp.and IntKind.i64 kd 7 == 1) = false) (e2 : (bits BinOp.and IntKind.i64 kd 7 == 2) = false) (e3 : (bits BinOp.and IntKind.i64 kd 7 == 3) = false) (e4 : (bits BinOp.and IntKind.i64 kd 7 == 4) = false) (e5 : (bits BinOp.and IntKind.i64 kd 7 == 5) = false) (e6 : (bits BinOp.and IntKind.i64 kd 7 == 6) = true) :
    Calls Try.prog 12 #[.pointer (some ⟨D, 0, none⟩), .agg V.toArray, .agg (ac kd sl a len cap ka kl kc sh).toArray] w fun e w' => ∃ v', e = .returned (.tuple #[v', .bool true]) ∧ Stp w0 w D k d w' v' := by
  have hb0 : Below w.heap.size w (((w.alloc (.cells V.toArray 31)).alloc (.cells (ac kd sl a len cap ka kl kc sh).toArray 39)).alloc (.cells [.int .i64 0, .slice none 0 0, .slice none 0 0, .int .i64 0, .bool false, .slice none 0 0].toArray 31)) := (((Below.refl _ w).alloc (Nat.le_refl _) _).alloc (by simp) _).alloc (by simp; omega) _
  have H : Box (Lc w.heap.size (((w.alloc (.cells V.toArray 31)).alloc (.cells (ac kd sl a len cap ka kl kc sh).toArray 39)).alloc (.cells [.int .i64 0, .slice none 0 0, .slice none 0 0, .int .i64 0, .bool false, .slice none 0 0].toArray 31)) V (ac kd sl a len cap ka kl kc sh) ∧ Cm w0 (((w.alloc (.cells V.toArray 31)).alloc (.cells (ac kd sl a len cap ka kl kc sh).toArray 39)).alloc (.cells [.int .i64 0, .slice none 0 0, .slice none 0 0, .int .i64 0, .bool false, .slice none 0 0].toArray 31)) D d ∧ Rv (((w.alloc (.cells V.toArray 31)).alloc (.cells (ac kd sl a len cap ka kl kc sh).toArray 39)).alloc (.cells [.int .i64 0, .slice none 0 0, .slice none 0 0, .int .i64 0, .bool false, .slice none 0 0].toArray 31)) (.agg V.toArray) r ∧ Fr w (((w.alloc (.cells V.toArray 31)).alloc (.cells (ac kd sl a len cap ka kl kc sh).toArray 39)).alloc (.cells [.int .i64 0, .slice none 0 0, .slice none 0 0, .int .i64 0, .bool false, .slice none 0 0].toArray 31))) := ⟨Lc.start w _ _ _ rfl, C.step hb0, hR.below hb0, Fr.below hb0⟩
  have HJ : Box (J k d r ∧ k < 900000 ∧ V.length = 6) := ⟨hJ, hk, hV6⟩
  have HX : Box (∀ x, Below w0.heap.size w0 x → Bytes x a len X) := ⟨hX⟩
  have HK : Box ((∀ x, Below w0.heap.size w0 x → Bools x ka kl K) ∧ (∀ ad, ka = some ad → 0 < kl → ad.block < w0.heap.size) ∧ kl ≤ maxLen ∧ sl ≤ 9223372036854775807) := ⟨hK, hKn, hkl, hsl⟩
  have HC : Box (w0.heap.size ≤ w.heap.size) := ⟨by obtain ⟨fp, c⟩ := C; exact c.bel.size⟩
  have HLe : Box (len ≤ maxLen) := ⟨hlen⟩
  have HBy : Box (Byt X) := ⟨by obtain ⟨fp, c⟩ := C; exact (hX w c.bel).2.1⟩
  obtain ⟨S, HS⟩ : ∃ S, Box (w.heap.size = S) := ⟨_, ⟨rfl⟩⟩
  clear C hR hJ hk hX hK hKn hlen hkl hb0 hsl hV6
  go_enter Try.func12, Try.ntmps12
  go_upto_region 1 with fail
  rw [HS.out] at H HC ⊢
  generalize ((w.alloc (.cells V.toArray 31)).alloc (.cells (ac kd sl a len cap ka kl kc sh).toArray 39)).alloc (.cells [.int .i64 0, .slice none 0 0, .slice none 0 0, .int .i64 0, .bool false, .slice none 0 0].toArray 31) = w1 at H ⊢
  have HF : Box (Calls Try.prog 22 #[.agg (ac kd sl a len cap ka kl kc sh).toArray] w1 fun e w' => ∃ g, e = .returned (.slice (some ⟨g, 0, none⟩) (fln sh) (fln sh)) ∧ w1.heap.size ≤ g ∧ w'.heap[g]? = some (.cells (u8s (fullB (fln sh) X)) 5 (0, 0)) ∧ Below w1.heap.size w1 w') := ⟨full_any w1 kd sl a len cap (.slice ka kl kc) rfl sh X (by obtain ⟨fp, c⟩ := H.out.2.1; exact HX.out _ c.bel) HLe.out⟩
  go_upto_region 2 with (first
    | (refine wpList_ldA rfl _ rfl (S + 1) (ac kd sl a len cap ka kl kc sh) rfl H.out.1.b2 rfl ?_)
    | (go_at_call 22; refine HF.out.mono ?_; rintro e w2 ⟨g, rfl, hg, hrow, hb⟩; have H2 : Box (Lc S w2 V (ac kd sl a len cap ka kl kc sh) ∧ Cm w0 w2 D d ∧ Rv w2 (.agg V.toArray) r ∧ Fr w w2 ∧ w2.heap[g]? = some (.cells (u8s (fullB (fln sh) X)) 5 (0, 0))) := ⟨H.out.1.fr (Fr.below hb), H.out.2.1.step hb, H.out.2.2.1.below hb, H.out.2.2.2.trans (Fr.below hb), hrow⟩; clear hg hrow hb))
  clear HF H HLe HX
  obtain ⟨B, hBe⟩ : ∃ B, fullB (fln sh) X = B := ⟨_, rfl⟩
  have hBl : fln sh = B.length := by rw [← hBe, length_fullB]
  have HFb : Box (Byt B) := ⟨by rw [← hBe]; exact byt_fullB _ _ HBy.out⟩
  rw [hBe] at H2
  rw [hBl]
  clear hBe hBl
  have a0 : w2.cell? ⟨S + 1, 0, none⟩ = some (.int .i64 kd) := H2.out.1.act 0
  have a1 : w2.cell? ⟨S + 1, 1, none⟩ = some (.int .i64 sl) := H2.out.1.act 1
  have a3 : w2.cell? ⟨S + 1, 3, none⟩ = some (.slice ka kl kc) := H2.out.1.act 3
  go_upto_region 3 with fail
  generalize bits BinOp.and IntKind.i64 kd 7 = m at e0 e1 e2 e3 e4 e5 e6 ⊢
  go_upto_region 23 with fail
  have HD : Box _ := ⟨both_tamper H2.out.2.1 HJ.out.1 HJ.out.2.1 sl g B H2.out.2.2.2.2 HFb.out⟩
  go_upto_region 24 with (go_at_call 24; refine HD.out.mono ?_; rintro e w3 ⟨x, d', r', rfl, hn, hr⟩; have H3 : Box (Lc S w3 V (ac kd sl a len cap ka kl kc sh) ∧ Rv w3 (.agg V.toArray) r ∧ Fr w w3 ∧ w3.heap[g]? = some (.cells (u8s B) 5 (0, 0)) ∧ Cm w0 w3 D d' ∧ J (k + 1) d' r') := ⟨H2.out.1.fr hn.f, H2.out.2.2.1.fr hn.f, H2.out.2.2.2.1.trans hn.f, (hn.f.2 _ _ _ _ H2.out.2.2.2.2 (by unfold Own4; decide)).trans H2.out.2.2.2.2, hn.c, hn.j⟩; have HRf : Box _ := ⟨hr⟩; have HNn : Box (d'.n = d.n) := ⟨hn.nn⟩; clear hn hr)
  clear HD a0 a1 a3 H2
  have a1 : w3.cell? ⟨S + 1, 1, none⟩ = some (.int .i64 sl) := H3.out.1.act 1
  have a3 : w3.cell? ⟨S + 1, 3, none⟩ = some (.slice ka kl kc) := H3.out.1.act 3
  have HY : Box (Bytes w3 (some ⟨g, 0, none⟩) B.length B) := ⟨bytes_of_row HFb.out H3.out.2.2.2.1⟩
  go_upto_region 25 with (first
    | (refine wpList_ldD rfl _ rfl S V rfl H3.out.1.b1 HJ.out.2.2 ?_)
    | (refine wpList_run rfl _ _ (exec_conv _ rfl rfl HY.out) ?_)
    | (go_at_call 33; refine (HRf.out w3 _ H3.out.2.1).mono ?_; rintro e w4 ⟨v4, rfl, hv4, hb4⟩; obtain ⟨V4, rfl, hV4, ho4⟩ := rv_of hv4; have H4 : Box (Lc S w4 V (ac kd sl a len cap ka kl kc sh) ∧ Rv w4 (.agg V4.toArray) r' ∧ Fr w w4 ∧ Cm w0 w4 D d' ∧ J (k + 1) d' r') := ⟨stp_on H3.out.1 H3.out.2.2.1 H3.out.2.2.2.2.1 H3.out.2.2.2.2.2 hv4 hb4⟩; have H4b : Box (V4.length = 6 ∧ V4.toArray.all (·.oneCell') = true) := ⟨hV4, ho4⟩; clear hv4 hb4 hV4 ho4)
    | (refine wpList_run rfl _ _ (exec_alloc 31 rfl _ zeroD) ?_)
    | (refine wpList_stN rfl _ _ rfl _ V4 rfl rfl rfl H4b.out.1 H4b.out.2 ?_))
  clear HY
  have H5 : Box (Lc S (w4.alloc (.cells V4.toArray 31)) V (ac kd sl a len cap ka kl kc sh) ∧ Rv (w4.alloc (.cells V4.toArray 31)) (.agg V4.toArray) r' ∧ Fr w (w4.alloc (.cells V4.toArray 31)) ∧ Cm w0 (w4.alloc (.cells V4.toArray 31)) D d' ∧ J (k + 1) d' r') := ⟨stp_new H4.out _⟩
  have H5b : Box ((w4.alloc (.cells V4.toArray 31)).heap[w4.heap.size]? = some (.cells V4.toArray 31 (0, 0))) := ⟨al_at rfl⟩
  generalize w4.alloc (.cells V4.toArray 31) = w5 at *
  generalize w4.heap.size = G at *
  clear a1 a3 HRf H3 H4
  go_wp2_with (first
    | (refine wpList_ldD rfl _ rfl G V4 rfl H5b.out H4b.out.1 ?_)
    | (refine wpList_stG rfl _ _ rfl (S + 1 + 1) V4 rfl rfl H5.out.1.b3 H4b.out.1 H4b.out.2 ?_; intro w6 h6 t6))
  (try simp only [Exit.inBlock, Exit.then])
  refine bodyPost_ret (results_D2 rfl _ _ (S + 1 + 1) V4 rfl H4b.out.1 h6) rfl ?_
  exact ⟨_, rfl, stp_end H5.out HS.out HC.out t6 d HNn.out⟩
set_option maxRecDepth 20000 in
set_option maxHeartbeats 4000000 in
theorem step_r7 (w0 w : World) (D k : Nat) (d : Dk) (r : Rd) (V : List Value) (C : Cm w0 w D d) (hR : Rv w (.agg V.toArray) r) (hV6 : V.length = 6) (hJ : J k d r) (hk : k < 900000) (kd sl : Int) (a : Option Addr) (len cap : Nat) (ka : Option Addr) (kl kc : Nat) (sh : Bool) (X : List Int) (K : List Bool)
    (hX : ∀ x, Below w0.heap.size w0 x → Bytes x a len X) (hK : ∀ x, Below w0.heap.size w0 x → Bools x ka kl K) (hKn : ∀ ad, ka = some ad → 0 < kl → ad.block < w0.heap.size) (hlen : len ≤ maxLen) (hkl : kl ≤ maxLen) (hsl : sl ≤ 9223372036854775807) (e0 : (bits BinOp.and IntKind.i64 kd 7 == 0) = false) (e1 : (bits BinOp.and IntKind.i64 kd 7 == 1) = false) (e2 : (bits BinOp.and IntKind.i64 kd 7 == 2) = false) (e3 : (bits BinOp.and IntKind.i64 kd 7 == 3) = false) (e4 : (bits BinOp.and IntKind.i64 kd 7 == 4) = false) (e5 : (bits BinOp.and IntKind.i64 kd 7 == 5) = false) (e6 : (bits BinOp.and IntKind.i64 kd 7 == 6) = false) :
    Calls Try.prog 12 #[.pointer (some ⟨D, 0, none⟩), .agg V.toArray, .agg (ac kd sl a len cap ka kl kc sh).toArray] w fun e w' => ∃ v', e = .returned (.tuple #[v', .bool true]) ∧ Stp w0 w D k d w' v' := by
  have hb0 : Below w.heap.size w (((w.alloc (.cells V.toArray 31)).alloc (.cells (ac kd sl a len cap ka kl kc sh).toArray 39)).alloc (.cells [.int .i64 0, .slice none 0 0, .slice none 0 0, .int .i64 0, .bool false, .slice none 0 0].toArray 31)) := (((Below.refl _ w).alloc (Nat.le_refl _) _).alloc (by simp) _).alloc (by simp; omega) _
  have H : Box (Lc w.heap.size (((w.alloc (.cells V.toArray 31)).alloc (.cells (ac kd sl a len cap ka kl kc sh).toArray 39)).alloc (.cells [.int .i64 0, .slice none 0 0, .slice none 0 0, .int .i64 0, .bool false, .slice none 0 0].toArray 31)) V (ac kd sl a len cap ka kl kc sh) ∧ Cm w0 (((w.alloc (.cells V.toArray 31)).alloc (.cells (ac kd sl a len cap ka kl kc sh).toArray 39)).alloc (.cells [.int .i64 0, .slice none 0 0, .slice none 0 0, .int .i64 0, .bool false, .slice none 0 0].toArray 31)) D d ∧ Rv (((w.alloc (.cells V.toArray 31)).alloc (.cells (ac kd sl a len cap ka kl kc sh).toArray 39)).alloc (.cells [.int .i64 0, .slice none 0 0, .slice none 0 0, .int .i64 0, .bool false, .slice none 0 0].toArray 31)) (.agg V.toArray) r ∧ Fr w (((w.alloc (.cells V.toArray 31)).alloc (.cells (ac kd sl a len cap ka kl kc sh).toArray 39)).alloc (.cells [.int .i64 0, .slice none 0 0, .slice none 0 0, .int .i64 0, .bool false, .slice none 0 0].toArray 31))) := ⟨Lc.start w _ _ _ rfl, C.step hb0, hR.below hb0, Fr.below hb0⟩
  have HJ : Box (J k d r ∧ k < 900000 ∧ V.length = 6) := ⟨hJ, hk, hV6⟩
  have HX : Box (∀ x, Below w0.heap.size w0 x → Bytes x a len X) := ⟨hX⟩
  have HK : Box ((∀ x, Below w0.heap.size w0 x → Bools x ka kl K) ∧ (∀ ad, ka = some ad → 0 < kl → ad.block < w0.heap.size) ∧ kl ≤ maxLen ∧ sl ≤ 9223372036854775807) := ⟨hK, hKn, hkl, hsl⟩
  have HC : Box (w0.heap.size ≤ w.heap.size) := ⟨by obtain ⟨fp, c⟩ := C; exact c.bel.size⟩
  have HLe : Box (len ≤ maxLen) := ⟨hlen⟩
  have HBy : Box (Byt X) := ⟨by obtain ⟨fp, c⟩ := C; exact (hX w c.bel).2.1⟩
  obtain ⟨S, HS⟩ : ∃ S, Box (w.heap.size = S) := ⟨_, ⟨rfl⟩⟩
  clear C hR hJ hk hX hK hKn hlen hkl hb0 hsl hV6
  go_enter Try.func12, Try.ntmps12
  go_upto_region 1 with fail
  rw [HS.out] at H HC ⊢
  generalize ((w.alloc (.cells V.toArray 31)).alloc (.cells (ac kd sl a len cap ka kl kc sh).toArray 39)).alloc (.cells [.int .i64 0, .slice none 0 0, .slice none 0 0, .int .i64 0, .bool false, .slice none 0 0].toArray 31) = w1 at H ⊢
  have HF : Box (Calls Try.prog 22 #[.agg (ac kd sl a len cap ka kl kc sh).toArray] w1 fun e w' => ∃ g, e = .returned (.slice (some ⟨g, 0, none⟩) (fln sh) (fln sh)) ∧ w1.heap.size ≤ g ∧ w'.heap[g]? = some (.cells (u8s (fullB (fln sh) X)) 5 (0, 0)) ∧ Below w1.heap.size w1 w') := ⟨full_any w1 kd sl a len cap (.slice ka kl kc) rfl sh X (by obtain ⟨fp, c⟩ := H.out.2.1; exact HX.out _ c.bel) HLe.out⟩
  go_upto_region 2 with (first
    | (refine wpList_ldA rfl _ rfl (S + 1) (ac kd sl a len cap ka kl kc sh) rfl H.out.1.b2 rfl ?_)
    | (go_at_call 22; refine HF.out.mono ?_; rintro e w2 ⟨g, rfl, hg, hrow, hb⟩; have H2 : Box (Lc S w2 V (ac kd sl a len cap ka kl kc sh) ∧ Cm w0 w2 D d ∧ Rv w2 (.agg V.toArray) r ∧ Fr w w2 ∧ w2.heap[g]? = some (.cells (u8s (fullB (fln sh) X)) 5 (0, 0))) := ⟨H.out.1.fr (Fr.below hb), H.out.2.1.step hb, H.out.2.2.1.below hb, H.out.2.2.2.trans (Fr.below hb), hrow⟩; clear hg hrow hb))
  clear HF H HLe HX
  obtain ⟨B, hBe⟩ : ∃ B, fullB (fln sh) X = B := ⟨_, rfl⟩
  have hBl : fln sh = B.length := by rw [← hBe, length_fullB]
  have HFb : Box (Byt B) := ⟨by rw [← hBe]; exact byt_fullB _ _ HBy.out⟩
  rw [hBe] at H2
  rw [hBl]
  clear hBe hBl
  have a0 : w2.cell? ⟨S + 1, 0, none⟩ = some (.int .i64 kd) := H2.out.1.act 0
  have a1 : w2.cell? ⟨S + 1, 1, none⟩ = some (.int .i64 sl) := H2.out.1.act 1
  have a3 : w2.cell? ⟨S + 1, 3, none⟩ = some (.slice ka kl kc) := H2.out.1.act 3
  go_upto_region 3 with fail
  generalize bits BinOp.and IntKind.i64 kd 7 = m at e0 e1 e2 e3 e4 e5 e6 ⊢
  go_upto_region 26 with fail
  have HD : Box _ := ⟨both_read H2.out.2.1 HJ.out.1 HJ.out.2.1 sl⟩
  go_upto_region 27 with (go_at_call 21; refine HD.out.mono ?_; rintro e w3 ⟨ra, rl, rcp, X3, x, d', r', rfl, hby, hn, hr⟩; have H3 : Box (Lc S w3 V (ac kd sl a len cap ka kl kc sh) ∧ Rv w3 (.agg V.toArray) r ∧ Fr w w3 ∧ w3.heap[g]? = some (.cells (u8s B) 5 (0, 0)) ∧ Cm w0 w3 D d' ∧ J (k + 1) d' r') := ⟨H2.out.1.fr hn.f, H2.out.2.2.1.fr hn.f, H2.out.2.2.2.1.trans hn.f, (hn.f.2 _ _ _ _ H2.out.2.2.2.2 (by unfold Own4; decide)).trans H2.out.2.2.2.2, hn.c, hn.j⟩; have HRf : Box _ := ⟨hr⟩; have HNn : Box (d'.n = d.n) := ⟨hn.nn⟩; have HY : Box (Bytes w3 ra rl X3) := ⟨hby⟩; clear hn hr hby)
  clear HD a0 a1 a3 H2
  have a1 : w3.cell? ⟨S + 1, 1, none⟩ = some (.int .i64 sl) := H3.out.1.act 1
  have a3 : w3.cell? ⟨S + 1, 3, none⟩ = some (.slice ka kl kc) := H3.out.1.act 3
  go_upto_region 28 with (first
    | (refine wpList_ldD rfl _ rfl S V rfl H3.out.1.b1 HJ.out.2.2 ?_)
    | (go_at_call 29; refine (HRf.out w3 _ H3.out.2.1).mono ?_; rintro e w4 ⟨v4, rfl, hv4, hb4⟩; obtain ⟨V4, rfl, hV4, ho4⟩ := rv_of hv4; have H4 : Box (Lc S w4 V (ac kd sl a len cap ka kl kc sh) ∧ Rv w4 (.agg V4.toArray) r' ∧ Fr w w4 ∧ Cm w0 w4 D d' ∧ J (k + 1) d' r') := ⟨stp_on H3.out.1 H3.out.2.2.1 H3.out.2.2.2.2.1 H3.out.2.2.2.2.2 hv4 hb4⟩; have H4b : Box (V4.length = 6 ∧ V4.toArray.all (·.oneCell') = true) := ⟨hV4, ho4⟩; have HY4 : Box (Bytes w4 ra rl X3) := ⟨HY.out.below hb4⟩; clear hv4 hb4 hV4 ho4)
    | (refine wpList_run rfl _ _ (exec_alloc 31 rfl _ zeroD) ?_)
    | (refine wpList_stN rfl _ _ rfl _ V4 rfl rfl rfl H4b.out.1 H4b.out.2 ?_))
  have H5 : Box (Lc S (w4.alloc (.cells V4.toArray 31)) V (ac kd sl a len cap ka kl kc sh) ∧ Rv (w4.alloc (.cells V4.toArray 31)) (.agg V4.toArray) r' ∧ Fr w (w4.alloc (.cells V4.toArray 31)) ∧ Cm w0 (w4.alloc (.cells V4.toArray 31)) D d' ∧ J (k + 1) d' r') := ⟨stp_new H4.out _⟩
  have H5b : Box ((w4.alloc (.cells V4.toArray 31)).heap[w4.heap.size]? = some (.cells V4.toArray 31 (0, 0))) := ⟨al_at rfl⟩
  have HY5 : Box (Bytes (w4.alloc (.cells V4.toArray 31)) ra rl X3) := ⟨HY4.out.below ((Below.refl _ _).alloc (Nat.le_refl _) _)⟩
  generalize w4.alloc (.cells V4.toArray 31) = w5 at *
  generalize w4.heap.size = G at *
  clear a1 a3 HRf H3 H4
  go_wp2_with (first
    | (refine wpList_ldD rfl _ rfl G V4 rfl H5b.out H4b.out.1 ?_)
    | (refine wpList_run rfl _ _ (exec_conv _ rfl rfl HY5.out) ?_)
    | (refine wpList_stG rfl _ _ rfl (S + 1 + 1) V4 rfl rfl H5.out.1.b3 H4b.out.1 H4b.out.2 ?_; intro w6 h6 t6))
  (try simp only [Exit.inBlock, Exit.then])
  refine bodyPost_ret (results_D2 rfl _ _ (S + 1 + 1) V4 rfl H4b.out.1 h6) rfl ?_
  exact ⟨_, rfl, stp_end H5.out HS.out HC.out t6 d HNn.out⟩
theorem step_any (w0 w : World) (D k : Nat) (d : Dk) (r : Rd) (V : List Value) (C : Cm w0 w D d) (hR : Rv w (.agg V.toArray) r) (hV6 : V.length = 6) (hJ : J k d r) (hk : k < 900000) (kd sl : Int) (a : Option Addr) (len cap : Nat) (ka : Option Addr) (kl kc : Nat) (sh : Bool) (X : List Int) (K : List Bool)
    (hX : ∀ x, Below w0.heap.size w0 x → Bytes x a len X) (hK : ∀ x, Below w0.heap.size w0 x → Bools x ka kl K) (hKn : ∀ ad, ka = some ad → 0 < kl → ad.block < w0.heap.size) (hlen : len ≤ maxLen) (hkl : kl ≤ maxLen) (hsl : sl ≤ 9223372036854775807) :
    Calls Try.prog 12 #[.pointer (some ⟨D, 0, none⟩), .agg V.toArray, .agg (ac kd sl a len cap ka kl kc sh).toArray] w fun e w' => ∃ v', e = .returned (.tuple #[v', .bool true]) ∧ Stp w0 w D k d w' v' := by
  cases e0 : (bits BinOp.and IntKind.i64 kd 7 == 0) with
  | true => exact step_w0 w0 w D k d r V C hR hV6 hJ hk kd sl a len cap ka kl kc sh X K hX hK hKn hlen hkl hsl e0
  | false =>
  cases e1 : (bits BinOp.and IntKind.i64 kd 7 == 1) with
  | true => exact step_w1 w0 w D k d r V C hR hV6 hJ hk kd sl a len cap ka kl kc sh X K hX hK hKn hlen hkl hsl e0 e1
  | false =>
  cases e2 : (bits BinOp.and IntKind.i64 kd 7 == 2) with
  | true => exact step_r2 w0 w D k d r V C hR hV6 hJ hk kd sl a len cap ka kl kc sh X K hX hK hKn hlen hkl hsl e0 e1 e2
  | false =>
  cases e3 : (bits BinOp.and IntKind.i64 kd 7 == 3) with
  | true => exact step_f3 w0 w D k d r V C hR hV6 hJ hk kd sl a len cap ka kl kc sh X K hX hK hKn hlen hkl hsl e0 e1 e2 e3
  | false =>
  cases e4 : (bits BinOp.and IntKind.i64 kd 7 == 4) with
  | true => exact step_s4 w0 w D k d r V C hR hV6 hJ hk kd sl a len cap ka kl kc sh X K hX hK hKn hlen hkl hsl e0 e1 e2 e3 e4
  | false =>
  cases e5 : (bits BinOp.and IntKind.i64 kd 7 == 5) with
  | true => exact step_c5 w0 w D k d r V C hR hV6 hJ hk kd sl a len cap ka kl kc sh X K hX hK hKn hlen hkl hsl e0 e1 e2 e3 e4 e5
  | false =>
  cases e6 : (bits BinOp.and IntKind.i64 kd 7 == 6) with
  | true => exact step_t6 w0 w D k d r V C hR hV6 hJ hk kd sl a len cap ka kl kc sh X K hX hK hKn hlen hkl hsl e0 e1 e2 e3 e4 e5 e6
  | false =>
  exact step_r7 w0 w D k d r V C hR hV6 hJ hk kd sl a len cap ka kl kc sh X K hX hK hKn hlen hkl hsl e0 e1 e2 e3 e4 e5 e6
end Go.Proofs.Ytlokhbkjkobmaaa
