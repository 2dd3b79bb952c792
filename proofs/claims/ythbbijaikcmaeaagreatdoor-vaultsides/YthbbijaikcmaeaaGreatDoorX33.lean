/-
  What Update of package vault leaves where its blocks are taken: by folds over the items. And what follows it.
-/
import Derived.Test.YthbbijaikcmaeaaGreatDoorX32
namespace Go.Proofs.YthbbijaikcmaeaaGreatDoor
set_option maxRecDepth 100000
set_option linter.unusedVariables false
set_option maxRecDepth 100000
open Go.RowKit Go.Shelf Plain Go.Proofs.YthbbijaikcmaeaaGreatDoor.Shap.Plain
attribute [local go_sem] Oper.semAt_some
theorem built_R0 : Tryz.prog.built 36 [] = some (ra zr) := by rw [builtR]; rfl
theorem infoZ : (Tryz.prog.info? 36).map (·.size) = some (ra zr).size := by rw [size_ra okR_zr]; exact infoR
theorem bytes_blk {w y : World} {a : Option Addr} {len : Nat} {L : List Int} (h : Bytes w a len L) (hp : 0 < len) (hs : ∀ ad, a = some ad → ad.block < w.heap.size → y.heap[ad.block]? = w.heap[ad.block]?) (hz : w.heap.size ≤ y.heap.size) : Bytes y a len L := by
  refine ⟨h.1, h.2.1, fun hp => ?_⟩
  obtain ⟨b, off, e, hlt, hc⟩ := h.2.2 hp
  exact ⟨b, off, e, Nat.lt_of_lt_of_le hlt hz, fun i hi => (World.cell?_of_block (show y.heap[(⟨b, off + i, none⟩ : Addr).block]? = w.heap[b]? from hs ⟨b, off, none⟩ e hlt)).trans (hc i hi)⟩
structure Itm (n : Nat) (M : List Im) (its : List (Nat × Nat)) (bk : Nat → Option (List Int)) : Prop where
  ok : ∀ p ∈ its, Ok2 n p
  eq : Lib.compact (srt (pths n M)) = itI n its
  len : its.length ≤ 10000
  dln : (dnL n its (topL n)).length ≤ 10000
  leaf : ∀ p ∈ its, p.1 = 0 → ∃ m ∈ M, fB M ((itm n p.1 p.2 : Nat) : Int) = some (.slice m.ba m.bl m.bc) ∧ bk p.2 = some m.bs
  node : ∀ p ∈ its, p.1 ≠ 0 → fB M ((itm n p.1 p.2 : Nat) : Int) = none
structure UpI (w0 x : World) (V D : Nat) (fp : Nat → Prop) (v : Vt) (sa : Option Addr) (sc U bb nb kb base : Nat) (iv : Value) (cnt : Nat) (A : List Int) (fb gn : Int → Option Value) (t : Wst) (W : World) (fp' : Nat → Prop) (gk : Int → Option Value) : Prop where
  vc : VC w0 W V D fp' { v with nx := t.2.1 } t.1 sa sc
  up : Upd W U bb nb kb base iv cnt A fb gn gk
  rel : RelF gk t.2.2.2
  okf : ∀ j, OkR (t.2.2.2 j)
  fw : Fw (fun k => k = kb ∨ k = V) x W fp fp'
theorem tk_zero {n : Nat} {M : List Im} (h : tk n M = 0) : ∀ m ∈ M, m.bl = 160 ∧ m.blk < (n : Int) := by
  unfold tk at h
  split at h
  · cases h
  · split at h
    · cases h
    · rename_i h1 h2
      intro m hm
      simp only [List.any_eq_true, not_exists, not_and, decide_eq_true_eq] at h1 h2
      exact ⟨Classical.byContradiction fun e => h1 m hm e, Int.not_le.1 (h2 m hm)⟩
theorem okF_put {F : Nat → Rf} (h : ∀ j, OkR (F j)) (i : Nat) {r : Rf} (hr : OkR r) : ∀ j, OkR (Fput F i r j) := fun j => by
  unfold Fput
  split
  · exact hr
  · exact h j
theorem step_v {w0 x W : World} {V D : Nat} {fp3 fp' : Nat → Prop} {v : Vt} {sa : Option Addr} {sc U bb nb kb base ig cp : Nat} {M : List Im} {its : List (Nat × Nat)} {bk : Nat → Option (List Int)} {gn gk : Int → Option Value} {G : Nat → List Rf} {t : Wst}
    (hI : UpI w0 x V D fp3 v sa sc U bb nb kb base (.slice (some ⟨ig, 0, none⟩) its.length cp) its.length (itI v.n its) (fB M) gn t W fp' gk) (hit : Itm v.n M its bk) (hG : RelG gn G) (hokG : OkG G)
    (hB : ∀ m ∈ M, Bytes W m.ba 160 m.bs) (hbl : ∀ m ∈ M, m.bl = 160) (hout : ∀ k, k = U ∨ k = bb ∨ k = nb ∨ k = kb ∨ k = ig → ¬ fp' k ∧ k ≠ V) (hkb : w0.heap.size ≤ kb) (hne : bb ≠ kb ∧ nb ≠ kb) (hnx : 1 ≤ t.2.1 ∧ t.2.1 ≤ 9223372036854775806) (k : Nat) (hd : Dlm t.1 k) (hk : k ≤ 20000) (p : Nat × Nat) (hp : p ∈ its) (he : t.2.2.1 = 0) :
    Calls Tryz.prog 30 #[.pointer (some ⟨V, 0, none⟩), .pointer (some ⟨U, 0, none⟩), .int .i64 (itm v.n p.1 p.2 : Nat)] W fun e W' => ∃ fp'' gk', e = .returned (.int .i64 (wrSt v.key v.n bk G t p).2.2.1) ∧ UpI w0 x V D fp3 v sa sc U bb nb kb base (.slice (some ⟨ig, 0, none⟩) its.length cp) its.length (itI v.n its) (fB M) gn (wrSt v.key v.n bk G t p) W' fp'' gk' ∧ Dlm (wrSt v.key v.n bk G t p).1 (k + 1) ∧ (wrSt v.key v.n bk G t p).2.1 = t.2.1 + 1 := by
  have hok := hit.ok p hp
  have hc : ∀ y, Below W.heap.size W y → Calls Tryz.prog 54 #[.pointer (some ⟨V, 0, none⟩), .pointer (some ⟨U, 0, none⟩), .int .i64 (itm v.n p.1 p.2 : Nat)] y fun e x' => ∃ a cap, e = .returned (.slice a 160 cap) ∧ Bytes x' a 160 (cB v.n bk G t.2.2.2 p) ∧ Below y.heap.size y x' := fun y hy => by
    have hUy : Upd y U bb nb kb base (.slice (some ⟨ig, 0, none⟩) its.length cp) its.length (itI v.n its) (fB M) gn gk := hI.up.same (hy.block U (Array.getElem?_eq_some_iff.1 hI.up.un).1) (hy.block bb hI.up.mb.lt) (hy.block nb hI.up.mn.lt) (hy.block kb hI.up.mkn.lt) (fun j hj => hy.block j (hI.up.own.lt j hj).2)
    obtain ⟨l, i⟩ := p
    cases l with
    | zero =>
      obtain ⟨m, hm, h1, h2⟩ := hit.leaf (0, i) hp rfl
      refine (content_leaf V _ hUy _ h1).mono ?_
      rintro e x' ⟨rfl, hb⟩
      refine ⟨m.ba, m.bc, by rw [hbl m hm], ?_, hb⟩
      have e : cB v.n bk G t.2.2.2 (0, i) = m.bs := by simp only [cB]; simp only at h2; rw [h2]; rfl
      rw [e]
      exact (hB m hm).below (below_to hy hb)
    | succ l =>
      refine (content_node (hI.vc.below hy) hUy l i hok.1 hok.2 t.2.2.2 G hI.rel hI.okf hG hokG (hit.node (l + 1, i) hp (by simp))).mono ?_
      rintro e x' ⟨a, cap, rfl, h1, _, _, h2⟩
      exact ⟨a, cap, rfl, h1, h2⟩
  have hds := hd
  obtain ⟨d1, d2, d3⟩ := hds
  refine (write_v hI.vc U bb nb kb base _ _ _ _ gk gn hI.up p.1 p.2 hok.1 hok.2 (t.2.2.2 (itm v.n p.1 p.2)) (hI.okf _) (hI.rel _) (fun j hj => ?_) hkb hne hnx _ hc d1 (by omega) (by omega)).mono ?_
  · rcases hj with h | h | h | h | h
    · exact hout j (.inl h)
    · exact hout j (.inr (.inl h))
    · exact hout j (.inr (.inr (.inl h)))
    · exact hout j (.inr (.inr (.inr (.inl h))))
    · cases h; exact hout ig (.inr (.inr (.inr (.inr rfl))))
  · rintro e W' ⟨fp'', he', hv', hu', hf'⟩
    have hq : Xd.wr t.1 (2 * itm v.n p.1 p.2 + ns (t.2.2.2 (itm v.n p.1 p.2))) ((Yk v.key).sl (2 * itm v.n p.1 p.2 + ns (t.2.2.2 (itm v.n p.1 p.2))) t.2.1 (cB v.n bk G t.2.2.2 p)) = wQ v.key v.n bk G t p := rfl
    have hdl := dlm_wr hd (2 * itm v.n p.1 p.2 + ns (t.2.2.2 (itm v.n p.1 p.2))) ((Yk v.key).sl (2 * itm v.n p.1 p.2 + ns (t.2.2.2 (itm v.n p.1 p.2))) t.2.1 (cB v.n bk G t.2.2.2 p))
    rw [hq] at hdl
    simp only [hq] at he' hv' hu'
    have hns := ns_lt (t.2.2.2 (itm v.n p.1 p.2))
    by_cases h0 : (wQ v.key v.n bk G t p).2 = 0
    · have e1 : wrSt v.key v.n bk G t p = ((wQ v.key v.n bk G t p).1, t.2.1 + 1, 0, Fput t.2.2.2 (itm v.n p.1 p.2) (wR v.key v.n bk G t p)) := by
        unfold wrSt
        rw [if_neg (by simpa using he), if_neg (by simpa using h0)]
      rw [if_pos h0] at hu'
      rw [h0] at he'
      rw [e1]
      refine ⟨fp'', _, he', ⟨hv', hu', relF_put hI.rel _ _, okF_put hI.okf _ ?_, hI.fw.trans hf'⟩, hdl, rfl⟩
      exact ⟨((Yk v.key).hl p.1 _ _).1, ((Yk v.key).hl p.1 _ _).2, by simp only [wR]; omega, by simp only [wR]; omega⟩
    · have e1 : wrSt v.key v.n bk G t p = ((wQ v.key v.n bk G t p).1, t.2.1 + 1, (wQ v.key v.n bk G t p).2, t.2.2.2) := by
        unfold wrSt
        rw [if_neg (by simpa using he), if_pos h0]
      rw [if_neg h0] at hu'
      rw [e1]
      exact ⟨fp'', _, he', ⟨hv', hu', hI.rel, hI.okf, hI.fw.trans hf'⟩, hdl, rfl⟩
end Go.Proofs.YthbbijaikcmaeaaGreatDoor
namespace Go.Proofs.YthbbijaikcmaeaaGreatDoor
set_option maxRecDepth 100000
set_option linter.unusedVariables false
open Go.RowKit Go.Shelf Plain Go.Proofs.YthbbijaikcmaeaaGreatDoor.Shap.Plain
attribute [local go_sem] Oper.semAt_some
set_option maxHeartbeats 8000000 in
theorem update_go {w0 w : World} {V D : Nat} {fp : Nat → Prop} {v : Vt} {d : Disk.Dk} {sa : Option Addr} {sc : Nat} (C : VC w0 w V D fp v d sa sc) (a : Option Addr) (cap : Nat) (M : List Im) (hM : Imgs w a M) (hl : M.length ≤ 1000) (h0 : 0 < M.length) (htk : tk v.n M = 0) (himg : ∀ m ∈ M, ∀ ad, m.ba = some ad → ¬ fp ad.block ∧ ad.block ≠ V) (its : List (Nat × Nat)) (bk : Nat → Option (List Int)) (hit : Itm v.n M its bk) (hnx : 1 ≤ v.nx)
    (hdl : 0 ≤ d.left ∧ d.left ≤ 9223372036854775807) (hop : d.ops.length < 800000) (hup : d.uw.length < 800000) :
    Calls Tryz.prog 11 #[.pointer (some ⟨V, 0, none⟩), .slice a M.length cap] w fun e w' => UpV w0 w V D fp v sa sc (updC v its bk d) e w' := by
  obtain ⟨S, hS⟩ : ∃ S, w.heap.size = S := ⟨_, rfl⟩
  obtain ⟨w1, hw1⟩ : ∃ w1, w.alloc (.cells (ra zr) 36) = w1 := ⟨_, rfl⟩
  have hb1 : Below w.heap.size w w1 := by rw [← hw1]; exact (Below.refl _ _).alloc (Nat.le_refl _) _
  have h1 : w1.heap[S]? = some (.cells (ra zr) 36 (0, 0)) := by rw [← hw1]; exact al_at hS
  have hml : ((M.length : Int) == 0) = false := by
    have h : (M.length : Int) ≠ 0 := by omega
    exact beq_eq_false_iff_ne.2 h
  have hV := C.lt
  have hnfp : ∀ k, w.heap.size ≤ k → ¬ fp k := fun k hk hf => by have := C.cx.hi k hf; omega
  have h0w := C.cx.bel.size
  have hshb := shp_nb C
  have HW1 : Box (Below w.heap.size w w1 ∧ w1.heap[S]? = some (.cells (ra zr) 36 (0, 0))) := ⟨hb1, h1⟩
  have HTK : Box (Calls Tryz.prog 26 #[.pointer (some ⟨V, 0, none⟩), .slice a M.length cap] w1 fun e w' => e = .returned (.int .i64 0) ∧ Below w1.heap.size w1 w') := ⟨by have := takes_v (C.below hb1) a cap M (hM.below hb1) (by omega); rw [htk] at this; exact this⟩
  have HPL : Box (∀ x, Below w.heap.size w x → Calls Tryz.prog 27 #[.pointer (some ⟨V, 0, none⟩), .slice a M.length cap] x fun e w' => ∃ U bb nb kb base g cp, e = .returned (.pointer (some ⟨U, 0, none⟩)) ∧ Below x.heap.size x w' ∧ (x.heap.size ≤ U ∧ x.heap.size ≤ bb ∧ x.heap.size ≤ nb ∧ x.heap.size ≤ kb ∧ x.heap.size ≤ base) ∧ (bb ≠ nb ∧ bb ≠ kb ∧ nb ≠ kb) ∧ Upd w' U bb nb kb base (.slice (some ⟨g, 0, none⟩) its.length cp) its.length (itI v.n its) (fB M) (fun _ => none) (fput (fun _ => none) (itm v.n (topL v.n) 0 : Nat) (.agg (ra v.top)))) := ⟨fun x hx => by
    refine (plan_v (C.below hx) a cap M (hM.below hx) hl h0 (fun m hm => (tk_zero htk m hm).2)).mono ?_
    rintro e w' ⟨U, bb, nb, kb, base, g, cp, he, hb, q1, q2, q3, q4, q5, _, _, _, _, n1, n2, n3, hu⟩
    have hlen : (Lib.compact (srt (pths v.n M))).length = its.length := by rw [hit.eq]; simp [itI]
    rw [hlen, hit.eq] at hu
    exact ⟨U, bb, nb, kb, base, g, cp, he, hb, ⟨q1, q2, q3, q4, q5⟩, ⟨n1, n2, n3⟩, hu⟩⟩
  obtain ⟨s, hs⟩ : ∃ s, gSt v its d = s := ⟨_, rfl⟩
  have hsd := gtM_disk v.key v.n (dnL v.n its (topL v.n)) (d, 0, F0 v.n v.top, fun _ => zn)
  have hsg : gtM v.key v.n (d, 0, F0 v.n v.top, fun _ => zn) (dnL v.n its (topL v.n)) = s := hs
  rw [hsg] at hsd
  have HGA : Box (∀ x1 x2 U bb nb kb base g cp, Below w.heap.size w x1 → Below x1.heap.size x1 x2 → (x1.heap.size ≤ U ∧ x1.heap.size ≤ bb ∧ x1.heap.size ≤ nb ∧ x1.heap.size ≤ kb ∧ x1.heap.size ≤ base) → (bb ≠ nb ∧ bb ≠ kb ∧ nb ≠ kb) → Upd x2 U bb nb kb base (.slice (some ⟨g, 0, none⟩) its.length cp) its.length (itI v.n its) (fB M) (fun _ => none) (fput (fun _ => none) (itm v.n (topL v.n) 0 : Nat) (.agg (ra v.top))) → Calls Tryz.prog 28 #[.pointer (some ⟨V, 0, none⟩), .pointer (some ⟨U, 0, none⟩)] x2 fun e w' => GatV w0 x2 V D fp v sa sc U bb nb kb base (.slice (some ⟨g, 0, none⟩) its.length cp) its.length (itI v.n its) (fB M) s e w') := ⟨fun x1 x2 U bb nb kb base g cp b1 b2 q1 q2 hu => by
    have := gather_v (C.below (below_to b1 b2)) x1.heap.size U bb nb kb base g cp its hit.ok hit.len hit.dln (fB M) _ _ (F0 v.n v.top) (fun _ => zn) hu (relF_0 _ _) (okF_0 _ _ C.ok.top) (fun i => by simp) (fun i => ⟨okN_zn, rfl⟩) (fun k hk => by have := C.cx.hi k hk; have := b1.size; omega) ⟨q1.1, q1.2.1, q1.2.2.1, q1.2.2.2.1, q1.2.2.2.2, by have := b1.size; omega⟩ q2 (by omega) (by omega)
    rw [hsg] at this
    exact this⟩
  have HEND : Box (∀ (kb nb : Nat) (y y' : World) (fp' : Nat → Prop) (v' : Vt) (d' : Disk.Dk), w.heap.size ≤ kb → w.heap.size ≤ nb → VC w0 y V D fp' v' d' sa sc → Fw (fun k => k = V ∨ k = kb ∨ k = nb) w y fp fp' → ¬ fp' S → But S y y' → VC w0 y' V D fp' v' d' sa sc ∧ Fw (fun k => k = V) w y' fp fp') := ⟨fun kb nb y y' fp' v' d' hk1 hk2 hc hf hnS hb => ⟨hc.set S hb hnS (by omega) (fun ad e => by have := hshb ad e; omega) (by omega), (hf.wider (fun k hk h => by rcases h with h | h | h <;> omega)).but hb (by omega)⟩⟩
  have HC : Box (VC w0 w V D fp v d sa sc ∧ Imgs w a M ∧ Itm v.n M its bk ∧ (∀ m ∈ M, ∀ ad, m.ba = some ad → ¬ fp ad.block ∧ ad.block ≠ V) ∧ tk v.n M = 0 ∧ (∀ k, w.heap.size ≤ k → ¬ fp k) ∧ V < w.heap.size ∧ w0.heap.size ≤ w.heap.size) := ⟨C, hM, hit, himg, htk, hnfp, hV, h0w⟩
  have HNX : Box (1 ≤ v.nx ∧ (0 ≤ v.lim ∧ v.lim ≤ 9223372036854775807) ∧ its.length ≤ 10000) := ⟨hnx, C.ok.lim, hit.len⟩
  have HDL : Box (Dlm s.1 0) := ⟨by rw [hsd.2.2.2.2]; exact hdl, by have h1 : s.1.ops.length ≤ d.ops.length + (dnL v.n its (topL v.n)).length := hsd.2.2.1; have := hit.dln; omega, by rw [hsd.1]; show d.uw.length < _; omega⟩
  have HUC : Box (updC v its bk d = if s.2.1 ≠ 0 then (s.1, v.nx, s.2.1, zr) else if wnb v its.length = true then (s.1, v.nx, 15, zr) else if (wrL v.key v.n bk s.2.2.2 (s.1, v.nx, 0, s.2.2.1) its).2.2.1 ≠ 0 then ((wrL v.key v.n bk s.2.2.2 (s.1, v.nx, 0, s.2.2.1) its).1, (wrL v.key v.n bk s.2.2.2 (s.1, v.nx, 0, s.2.2.1) its).2.1, (wrL v.key v.n bk s.2.2.2 (s.1, v.nx, 0, s.2.2.1) its).2.2.1, zr) else ((wrL v.key v.n bk s.2.2.2 (s.1, v.nx, 0, s.2.2.1) its).1, (wrL v.key v.n bk s.2.2.2 (s.1, v.nx, 0, s.2.2.1) its).2.1, 0, (wrL v.key v.n bk s.2.2.2 (s.1, v.nx, 0, s.2.2.1) its).2.2.2 (itm v.n (topL v.n) 0))) := ⟨by unfold updC wSt; rw [hs]⟩
  have hwl : IntKind.u64.wrap (its.length : Int) = (its.length : Int) := by rw [IntKind.wrap_u64]; have := hit.len; omega
  have HN : Box (w.heap.size = S) := ⟨hS⟩
  obtain ⟨U0, hU0⟩ : ∃ q, updC v its bk d = q := ⟨_, rfl⟩
  rw [hU0] at HUC ⊢
  clear hS hb1 h1 C hM hl h0 htk himg hit hnx hdl hop hup hV hnfp h0w hshb hs hsd hsg hU0
  obtain ⟨sd, se, sF, sG⟩ := s
  simp only at HUC HDL
  go_enter Tryz.func11, Tryz.ntmps11
  go_upto_region 1 with (refine atAlloc _ ?_; refine wpList_run rfl _ _ (exec_alloc 36 rfl _ zeroR) ?_)
  simp only [HN.out]
  go_upto_region 10 with (first
    | (go_at_call 26; refine HTK.out.mono ?_; rintro e x1 ⟨rfl, hb⟩; have HX1 : Box (Below w.heap.size w x1 ∧ Below w1.heap.size w1 x1) := ⟨below_to HW1.out.1 hb, hb⟩; clear hb)
    | (go_at_call 27; refine (HPL.out x1 HX1.out.1).mono ?_; rintro e x2 ⟨U, bb, nb, kb, base, ig, cp, rfl, hb, hq1, hq2, hu⟩; have HX2 : Box (Below x1.heap.size x1 x2 ∧ (x1.heap.size ≤ U ∧ x1.heap.size ≤ bb ∧ x1.heap.size ≤ nb ∧ x1.heap.size ≤ kb ∧ x1.heap.size ≤ base) ∧ (bb ≠ nb ∧ bb ≠ kb ∧ nb ≠ kb) ∧ Upd x2 U bb nb kb base (.slice (some ⟨ig, 0, none⟩) its.length cp) its.length (itI v.n its) (fB M) (fun _ => none) (fput (fun _ => none) (itm v.n (topL v.n) 0 : Nat) (.agg (ra v.top)))) := ⟨hb, hq1, hq2, hu⟩; clear hb hq1 hq2 hu)
    | (go_at_call 28; refine (HGA.out x1 x2 U bb nb kb base ig cp HX1.out.1 HX2.out.1 HX2.out.2.1 HX2.out.2.2.1 HX2.out.2.2.2).mono ?_; rintro e x3 ⟨fp3, gk3, gn3, rfl, g1, g2, g3, g4, g5, g6, g7⟩; have H3 : Box (VC w0 x3 V D fp3 v sd sa sc ∧ Upd x3 U bb nb kb base (.slice (some ⟨ig, 0, none⟩) its.length cp) its.length (itI v.n its) (fB M) gn3 gk3 ∧ RelF gk3 sF ∧ (∀ j, OkR (sF j)) ∧ RelG gn3 sG ∧ OkG sG ∧ Fw (fun k => k = kb ∨ k = nb) x2 x3 fp fp3) := ⟨g1, g2, g3, g4, g5, g6, g7⟩; clear g1 g2 g3 g4 g5 g6 g7))
  obtain ⟨b2, q1, q2, hu2⟩ := HX2.out
  have bw1 := HX1.out.1
  have bw2 : Below w.heap.size w x2 := below_to bw1 b2
  have hSN := HN.out
  have hsz1 := HX1.out.2.size
  have hz1 := (Array.getElem?_eq_some_iff.1 HW1.out.2).1
  have hUl2 := (Array.getElem?_eq_some_iff.1 hu2.un).1
  have hil := hu2.own.lt ig rfl
  have HLT : Box (S < x1.heap.size ∧ x1.heap.size ≤ U ∧ x1.heap.size ≤ bb ∧ x1.heap.size ≤ nb ∧ x1.heap.size ≤ kb ∧ x1.heap.size ≤ ig ∧ U < x2.heap.size ∧ bb < x2.heap.size ∧ nb < x2.heap.size ∧ kb < x2.heap.size ∧ ig < x2.heap.size ∧ bb ≠ kb ∧ nb ≠ kb ∧ w.heap.size = S) := ⟨by omega, q1.1, q1.2.1, q1.2.2.1, q1.2.2.2.1, by omega, hUl2, hu2.mb.lt, hu2.mn.lt, hu2.mkn.lt, hil.2, q2.2.1, q2.2.2, hSN⟩
  have hLT := HLT.out
  have hS2 : x2.heap[S]? = some (.cells (ra zr) 36 (0, 0)) := (b2.block S (by omega)).trans ((HX1.out.2.block S hz1).trans HW1.out.2)
  obtain ⟨v3, u3, _, _, _, _, f3⟩ := H3.out
  have hnf3 : ∀ k, S ≤ k → k < x2.heap.size → ¬ fp3 k := fun k h1 h2 => f3.k k h2 (HC.out.2.2.2.2.2.1 k (by omega))
  have HNF3 : Box (∀ k, S ≤ k → k < x2.heap.size → ¬ fp3 k) := ⟨hnf3⟩
  have hS3 : x3.heap[S]? = some (.cells (ra zr) 36 (0, 0)) := (f3.block (by omega) (HC.out.2.2.2.2.2.1 S (by omega)) (by omega)).trans hS2
  have HFW3 : Box (Fw (fun k => k = V ∨ k = kb ∨ k = nb) w x3 fp fp3 ∧ x2.heap.size ≤ x3.heap.size) := ⟨(Fw.below _ fp bw2).trans (f3.wider (fun k _ h => .inr h)), f3.size⟩
  have c30 : x3.cell? ⟨U, 0, none⟩ = some (.slice (some ⟨ig, 0, none⟩) its.length cp) := by rw [cell_of_row _ _ _ _ _ _ u3.un]; rfl
  have HS3 : Box (x3.heap[S]? = some (.cells (ra zr) 36 (0, 0))) := ⟨hS3⟩
  have HWO : Box (Calls Tryz.prog 29 #[.pointer (some ⟨V, 0, none⟩), .int .u64 (its.length : Int)] x3 fun e w' => e = .returned (.bool (wnb v its.length)) ∧ Below x3.heap.size x3 w') := ⟨worn_v v3.rd v3.ok its.length (by have := HNX.out.2.2; omega)⟩
  clear b2 q1 q2 hu2 bw1 bw2 hSN hsz1 hz1 hUl2 hil hS2 v3 u3 f3 hnf3 hS3 hLT HTK HPL HGA
  by_cases hse : se = 0
  · subst hse
    by_cases hwn : wnb v its.length = true
    · have HSX := HS3
      have HQ : Box (U0 = (sd, v.nx, 15, zr)) := ⟨by have := HUC.out; rw [if_neg (by simp), if_pos hwn] at this; exact this⟩
      rw [hwn] at HWO
      clear HUC hwn
      go_wp2_with (first
        | (go_at_call 29; refine HWO.out.mono ?_; rintro e x4 ⟨rfl, hb4⟩; have HB4 : Box (Below x3.heap.size x3 x4) := ⟨hb4⟩; have HSX4 : Box (x4.heap[S]? = some (.cells (ra zr) 36 (0, 0))) := ⟨(hb4.block S (Array.getElem?_eq_some_iff.1 HS3.out).1).trans HS3.out⟩; clear hb4)
        | (refine atBuild _ ?_; refine wpList_run rfl _ _ (exec_built 36 [] rfl [] rfl _ built_R0) ?_)
        | (refine atStore _ ?_; refine wpList_store_row rfl 36 _ _ rfl S (ra zr) rfl rfl 36 (ra zr) HSX4.out infoZ rfl (all_ra zr) ?_))
      refine bodyPost_ret (results_R2 (t := 4) (u := 5) rfl _ _ S zr okR_zr rfl (setRow_heap _ _ _ _ _ _ HSX4.out)) rfl ?_
      have hLT := HLT.out
      have hx1 := HX1.out.1.size
      rw [HQ.out]
      exact ⟨fp3, rfl, HEND.out kb nb x4 _ fp3 v sd (by omega) (by omega) (H3.out.1.below HB4.out) (HFW3.out.1.trans (Fw.below _ fp3 HB4.out)) (HNF3.out S (by omega) (by omega)) (but_setRow _ _ _)⟩
    · have hwn2 : wnb v its.length = false := by simpa using hwn
      have HUQ : Box (U0 = if (wrL v.key v.n bk sG (sd, v.nx, 0, sF) its).2.2.1 ≠ 0 then ((wrL v.key v.n bk sG (sd, v.nx, 0, sF) its).1, (wrL v.key v.n bk sG (sd, v.nx, 0, sF) its).2.1, (wrL v.key v.n bk sG (sd, v.nx, 0, sF) its).2.2.1, zr) else ((wrL v.key v.n bk sG (sd, v.nx, 0, sF) its).1, (wrL v.key v.n bk sG (sd, v.nx, 0, sF) its).2.1, 0, (wrL v.key v.n bk sG (sd, v.nx, 0, sF) its).2.2.2 (itm v.n (topL v.n) 0))) := ⟨by have := HUC.out; rw [if_neg (by simp), if_neg hwn] at this; exact this⟩
      have HNW : Box (v.nx + (its.length : Int) ≤ v.lim) := ⟨by unfold wnb at hwn; simp only [decide_eq_true_eq] at hwn; omega⟩
      rw [hwn2] at HWO
      clear HUC hwn hwn2
      go_wp2_with (first
        | (go_at_call 29; refine HWO.out.mono ?_; rintro e x4 ⟨rfl, hb4⟩; have HB4 : Box (Below x3.heap.size x3 x4) := ⟨hb4⟩; have c40 : x4.cell? ⟨U, 0, none⟩ = some (.slice (some ⟨ig, 0, none⟩) its.length cp) := (hb4.cell (World.block_lt_of_cell? _ _ c30)).trans c30; clear hb4))
      have hLT := HLT.out
      have hx1 := HX1.out.1.size
      have hb4 := HB4.out
      have hx23 := HFW3.out.2
      have hx34 := hb4.size
      have hFW4 : Fw (fun k => k = V ∨ k = kb ∨ k = nb) w x4 fp fp3 := HFW3.out.1.trans (Fw.below _ fp3 hb4)
      have HI0 : Box (UpI w0 x4 V D fp3 v sa sc U bb nb kb base (.slice (some ⟨ig, 0, none⟩) its.length cp) its.length (itI v.n its) (fB M) gn3 (sd, v.nx, 0, sF) x4 fp3 gk3) := ⟨⟨H3.out.1.below hb4, H3.out.2.1.same (hb4.block U (by omega)) (hb4.block bb (by omega)) (hb4.block nb (by omega)) (hb4.block kb (by omega)) (fun j hj => by cases hj; exact hb4.block ig (by omega)), H3.out.2.2.1, H3.out.2.2.2.1, Fw.refl _ _ _⟩⟩
      have HTO : Box (∀ W fp', Fw (fun k => k = kb ∨ k = V) x4 W fp3 fp' → Fw (fun k => k = V ∨ k = kb ∨ k = nb) w W fp fp') := ⟨fun W fp' h => hFW4.trans (h.wider (fun k _ h => h.elim (fun h => .inr (.inl h)) .inl))⟩
      have HOU : Box (∀ W fp', Fw (fun k => k = kb ∨ k = V) x4 W fp3 fp' → ∀ k, k = U ∨ k = bb ∨ k = nb ∨ k = kb ∨ k = ig → ¬ fp' k ∧ k ≠ V) := ⟨fun W fp' h k hk => by
        have hV := HC.out.2.2.2.2.2.2.1
        have hr : S ≤ k ∧ k < x2.heap.size := by rcases hk with h | h | h | h | h <;> subst h <;> omega
        exact ⟨h.k k (by omega) (HNF3.out k hr.1 hr.2), by omega⟩⟩
      have HSW : Box (∀ W fp', Fw (fun k => k = kb ∨ k = V) x4 W fp3 fp' → W.heap[S]? = some (.cells (ra zr) 36 (0, 0)) ∧ ¬ fp' S) := ⟨fun W fp' h => by
        have hV := HC.out.2.2.2.2.2.2.1
        exact ⟨(h.block (by omega) (HNF3.out S (by omega) (by omega)) (by omega)).trans ((hb4.block S (by omega)).trans HS3.out), h.k S (by omega) (HNF3.out S (by omega) (by omega))⟩⟩
      have HIM : Box (∀ W fp', Fw (fun k => k = kb ∨ k = V) x4 W fp3 fp' → ∀ m ∈ M, Bytes W m.ba 160 m.bs) := ⟨fun W fp' h m hm => by
        obtain ⟨hC, hM, hit, himg, htk, _⟩ := HC.out
        have hbl := (tk_zero htk m hm).1
        have hby := (hM.byt m hm).1
        rw [hbl] at hby
        refine bytes_blk hby (by omega) (fun ad e hlt => ?_) (Nat.le_trans hFW4.size h.size)
        obtain ⟨i1, i2⟩ := himg m hm ad e
        exact (h.block (Nat.lt_of_lt_of_le hlt hFW4.size) (hFW4.k _ hlt i1) (by omega)).trans (hFW4.block hlt i1 (by omega))⟩
      have HT0 : Box (wrL v.key v.n bk sG (sd, v.nx, 0, sF) (its.take 0) = (sd, v.nx, 0, sF)) := ⟨by simp [wrL]⟩
      clear hLT hx1 hb4 hx23 hx34 hFW4 HWO
      go_loopw [53] (fun i wr => ∃ k : Nat, k ≤ its.length ∧ i = .int .i64 (k : Int) ∧ Box ((wrL v.key v.n bk sG (sd, v.nx, 0, sF) (its.take k)).2.2.1 = 0 ∧ (∃ fp' gk', UpI w0 x4 V D fp3 v sa sc U bb nb kb base (.slice (some ⟨ig, 0, none⟩) its.length cp) its.length (itI v.n its) (fB M) gn3 (wrL v.key v.n bk sG (sd, v.nx, 0, sF) (its.take k)) wr fp' gk') ∧ Dlm (wrL v.key v.n bk sG (sd, v.nx, 0, sF) (its.take k)).1 k ∧ (wrL v.key v.n bk sG (sd, v.nx, 0, sF) (its.take k)).2.1 = v.nx + (k : Int))) (fun i _ => its.length - (intOf i).toNat)
      case atStart => exact ⟨0, Nat.zero_le _, rfl, ⟨by rw [HT0.out]; exact ⟨rfl, ⟨fp3, gk3, HI0.out⟩, HDL.out, by simp⟩⟩⟩
      case round =>
        obtain ⟨k, hk, rfl, HB⟩ := hrel
        clear c30 c40
        by_cases hlt : k < its.length
        · have hlt1 : decide ((k : Int) < (its.length : Int)) = true := by simp; omega
          obtain ⟨he0, ⟨fp', gk', hI⟩, hdl, hnk⟩ := HB.out
          obtain ⟨t, ht⟩ : ∃ t, (wrL v.key v.n bk sG (sd, v.nx, 0, sF) (its.take k)) = t := ⟨_, rfl⟩
          obtain ⟨p, hp⟩ : ∃ p, its[k] = p := ⟨_, rfl⟩
          have hpm : p ∈ its := by rw [← hp]; exact List.getElem_mem hlt
          obtain ⟨tn, htn⟩ : ∃ tn, wrSt v.key v.n bk sG t p = tn := ⟨_, rfl⟩
          have htk1 : wrL v.key v.n bk sG (sd, v.nx, 0, sF) (its.take (k + 1)) = tn := by rw [List.take_succ_eq_append_getElem hlt, wrL_snoc, ht, hp, htn]
          rw [ht] at he0 hI hdl hnk
          have hnx := HNX.out
          have hnw := HNW.out
          have hlt4 := HLT.out
          have hx1 := HX1.out.1.size
          have hlI : (itI v.n its).length = its.length := by simp [itI]
          obtain ⟨b, o, e, hbl, hc⟩ := (Shap.iown_ints hI.up.own).2 (by omega)
          cases e
          have hck := hc k hlt
          have hgd : (itI v.n its).getD k 0 = ((itm v.n p.1 p.2 : Nat) : Int) := by simp [itI, hlt, hp]
          rw [hgd] at hck
          have hck2 : wr.cell? ⟨ig, k, none⟩ = some (.int .i64 ((itm v.n p.1 p.2 : Nat) : Int)) := by rw [Nat.zero_add] at hck; exact hck
          have hw4 : IntKind.i64.wrap ((k : Int) + 1) = ((k + 1 : Nat) : Int) := by rw [IntKind.wrap_i64]; omega
          have HST : Box (Calls Tryz.prog 30 #[.pointer (some ⟨V, 0, none⟩), .pointer (some ⟨U, 0, none⟩), .int .i64 (itm v.n p.1 p.2 : Nat)] wr fun e W' => ∃ fp'' gk', e = .returned (.int .i64 tn.2.2.1) ∧ UpI w0 x4 V D fp3 v sa sc U bb nb kb base (.slice (some ⟨ig, 0, none⟩) its.length cp) its.length (itI v.n its) (fB M) gn3 tn W' fp'' gk' ∧ Dlm tn.1 (k + 1) ∧ tn.2.1 = t.2.1 + 1) := ⟨by
            have := step_v hI HC.out.2.2.1 H3.out.2.2.2.2.1 H3.out.2.2.2.2.2.1 (HIM.out wr fp' hI.fw) (fun m hm => (tk_zero HC.out.2.2.2.2.1 m hm).1) (HOU.out wr fp' hI.fw) (by have := HC.out.2.2.2.2.2.2.2; omega) ⟨hlt4.2.2.2.2.2.2.2.2.2.2.2.1, hlt4.2.2.2.2.2.2.2.2.2.2.2.2.1⟩ (by omega) k hdl (by omega) p hpm he0
            rw [htn] at this
            exact this⟩
          have HKL : Box (k < its.length ∧ t.2.1 = v.nx + (k : Int) ∧ wrL v.key v.n bk sG (sd, v.nx, 0, sF) (its.take (k + 1)) = tn) := ⟨hlt, hnk, htk1⟩
          clear hI hdl hnk he0 HB ht htn htk1 hp hpm hnx hnw hlt4 hx1 hlI hbl hc hck hgd HI0 HT0
          by_cases hq : tn.2.2.1 = 0
          · rw [hq] at HST
            have HQ0 : Box (tn.2.2.1 = 0) := ⟨hq⟩
            clear hq
            go_wp2_with (first
              | (go_at_call 30; refine HST.out.mono ?_; rintro e W5 ⟨fp5, gk5, rfl, q1, q2, q3⟩; have H5 : Box (UpI w0 x4 V D fp3 v sa sc U bb nb kb base (.slice (some ⟨ig, 0, none⟩) its.length cp) its.length (itI v.n its) (fB M) gn3 tn W5 fp5 gk5 ∧ Dlm tn.1 (k + 1) ∧ tn.2.1 = t.2.1 + 1) := ⟨q1, q2, q3⟩; clear q1 q2 q3))
            go_roundw
            case rel => exact ⟨k + 1, HKL.out.1, rfl, ⟨by rw [HKL.out.2.2]; exact ⟨HQ0.out, ⟨fp5, gk5, H5.out.1⟩, H5.out.2.1, by rw [H5.out.2.2, HKL.out.2.1]; omega⟩⟩⟩
            case measure => simp [intOf]; have := HKL.out.1; omega
          · have hq2 : (tn.2.2.1 == 0) = false := by simpa using hq
            have HQ0 : Box (U0 = (tn.1, tn.2.1, tn.2.2.1, zr)) := ⟨by
              have hall : (wrL v.key v.n bk sG (sd, v.nx, 0, sF) its) = tn := by
                have e : its = its.take (k + 1) ++ its.drop (k + 1) := (List.take_append_drop _ _).symm
                rw [e, wrL_app, HKL.out.2.2]
                exact wrL_err _ _ _ _ _ _ hq
              have := HUQ.out
              rw [hall, if_pos hq] at this
              exact this⟩
            clear hq
            go_wp2_with (first
              | (go_at_call 30; refine HST.out.mono ?_; rintro e W5 ⟨fp5, gk5, rfl, q1, q2, q3⟩; have H5 : Box (UpI w0 x4 V D fp3 v sa sc U bb nb kb base (.slice (some ⟨ig, 0, none⟩) its.length cp) its.length (itI v.n its) (fB M) gn3 tn W5 fp5 gk5 ∧ Dlm tn.1 (k + 1) ∧ tn.2.1 = t.2.1 + 1) := ⟨q1, q2, q3⟩; have HSX5 : Box (W5.heap[S]? = some (.cells (ra zr) 36 (0, 0))) := ⟨(HSW.out W5 fp5 q1.fw).1⟩; clear q1 q2 q3)
              | (refine atBuild _ ?_; refine wpList_run rfl _ _ (exec_built 36 [] rfl [] rfl _ built_R0) ?_)
              | (refine atStore _ ?_; refine wpList_store_row rfl 36 _ _ rfl S (ra zr) rfl rfl 36 (ra zr) HSX5.out infoZ rfl (all_ra zr) ?_))
            refine bodyPost_ret (results_R2 (t := 4) (u := 5) rfl _ _ S zr okR_zr rfl (setRow_heap _ _ _ _ _ _ HSX5.out)) rfl ?_
            have hLT := HLT.out
            have hx1 := HX1.out.1.size
            rw [HQ0.out]
            exact ⟨fp5, rfl, HEND.out kb nb W5 _ fp5 _ _ (by omega) (by omega) H5.out.1.vc (HTO.out W5 fp5 H5.out.1.fw) (HSW.out W5 fp5 H5.out.1.fw).2 (but_setRow _ _ _)⟩
        · obtain rfl : k = its.length := by omega
          have hlt1 : decide ((its.length : Int) < (its.length : Int)) = false := by simp
          obtain ⟨he0, ⟨fp', gkf, hI⟩, hdl, hnk⟩ := HB.out
          obtain ⟨t, ht⟩ : ∃ t, (wrL v.key v.n bk sG (sd, v.nx, 0, sF) its) = t := ⟨_, rfl⟩
          rw [List.take_length, ht] at he0 hI
          obtain ⟨ti, hti⟩ : ∃ ti, itm v.n (topL v.n) 0 = ti := ⟨_, rfl⟩
          obtain ⟨rt, hrt⟩ : ∃ rt, t.2.2.2 ti = rt := ⟨_, rfl⟩
          have HQ0 : Box (U0 = (t.1, t.2.1, 0, rt)) := ⟨by
            have := HUQ.out
            rw [ht, if_neg (by simpa using he0), hti, hrt] at this
            exact this⟩
          have hUw := (Array.getElem?_eq_some_iff.1 hI.up.un).1
          have HRS : Box (∀ x, Below wr.heap.size wr x → x.cell? ⟨U, 3, none⟩ = some (.map (some kb)) ∧ Mp x kb gkf) := ⟨fun x hx => ⟨by rw [cell_of_row _ _ _ _ _ _ ((hx.block U hUw).trans hI.up.un)]; rfl, hI.up.mkn.same (hx.block kb hI.up.mkn.lt)⟩⟩
          have CTI : Box (∀ x, Below wr.heap.size wr x → Calls Tryz.prog 31 #[.pointer (some ⟨V, 0, none⟩)] x fun e w' => e = .returned (.int .i64 (ti : Int)) ∧ Below x.heap.size x w') := ⟨fun x hx => by have h := topItem_v (hI.vc.below hx); rw [← hti]; exact h⟩
          have HLK : Box ((gkf (ti : Int)).getD (.agg (ra zr)) = .agg (ra rt)) := ⟨by rw [← hrt]; exact hI.rel ti⟩
          have HRO : Box (OkR rt) := ⟨by rw [← hrt]; exact hI.okf ti⟩
          have hSw := HSW.out wr fp' hI.fw
          have hSl := (Array.getElem?_eq_some_iff.1 hSw.1).1
          have HSR : Box (∀ x, Below wr.heap.size wr x → x.heap[S]? = some (.cells (ra zr) 36 (0, 0))) := ⟨fun x hx => (hx.block S hSl).trans hSw.1⟩
          have HSZ : Box ((ra rt).size = 33 ∧ (ra zr).size = 33 ∧ (Tryz.prog.info? 36).map (·.size) = some (ra rt).toList.length) := ⟨size_ra HRO.out, size_ra okR_zr, by rw [Array.length_toList, size_ra HRO.out]; exact infoR⟩
          have HFO : Box (∀ x8 y, Below wr.heap.size wr x8 → x8.setCells S 0 (ra rt).toList = y → (y.cell? ⟨U, 3, none⟩ = some (.map (some kb)) ∧ Mp y kb gkf) ∧ y.heap[S]? = some (.cells (ra rt) 36 (0, 0)) ∧ UpV w0 w V D fp v sa sc U0 (.returned (.tuple #[.agg (ra rt), .int .i64 0])) y) := ⟨fun x8 y hx hy => by
            have hLT := HLT.out
            have hx1 := HX1.out.1.size
            have hb : But S x8 y := by rw [← hy]; exact Disk.but_setCells S _ 0 _ _ (But.refl _ _)
            have hzs := HSZ.out
            refine ⟨⟨Disk.but_cell hb (HRS.out x8 hx).1 (by show U ≠ S; omega), (HRS.out x8 hx).2.same (hb.block kb (HRS.out x8 hx).2.lt (by omega))⟩, ?_, ?_⟩
            · rw [← hy, Disk.heap_setCells S _ _ 0 _ _ (HSR.out x8 hx) (by simp only [Array.length_toList]; omega), Disk.splice_all _ _ (by simp only [Array.length_toList]; omega)]
            · rw [HQ0.out]
              exact ⟨fp', rfl, HEND.out kb nb x8 y fp' _ _ (by omega) (by omega) (hI.vc.below hx) ((HTO.out wr fp' hI.fw).trans (Fw.below _ fp' hx)) hSw.2 hb⟩⟩
          clear hI hdl hnk he0 HB ht hti hrt hUw hSw hSl HI0 HT0 HUQ
          go_wp2_with fail
          refine Disk.begin_keep (S := fun x => x.cell? ⟨U, 3, none⟩ = some (.map (some kb)) ∧ Mp x kb gkf) (by kernel_rfl) (fun wd hwd => ?_)
          have hbd : Below wr.heap.size wr wd := by rw [hwd]; exact (Below.refl _ _).drew
          clear hwd
          have hS := HRS.out wd hbd
          refine take_s (i := 0) (v := ?_) rfl (by kernel_rfl) (by kernel_rfl) (by kernel_rfl) (fun _ _ _ h => h) (by rfl) ?_ hS ?_
          rotate_left
          · intro w' hLat; clear hLat; go_simp <;> with_reducible rfl
          try simp only [Act.put, List.setIfInBounds_toArray, List.set_cons_zero, List.set_cons_succ, List.getElem_toArray, List.getElem_cons_zero]
          refine take_s (i := 1) (v := ?_) rfl (by kernel_rfl) (by kernel_rfl) (by kernel_rfl) (fun _ _ _ h => h) (by rfl) ?_ hS ?_
          rotate_left
          · intro w' hLat; clear hLat; go_simp <;> with_reducible rfl
          try simp only [Act.put, List.setIfInBounds_toArray, List.set_cons_zero, List.set_cons_succ, List.getElem_toArray, List.getElem_cons_zero, List.getElem_cons_succ]
          refine take_s (i := 2) (v := ?_) rfl (by kernel_rfl) (by kernel_rfl) (by kernel_rfl) (fun _ _ _ h => h) (by rfl) ?_ hS ?_
          rotate_left
          · intro w' hLat; clear hLat; go_simp <;> with_reducible rfl
          try simp only [Act.put, List.setIfInBounds_toArray, List.set_cons_zero, List.set_cons_succ, List.getElem_toArray, List.getElem_cons_zero, List.getElem_cons_succ]
          refine take_s (i := 3) (v := .map (some kb)) rfl (by kernel_rfl) (by kernel_rfl) (by kernel_rfl) (fun _ _ _ h => h) (by rfl) (fun w' hLat => Disk.exec_load1 88 _ _ rfl Tryz.underlying88 rfl _ rfl _ hLat.1) hS ?_
          try simp only [Act.put, List.setIfInBounds_toArray, List.set_cons_zero, List.set_cons_succ, List.getElem_toArray, List.getElem_cons_zero, List.getElem_cons_succ]
          refine take_s (i := 4) (v := ?_) rfl (by kernel_rfl) (by kernel_rfl) (by kernel_rfl) (fun _ _ _ h => h) (by rfl) ?_ hS ?_
          rotate_left
          · intro w' hLat; clear hLat; go_simp <;> with_reducible rfl
          try simp only [Act.put, List.setIfInBounds_toArray, List.set_cons_zero, List.set_cons_succ, List.getElem_toArray, List.getElem_cons_zero, List.getElem_cons_succ]
          refine Disk.one_keep (i := 5) (by kernel_rfl) ?_
          refine Disk.keep_step rfl (by rfl) ?_
          go_simp
          refine Calls.mono (CTI.out wd hbd) ?_
          rintro e x8 ⟨rfl, hb8⟩
          have hb78 : Below wr.heap.size wr x8 := below_to hbd hb8
          have hS8 := HRS.out x8 hb78
          refine ⟨hS8, ?_⟩
          try simp only [Act.put, List.setIfInBounds_toArray, List.set_cons_zero, List.set_cons_succ, List.getElem_toArray, List.getElem_cons_zero, List.getElem_cons_succ]
          refine take_s (i := 6) (v := .agg (ra rt)) rfl (by kernel_rfl) (by kernel_rfl) (by kernel_rfl) (fun _ _ _ h => h) (by rfl) (fun w' hLat => exec_look1 (.tmp 69) (.tmp 71) rfl Tryz.underlying88 Tryz.underlying3 (.agg (ra zr)) zeroRef kb gkf rfl hLat.2 ti rfl _ HLK.out) hS8 ?_
          try simp only [Act.put, List.setIfInBounds_toArray, List.set_cons_zero, List.set_cons_succ, List.getElem_toArray, List.getElem_cons_zero, List.getElem_cons_succ]
          refine Disk.one_keep (i := 7) (by kernel_rfl) ?_
          refine Disk.keep_step rfl (by rfl) ?_
          refine wp_store_mid 36 (.tmp 4) (.tmp 72) rfl S 0 (ra rt) rfl rfl (there_row (HSR.out x8 hb78) (by have h1 := HSZ.out.1; have h2 := HSZ.out.2.1; omega)) HSZ.out.2.2 (all_ra rt) ?_
          obtain ⟨y, hy⟩ : ∃ y, x8.setCells S 0 (ra rt).toList = y := ⟨_, rfl⟩
          rw [hy]
          have HFY : Box _ := ⟨HFO.out x8 y hb78 hy⟩
          have hSy := HFY.out.1
          refine ⟨hSy, ?_⟩
          try simp only [Act.put, List.getElem_toArray, List.getElem_cons_zero, List.getElem_cons_succ]
          refine take_s (i := 8) (v := ?_) rfl (by kernel_rfl) (by kernel_rfl) (by kernel_rfl) (fun _ _ _ h => h) (by rfl) ?_ hSy ?_
          rotate_left
          · intro w' hLat; clear hLat; go_simp <;> with_reducible rfl
          try simp only [Act.put, List.setIfInBounds_toArray, List.set_cons_zero, List.set_cons_succ, List.getElem_toArray, List.getElem_cons_zero, List.getElem_cons_succ]
          refine wpAnyH_done (by kernel_rfl) ?_ _
          clear hSy hy hS8 hb78 hb8 hbd hS
          go_wp2
          refine bodyPost_ret (results_R2 (t := 4) (u := 5) rfl _ _ S rt HRO.out rfl HFY.out.2.1) rfl ?_
          exact HFY.out.2.2
  · have hse2 : (se == 0) = false := by simpa using hse
    have HQ : Box (U0 = (sd, v.nx, se, zr)) := ⟨by have := HUC.out; rw [if_pos hse] at this; exact this⟩
    clear HUC
    go_wp2_with (first
      | (refine atBuild _ ?_; refine wpList_run rfl _ _ (exec_built 36 [] rfl [] rfl _ built_R0) ?_)
      | (refine atStore _ ?_; refine wpList_store_row rfl 36 _ _ rfl S (ra zr) rfl rfl 36 (ra zr) HS3.out infoZ rfl (all_ra zr) ?_))
    refine bodyPost_ret (results_R2 (t := 4) (u := 5) rfl _ _ S zr okR_zr rfl (setRow_heap _ _ _ _ _ _ HS3.out)) rfl ?_
    have hLT := HLT.out
    have hx1 := HX1.out.1.size
    rw [HQ.out]
    exact ⟨fp3, rfl, HEND.out kb nb x3 _ fp3 v sd (by omega) (by omega) H3.out.1 HFW3.out.1 (HNF3.out S (by omega) (by omega)) (but_setRow _ _ _)⟩
end Go.Proofs.YthbbijaikcmaeaaGreatDoor
