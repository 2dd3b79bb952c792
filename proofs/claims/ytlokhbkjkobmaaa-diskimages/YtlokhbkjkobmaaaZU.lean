/-
  The reference of layer 6: Tamper, Image.
-/
import Derived.Test.YtlokhbkjkobmaaaZT
import Derived.Test.YtlokhbkjkobmaaaZM
namespace Go.Proofs.Ytlokhbkjkobmaaa
set_option linter.unusedVariables false
open Go.RowKit Plain

theorem Bx.grow {S : Nat} {w0 w w' : World} {V : List Value} {o : Obj} {row : Option Nat} (h : Bx S w0 w V) (hg : (w.alloc o).grownBy w' row) (hr : ∀ q, row = some q → S + 2 ≤ q) : Bx S w0 w' V := by
  obtain ⟨Z, h1, h2⟩ := h.hR
  have hl := h.lt
  have hb : ∀ k, k < w.heap.size → k < S + 2 → w'.heap[k]? = w.heap[k]? := fun k hk hk2 => by
    rw [hg.block k (by simp; omega) (fun e => by have := hr k e.symm; omega), Below.heap_alloc w o k hk]
  refine ⟨(hb S (by omega) (by omega)).trans h.hB, ⟨Z, (hb (S + 1) (by omega) (by omega)).trans h1, h2⟩, ⟨hg.os.trans h.tu.os, hg.tape.trans h.tu.tape, hg.output.trans h.tu.output, ?_, fun k hk hn => ?_⟩, h.sz⟩
  · have h3 := hg.size
    have h4 := h.tu.size
    simp at h3
    omega
  · have hs := h.sz
    rw [hb k (by have := h.tu.size; omega) (by omega)]
    exact h.tu.block k hk hn
theorem own_grow {w w' : World} {base n : Nat} {e : TypeId} {sz : Nat} {v : Value} {xs : List Value} {o : Obj} {row : Option Nat} (h : w.ownsRow base e sz v n xs) (hg : (w.alloc o).grownBy w' row) (hr : ∀ q, row = some q → v.ownBlock ≠ some q) : w'.ownsRow base e sz v n xs :=
  own_same h (fun k hk => by
    have hk2 := (h.lt k hk).2
    rw [hg.block k (by simp; omega) (fun e => hr k e.symm hk), Below.heap_alloc w o k hk2])
set_option maxRecDepth 20000 in
set_option maxHeartbeats 2000000 in
theorem rtamper_misfit (w : World) (n : Nat) (vd vw vo : Value) (l : Int) (b : Bool) (hd : vd.oneCell' = true) (hw : vw.oneCell' = true) (ho : vo.oneCell' = true) (i : Int) (s : ByteArray) (len : Nat) (hs : s.size = len) (x : Int) (hx : rfit n i len = x) (hne : x ≠ 0) :
    Calls Try.prog 33 #[.agg (rv n vd vw l b vo).toArray, .int .i64 i, .string s] w fun e w' => e = .returned (.tuple #[.agg (rv n vd vw l b vo).toArray, .int .i64 x]) ∧ Below w.heap.size w w' := by
  have HX : Box (rfit n i len = x) := ⟨hx⟩
  have hx0 : (x == 0) = false := by simpa using hne
  clear hx hne
  have H1 : Box (vd.oneCell' = true ∧ vw.oneCell' = true ∧ vo.oneCell' = true) := ⟨hd, hw, ho⟩
  clear hd hw ho
  have H : Box (Bx w.heap.size w ((w.alloc (.cells (rv n vd vw l b vo).toArray 31)).alloc (.cells #[.int .i64 0, .slice none 0 0, .slice none 0 0, .int .i64 0, .bool false, .slice none 0 0] 31)) (rv n vd vw l b vo)) := ⟨Bx.start w _ _ rfl⟩
  obtain ⟨S, HS⟩ : ∃ S, Box (w.heap.size = S) := ⟨_, ⟨rfl⟩⟩
  go_enter Try.func33, Try.ntmps33
  go_upto_region 1 with fail
  rw [HS.out] at H ⊢
  generalize (w.alloc (.cells (rv n vd vw l b vo).toArray 31)).alloc (.cells #[.int .i64 0, .slice none 0 0, .slice none 0 0, .int .i64 0, .bool false, .slice none 0 0] 31) = w1 at H ⊢
  have HF : Box (Calls Try.prog 44 #[.agg (rv n vd vw l b vo).toArray, .int .i64 i, .string s] w1 fun e w' => e = .returned (.int .i64 x) ∧ Below w1.heap.size w1 w') := ⟨(rfits_any w1 n vd vw vo l b i s len hs).mono fun e w' h => ⟨by rw [h.1, HX.out], h.2⟩⟩
  go_upto_region 2 with (first
    | (refine wpList_ldD rfl _ rfl S (rv n vd vw l b vo) rfl H.out.hB rfl ?_)
    | (go_at_call 44; refine HF.out.mono ?_; rintro e w2 ⟨rfl, hb2⟩; have H2 : Box (Bx S w w2 (rv n vd vw l b vo)) := ⟨H.out.on hb2⟩; clear hb2))
  go_wp2_with (first
    | (refine wpList_ldD rfl _ rfl S (rv n vd vw l b vo) rfl H2.out.hB rfl ?_)
    | (refine wpList_stD rfl _ _ rfl S w _ (rv n vd vw l b vo) rfl rfl H2.out rfl (one_rv H1.out.1 H1.out.2.1 H1.out.2.2) ?_; intro w5 h5 b5 t5))
  (try simp only [Exit.inBlock, Exit.then])
  refine bodyPost_ret (results_D2 rfl _ _ (S + 1) _ rfl rfl h5) rfl ?_
  exact ⟨rfl, HS.out ▸ b5.below⟩
/-- What is struck out of a list, so far. -/
structure Tm (S : Nat) (w wr : World) (V : List Value) (v4 lv : Value) (M N : List (Nat × List Int)) : Prop where
  bx : Bx S w wr V
  r4 : Rw wr v4 M
  rl : Rw wr lv N
  nl : ∀ q, lv.ownBlock = some q → S + 2 ≤ q ∧ v4.ownBlock ≠ some q
theorem Tm.step {S : Nat} {w wr w3 : World} {V : List Value} {v4 lv v3 : Value} {M N : List (Nat × List Int)} {x : Nat × List Int} {o : Obj} (h : Tm S w wr V v4 lv M N) (hown : w3.ownsRow 0 82 2 v3 (N.length + 1) (rcs N ++ rc x)) (hg : (wr.alloc o).grownBy w3 lv.ownBlock) (hb : ∀ k, v3.ownBlock = some k → lv.ownBlock = some k ∨ (wr.alloc o).heap.size ≤ k) : Tm S w w3 V v4 v3 M (N ++ [x]) := by
  refine ⟨h.bx.grow hg (fun q hq => (h.nl q hq).1), own_grow h.r4 hg (fun q hq => (h.nl q hq).2), ?_, fun q hq => ?_⟩
  · unfold Rw
    rw [rcs_snoc, List.length_append]
    exact hown
  · rcases hb q hq with e | e
    · exact h.nl q e
    · simp at e
      have := h.bx.lt
      exact ⟨by omega, fun e4 => by have := (h.r4.lt q e4).2; omega⟩
set_option maxRecDepth 20000 in
set_option maxHeartbeats 2000000 in
theorem rtamper_ok (w : World) (n : Nat) (vd vw vo : Value) (l : Int) (b : Bool) (Ld L : List (Nat × List Int)) (hd : Rw w vd Ld) (hw : Rw w vw L) (ho : vo.oneCell' = true) (hLd : Ld.length < 1000000) (hL : L.length < 1000000) (i : Nat) (B : List Int) (hx : rfit n (i : Int) B.length = 0) :
    Calls Try.prog 33 #[.agg (rv n vd vw l b vo).toArray, .int .i64 (i : Int), .string (strOfNums B)] w fun e w' => ∃ vd' vw', e = .returned (.tuple #[.agg (rv n vd' vw' l b vo).toArray, .int .i64 0]) ∧ Below w.heap.size w w' ∧ Rw w' vd' (Ld ++ [(i, B)]) ∧ Rw w' vw' (oth i L) := by
  have HX : Box (rfit n (i : Int) B.length = 0) := ⟨hx⟩
  have HW : Box (Rw w vw L ∧ vo.oneCell' = true ∧ Rw w vd Ld ∧ Ld.length < 1000000 ∧ L.length < 1000000) := ⟨hw, ho, hd, hLd, hL⟩
  have hL9 : L.length < 9223372036854775807 := by omega
  clear hx ho hLd hL
  obtain ⟨ad, cd, rfl⟩ := own_form2 hd
  obtain ⟨aw, cw, rfl⟩ := own_form2 hw
  clear hd hw
  have H : Box (Bx w.heap.size w ((w.alloc (.cells (rv n (.slice ad Ld.length cd) (.slice aw L.length cw) l b vo).toArray 31)).alloc (.cells #[.int .i64 0, .slice none 0 0, .slice none 0 0, .int .i64 0, .bool false, .slice none 0 0] 31)) (rv n (.slice ad Ld.length cd) (.slice aw L.length cw) l b vo)) := ⟨Bx.start w _ _ rfl⟩
  obtain ⟨S, HS⟩ : ∃ S, Box (w.heap.size = S) := ⟨_, ⟨rfl⟩⟩
  go_enter Try.func33, Try.ntmps33
  go_upto_region 1 with fail
  rw [HS.out] at H ⊢
  generalize (w.alloc (.cells (rv n (.slice ad Ld.length cd) (.slice aw L.length cw) l b vo).toArray 31)).alloc (.cells #[.int .i64 0, .slice none 0 0, .slice none 0 0, .int .i64 0, .bool false, .slice none 0 0] 31) = w1 at H ⊢
  have HF : Box (Calls Try.prog 44 #[.agg (rv n (.slice ad Ld.length cd) (.slice aw L.length cw) l b vo).toArray, .int .i64 (i : Int), .string (strOfNums B)] w1 fun e w' => e = .returned (.int .i64 0) ∧ Below w1.heap.size w1 w') := ⟨(rfits_any w1 n (.slice ad Ld.length cd) (.slice aw L.length cw) vo l b i (strOfNums B) B.length (size_str B)).mono fun e w' h => ⟨by rw [h.1, HX.out], h.2⟩⟩
  go_upto_region 4 with (first
    | (refine wpList_ldD rfl _ rfl S (rv n (.slice ad Ld.length cd) (.slice aw L.length cw) l b vo) rfl H.out.hB rfl ?_)
    | (go_at_call 44; refine HF.out.mono ?_; rintro e w2 ⟨rfl, hb2⟩; have H2 : Box (Bx S w w2 (rv n (.slice ad Ld.length cd) (.slice aw L.length cw) l b vo)) := ⟨H.out.on hb2⟩; clear hb2))
  clear HF
  have c1 : w2.cell? ⟨S, 1, none⟩ = some (.slice ad Ld.length cd) := H2.out.cell 1
  have HM : Box (Calls Try.prog 45 #[(.slice ad Ld.length cd), .agg (rc (i, B)).toArray] w2 fun e w' => ∃ v', e = .returned v' ∧ Rw w' v' (Ld ++ [(i, B)]) ∧ Below w2.heap.size w2 w' ∧ ∀ k, v'.ownBlock = some k → w2.heap.size ≤ k) := ⟨rmore_any w2 _ Ld (i, B) (H2.out.old HW.out.2.2.1) HW.out.2.2.2.1⟩
  go_upto_region 5 with (go_at_call 45; refine HM.out.mono ?_; rintro e w4 ⟨v4, rfl, r4, b4, o4⟩; obtain ⟨a4, c4, rfl⟩ := own_form2 r4; rw [List.length_append, List.length_singleton] at *; have H4 : Box (Bx S w w4 (rv n (.slice ad Ld.length cd) (.slice aw L.length cw) l b vo)) := ⟨H2.out.on b4⟩; have R4 : Box (Rw w4 (.slice a4 (Ld.length + 1) c4) (Ld ++ [(i, B)]) ∧ ∀ k, (Value.slice a4 (Ld.length + 1) c4).ownBlock = some k → S + 2 ≤ k) := ⟨r4, fun k hk => by have := o4 k hk; have := H2.out.lt; omega⟩; have q1 : w4.cell? ⟨S, 1, none⟩ = some (.slice ad Ld.length cd) := H4.out.cell 1; have f1 := H4.out.froz 1; clear r4 b4 o4)
  have H5 : Box (Tm S w (w4.setCell ⟨S, 1, none⟩ (.slice a4 (Ld.length + 1) c4)) (rv n (.slice a4 (Ld.length + 1) c4) (.slice aw L.length cw) l b vo) (.slice a4 (Ld.length + 1) c4) (.slice none 0 0) (Ld ++ [(i, B)]) (oth i (L.take 0))) := ⟨⟨H4.out.put 1 _, own_new R4.out.1 (turned_set (Turned.refl _ _) (fp := fun k => k = S) rfl _) (fun k e => by omega) R4.out.2, Rw.nil _, fun q hq => by simp [Value.ownBlock] at hq⟩⟩
  clear c1 q1 f1 H4 H2
  generalize w4.setCell ⟨S, 1, none⟩ (.slice a4 (Ld.length + 1) c4) = w5 at H5 ⊢
  go_wp2
  go_loopw [9, 10] (fun lv jv wr => ∃ k : Nat, k ≤ L.length ∧ jv = .int .i64 k ∧ Box (Tm S w wr (rv n (.slice a4 (Ld.length + 1) c4) (.slice aw L.length cw) l b vo) (.slice a4 (Ld.length + 1) c4) lv (Ld ++ [(i, B)]) (oth i (L.take k)))) (fun _ jv _ => L.length - (intOf jv).toNat)
  case atStart => exact ⟨0, Nat.zero_le _, rfl, H5⟩
  case round =>
    obtain ⟨k, hk, rfl, HK⟩ := hrel
    clear H5
    obtain ⟨al, cl, rfl⟩ := own_form2 HK.out.rl
    have c2 : wr.cell? ⟨S, 2, none⟩ = some (.slice aw L.length cw) := HK.out.bx.cell 2
    by_cases hlt : k < L.length
    · obtain ⟨g, rfl, hg⟩ := HW.out.1.some_ (show 0 < L.length by omega)
      have HXr : Box (wr.rangeAt g (k * 2) (rc L[k])) := ⟨Rw.range (HK.out.bx.old HW.out.1) k hlt⟩
      have q0 : wr.cell? ⟨g, k * 2, none⟩ = some (.int .i64 (L[k].1 : Int)) := HXr.out 0 _ rfl
      have HO := oth_succ i L k hlt
      generalize L[k] = x at HXr q0 HO
      have HLN : Box (((oth i (L.take k)).length + 1) * 24 ≤ 140737488355328) := ⟨by have h1 := oth_len i (L.take k); have h2 := HW.out.2.2.2.2; rw [List.length_take] at h1; omega⟩
      by_cases hp : x.1 = i
      · have hpi : ((x.1 : Int) == (i : Int)) = true := by simp [hp]
        have HF : Box (oth i (L.take (k + 1)) = oth i (L.take k)) := ⟨by rw [HO]; simp [hp]⟩
        clear HO hp hg HXr
        go_wp2
        exact ⟨⟨k + 1, by omega, by simp, ⟨by rw [HF.out]; exact HK.out⟩⟩, by simp [intOf]; omega⟩
      · have hpi : ((x.1 : Int) == (i : Int)) = false := by
          have : ¬ ((x.1 : Int) = (i : Int)) := by omega
          simp [this]
        have HF : Box (oth i (L.take (k + 1)) = oth i (L.take k) ++ [x]) := ⟨by rw [HO]; simp [hp]⟩
        clear HO hp hg
        generalize oth i (L.take k) = N at HF HLN HK ⊢
        go_wp2_with (first
          | (refine wpList_load_mid rfl 82 _ rfl g (k * 2) rfl (rc x) _ HXr.out Try.underlying82 rfl infoW2 ?_)
          | (refine wpList_run rfl _ _ (one_slice wr 28 82 (rc x).toArray (rc (0, [])).toArray 2 (by decide) (by decide) Try.underlying28 (by kernel_rfl) (by kernel_rfl) rfl rfl _ rfl rfl) ?_)
          | (at_builtin; refine wpList_app2 rfl _ _ 28 rfl 82 2 24 (.agg (rc (0, [])).toArray) Try.underlying28 infoW rfl (by decide) (.slice al N.length cl) N.length (rcs N) rfl (HK.out.rl.alloc _) ⟨wr.heap.size, 0, none⟩ 1 1 (rc x) rfl rfl (news_new wr (rc x) _) (one_rc _) HLN.out (by decide) ?_; intro v3 w3 hown hgr hblk; have H3 : Box (Tm S w w3 (rv n (.slice a4 (Ld.length + 1) c4) (.slice (some ⟨g, 0, none⟩) L.length cw) l b vo) (.slice a4 (Ld.length + 1) c4) v3 (Ld ++ [(i, B)]) (N ++ [x])) := ⟨HK.out.step hown hgr hblk⟩; obtain ⟨a3, c3, rfl⟩ := own_form2 hown; clear hown hgr hblk))
        exact ⟨⟨k + 1, by omega, by simp, ⟨by rw [HF.out]; exact H3.out⟩⟩, by simp [intOf]; omega⟩
    · obtain rfl : k = L.length := by omega
      obtain ⟨N, HN⟩ : ∃ N, oth i (L.take L.length) = N := ⟨_, rfl⟩
      rw [HN] at HK ⊢
      have HNN : Box (N = oth i L) := ⟨by rw [← HN, List.take_length]⟩
      clear HN
      have f2 := HK.out.bx.froz 2
      have H2 : Box (Bx S w (wr.setCell ⟨S, 2, none⟩ (.slice al N.length cl)) (rv n (.slice a4 (Ld.length + 1) c4) (.slice al N.length cl) l b vo)) := ⟨HK.out.bx.put 2 _⟩
      have R2 : Box (Rw (wr.setCell ⟨S, 2, none⟩ (.slice al N.length cl)) (.slice a4 (Ld.length + 1) c4) (Ld ++ [(i, B)]) ∧ Rw (wr.setCell ⟨S, 2, none⟩ (.slice al N.length cl)) (.slice al N.length cl) N) := ⟨own_new HK.out.r4 (turned_set (Turned.refl _ _) (fp := fun k => k = S) rfl _) (fun k e => by omega) R4.out.2, own_new HK.out.rl (turned_set (Turned.refl _ _) (fp := fun k => k = S) rfl _) (fun k e => by omega) (fun q hq => (HK.out.nl q hq).1)⟩
      go_upto_region 12 with fail
      generalize wr.setCell ⟨S, 2, none⟩ (.slice al N.length cl) = w6 at H2 R2 ⊢
      clear f2 c2
      go_wp2_with (first
        | (refine wpList_ldD rfl _ rfl S (rv n (.slice a4 (Ld.length + 1) c4) (.slice al N.length cl) l b vo) rfl H2.out.hB rfl ?_)
        | (refine wpList_stD rfl _ _ rfl S w _ (rv n (.slice a4 (Ld.length + 1) c4) (.slice al N.length cl) l b vo) rfl rfl H2.out rfl (one_rv rfl rfl HW.out.2.1) ?_; intro w7 h7 b7 t7))
      (try simp only [Exit.inBlock, Exit.then])
      refine bodyPost_ret (results_D2 rfl _ _ (S + 1) _ rfl rfl h7) rfl ?_
      exact ⟨_, _, rfl, HS.out ▸ b7.below, own_new R2.out.1 t7 (fun k e => by omega) R4.out.2, HNN.out ▸ own_new R2.out.2 t7 (fun k e => by omega) (fun q hq => (HK.out.nl q hq).1)⟩
/-- A row of strings of one's own. -/
def Rs (w : World) (v : Value) (L : List (List Int)) : Prop := w.ownsRow 0 9 1 v L.length (L.map (fun B => .string (strOfNums B)))
theorem infoS : (Try.prog.info? 9).map (fun i => (i.zero, i.size, i.bytes)) = some (some (.string ByteArray.empty), 1, 16) := by kernel_rfl
/-- The bytes of the first places. -/
def pls (L : List (Nat × List Int)) (k : Nat) : List (List Int) := (List.range k).map (rat L)
theorem pls_succ (L : List (Nat × List Int)) (k : Nat) : pls L (k + 1) = pls L k ++ [rat L k] := by simp [pls, List.range_succ]
theorem length_pls (L : List (Nat × List Int)) (k : Nat) : (pls L k).length = k := by simp [pls]
theorem one_str (B : List Int) : ∀ u ∈ [Value.string (strOfNums B)], u.oneCell' = true := by
  intro u hu
  simp only [List.mem_cons, List.not_mem_nil, or_false] at hu
  subst hu
  rfl
theorem im_step {S : Nat} {w wr w2 w3 : World} {lv v3 : Value} {N : List (List Int)} {X : List Int} {o p : Obj} {k : Nat} (h : Below S w wr ∧ wr.heap[S]? = some p ∧ Rs wr lv N ∧ ∀ q, lv.ownBlock = some q → S + 1 ≤ q) (hN : N.length = k) (hb : Below wr.heap.size wr w2) (hown : w3.ownsRow 0 9 1 v3 (k + 1) (N.map (fun B => .string (strOfNums B)) ++ [.string (strOfNums X)])) (hg : (w2.alloc o).grownBy w3 lv.ownBlock) (hk : ∀ k, v3.ownBlock = some k → lv.ownBlock = some k ∨ (w2.alloc o).heap.size ≤ k) :
    Below S w w3 ∧ w3.heap[S]? = some p ∧ Rs w3 v3 (N ++ [X]) ∧ ∀ q, v3.ownBlock = some q → S + 1 ≤ q := by
  have hS : S < wr.heap.size := (Array.getElem?_eq_some_iff.1 h.2.1).1
  have h2 := hb.size
  have e1 : Below S w w2 := h.1.trans (hb.mono (by omega))
  refine ⟨(e1.alloc (by omega) _).grown hg (by simp; omega) (fun q hq => by have := h.2.2.2 q hq; omega), ?_, ?_, fun q hq => ?_⟩
  · rw [hg.block S (by simp; omega) (fun e => by have := h.2.2.2 S e.symm; omega), Below.heap_alloc w2 o S (by omega), hb.block S hS]
    exact h.2.1
  · unfold Rs
    rw [List.length_append, List.map_append, hN]
    exact hown
  · rcases hk q hq with e | e
    · exact h.2.2.2 q e
    · simp at e; omega
theorem rs_on {w w' : World} {v : Value} {N : List (List Int)} {k : Nat} (h : Rs w v N) (hk : N.length = k) (hb : Below w.heap.size w w') : w'.ownsRow 0 9 1 v k (N.map (fun B => .string (strOfNums B))) := by
  subst hk
  exact own_below h hb
theorem Rs.nil (w : World) : Rs w (.slice none 0 0) [] := World.ownsRow_nil _ _ _ _
set_option maxRecDepth 20000 in
set_option maxHeartbeats 2000000 in
theorem rimage_any (w : World) (n : Nat) (vd vw vo : Value) (l : Int) (b : Bool) (Ld : List (Nat × List Int)) (hd : Rw w vd Ld) (hw : vw.oneCell' = true) (ho : vo.oneCell' = true) (hLd : Ld.length < 1000000) (hn : n ≤ 4096) :
    Calls Try.prog 15 #[.agg (rv n vd vw l b vo).toArray] w fun e w' => ∃ v', e = .returned v' ∧ Below w.heap.size w w' ∧ Rs w' v' (pls Ld n) ∧ ∀ k, v'.ownBlock = some k → w.heap.size ≤ k := by
  have HB0 : Box (Below w.heap.size w (w.alloc (.cells (rv n vd vw l b vo).toArray 31)) ∧ (w.alloc (.cells (rv n vd vw l b vo).toArray 31)).heap[w.heap.size]? = some (.cells (rv n vd vw l b vo).toArray 31 (0, 0))) := ⟨(Below.refl _ w).alloc (Nat.le_refl _) _, al_at rfl⟩
  have HD : Box (Rw w vd Ld ∧ Ld.length < 1000000) := ⟨hd, hLd⟩
  obtain ⟨S, HS⟩ : ∃ S, Box (w.heap.size = S) := ⟨_, ⟨rfl⟩⟩
  have hn9 : n < 9223372036854775807 := by omega
  have HN : Box (n ≤ 4096) := ⟨hn⟩
  clear hd hLd hn
  go_enter Try.func15, Try.ntmps15
  go_upto_region 1 with fail
  rw [HS.out] at HB0 ⊢
  generalize w.alloc (.cells (rv n vd vw l b vo).toArray 31) = w1 at HB0 ⊢
  go_wp2
  go_loopw [3, 4] (fun lv jv wr => ∃ k : Nat, k ≤ n ∧ jv = .int .i64 k ∧ Box (Below S w wr ∧ wr.heap[S]? = some (.cells (rv n vd vw l b vo).toArray 31 (0, 0)) ∧ Rs wr lv (pls Ld k) ∧ ∀ q, lv.ownBlock = some q → S + 1 ≤ q)) (fun _ jv _ => n - (intOf jv).toNat)
  case atStart => exact ⟨0, Nat.zero_le _, rfl, ⟨HB0.out.1, HB0.out.2, Rs.nil _, fun q hq => by simp [Value.ownBlock] at hq⟩⟩
  case round =>
    obtain ⟨k, hk, rfl, HK⟩ := hrel
    clear HB0
    obtain ⟨al, cl, rfl⟩ := own_form2 HK.out.2.2.1
    rw [length_pls] at HK ⊢
    have c0 : wr.cell? ⟨S, 0, none⟩ = some (.int .i64 (n : Int)) := (cell_of_row _ _ _ _ _ _ HK.out.2.1).trans rfl
    by_cases hlt : k < n
    · have HA : Box (Calls Try.prog 35 #[.agg (rv n vd vw l b vo).toArray, .int .i64 (k : Int)] wr fun e w' => e = .returned (.string (strOfNums (rat Ld k))) ∧ Below wr.heap.size wr w') := ⟨rat_any wr _ _ _ _ _ _ Ld k (HD.out.1.below (HS.out ▸ HK.out.1)) HD.out.2⟩
      have HLN : Box ((k + 1) * 16 ≤ 140737488355328) := ⟨by have := HN.out; omega⟩
      have HP := pls_succ Ld k
      have HPl : Box ((pls Ld k).length = k) := ⟨length_pls _ _⟩
      obtain ⟨X, HX⟩ : ∃ X, rat Ld k = X := ⟨_, rfl⟩
      rw [HX] at HA HP
      obtain ⟨N, HN⟩ : ∃ N, pls Ld k = N := ⟨_, rfl⟩
      rw [HN] at HP HPl HK
      have HP2 : Box (pls Ld (k + 1) = N ++ [X]) := ⟨HP⟩
      clear HP HX HN
      go_wp2_with (first
        | (refine wpList_ldD rfl _ rfl S (rv n vd vw l b vo) rfl HK.out.2.1 rfl ?_)
        | (go_at_call 35; refine HA.out.mono ?_; rintro e w2 ⟨rfl, b2⟩; have H2 : Box (Below wr.heap.size wr w2 ∧ w2.ownsRow 0 9 1 (.slice al k cl) k (N.map (fun B => .string (strOfNums B)))) := ⟨b2, rs_on HK.out.2.2.1 HPl.out b2⟩; clear b2)
        | (at_builtin; refine wpList_app2 rfl _ _ 44 rfl 9 1 16 (.string ByteArray.empty) Try.underlying44 infoS rfl (by decide) (.slice al k cl) k (N.map (fun B => .string (strOfNums B))) rfl (H2.out.2.alloc _) ⟨w2.heap.size, 0, none⟩ 1 1 [.string (strOfNums X)] rfl rfl (news_new w2 [.string (strOfNums X)] _) (one_str _) HLN.out (by decide) ?_; intro v3 w3 hown hgr hblk; have H3 : Box (Below S w w3 ∧ w3.heap[S]? = some (.cells (rv n vd vw l b vo).toArray 31 (0, 0)) ∧ Rs w3 v3 (N ++ [X]) ∧ ∀ q, v3.ownBlock = some q → S + 1 ≤ q) := ⟨im_step HK.out HPl.out H2.out.1 hown hgr hblk⟩; obtain ⟨a3, c3, rfl⟩ := own_form2 hown; clear hown hgr hblk))
      exact ⟨⟨k + 1, by omega, by simp, ⟨by rw [HP2.out]; exact H3.out⟩⟩, by simp [intOf]; omega⟩
    · obtain rfl : k = n := by omega
      go_wp2
      go_ret
      exact ⟨_, rfl, HS.out ▸ HK.out.1, HK.out.2.2.1, fun q hq => by have := HK.out.2.2.2 q hq; have := HS.out; omega⟩
end Go.Proofs.Ytlokhbkjkobmaaa
