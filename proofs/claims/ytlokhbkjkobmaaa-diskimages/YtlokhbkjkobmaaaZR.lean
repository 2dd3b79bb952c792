/-
  The reference of layer 6: Stop, Write, Read.
-/
import Derived.Test.YtlokhbkjkobmaaaZQ
namespace Go.Proofs.Ytlokhbkjkobmaaa
set_option linter.unusedVariables false
open Go.RowKit Plain

/-- After how many writes it stops. -/
def rlf (i : Int) : Int := if i < 0 then -1 else i
set_option maxRecDepth 20000 in
set_option maxHeartbeats 2000000 in
theorem rstop_any (w : World) (n : Nat) (vd vw vo : Value) (l : Int) (b : Bool) (hd : vd.oneCell' = true) (hw : vw.oneCell' = true) (ho : vo.oneCell' = true) (i : Int) :
    Calls Try.prog 31 #[.agg (rv n vd vw l b vo).toArray, .int .i64 i] w fun e w' => e = .returned (.agg (rv n vd vw (rlf i) b vo).toArray) ∧ Below w.heap.size w w' := by
  have H1 : Box (vd.oneCell' = true ∧ vw.oneCell' = true ∧ vo.oneCell' = true) := ⟨hd, hw, ho⟩
  clear hd hw ho
  have H : Box (Bx w.heap.size w ((w.alloc (.cells (rv n vd vw l b vo).toArray 31)).alloc (.cells #[.int .i64 0, .slice none 0 0, .slice none 0 0, .int .i64 0, .bool false, .slice none 0 0] 31)) (rv n vd vw l b vo)) := ⟨Bx.start w _ _ rfl⟩
  obtain ⟨S, HS⟩ : ∃ S, Box (w.heap.size = S) := ⟨_, ⟨rfl⟩⟩
  go_enter Try.func31, Try.ntmps31
  go_upto_region 1 with fail
  rw [HS.out] at H ⊢
  generalize (w.alloc (.cells (rv n vd vw l b vo).toArray 31)).alloc (.cells #[.int .i64 0, .slice none 0 0, .slice none 0 0, .int .i64 0, .bool false, .slice none 0 0] 31) = w1 at H ⊢
  have c3 : w1.cell? ⟨S, 3, none⟩ = some (.int .i64 l) := H.out.cell 3
  have f3 := H.out.froz 3
  go_upto_region 2 with fail
  have H2 : Box (Bx S w (w1.setCell ⟨S, 3, none⟩ (.int .i64 i)) (rv n vd vw i b vo)) := ⟨H.out.put 3 _⟩
  generalize w1.setCell ⟨S, 3, none⟩ (.int .i64 i) = w2 at H2 ⊢
  clear c3 f3 H
  by_cases h0 : i < 0
  · have E : Box (rlf i = -1) := ⟨if_pos h0⟩
    have d0 : decide (i < 0) = true := by simpa using h0
    clear h0
    have c3 : w2.cell? ⟨S, 3, none⟩ = some (.int .i64 i) := H2.out.cell 3
    have f3 := H2.out.froz 3
    have H3 : Box (Bx S w (w2.setCell ⟨S, 3, none⟩ (.int .i64 (-1))) (rv n vd vw (-1) b vo)) := ⟨H2.out.put 3 _⟩
    go_wp2_with (first
      | (refine wpList_ldD rfl _ rfl S (rv n vd vw (-1) b vo) rfl H3.out.hB rfl ?_)
      | (refine wpList_stD rfl _ _ rfl S w _ (rv n vd vw (-1) b vo) rfl rfl H3.out rfl (one_rv H1.out.1 H1.out.2.1 H1.out.2.2) ?_; intro w5 h5 b5 t5))
    (try simp only [Exit.inBlock, Exit.then])
    refine bodyPost_ret (results_D rfl _ _ (S + 1) _ rfl rfl h5) rfl ?_
    exact ⟨by rw [E.out], HS.out ▸ b5.below⟩
  · have E : Box (rlf i = i) := ⟨if_neg h0⟩
    have d0 : decide (i < 0) = false := by simpa using h0
    clear h0
    go_wp2_with (first
      | (refine wpList_ldD rfl _ rfl S (rv n vd vw i b vo) rfl H2.out.hB rfl ?_)
      | (refine wpList_stD rfl _ _ rfl S w _ (rv n vd vw i b vo) rfl rfl H2.out rfl (one_rv H1.out.1 H1.out.2.1 H1.out.2.2) ?_; intro w5 h5 b5 t5))
    (try simp only [Exit.inBlock, Exit.then])
    refine bodyPost_ret (results_D rfl _ _ (S + 1) _ rfl rfl h5) rfl ?_
    exact ⟨by rw [E.out], HS.out ▸ b5.below⟩
set_option maxRecDepth 20000 in
set_option maxHeartbeats 2000000 in
theorem rwrite_down (w : World) (n : Nat) (vd vw vo : Value) (l : Int) (hd : vd.oneCell' = true) (hw : vw.oneCell' = true) (ho : vo.oneCell' = true) (i : Int) (s : ByteArray) :
    Calls Try.prog 28 #[.agg (rv n vd vw l true vo).toArray, .int .i64 i, .string s] w fun e w' => e = .returned (.tuple #[.agg (rv n vd vw l true vo).toArray, .int .i64 13]) ∧ Below w.heap.size w w' := by
  have H1 : Box (vd.oneCell' = true ∧ vw.oneCell' = true ∧ vo.oneCell' = true) := ⟨hd, hw, ho⟩
  clear hd hw ho
  have H : Box (Bx w.heap.size w ((w.alloc (.cells (rv n vd vw l true vo).toArray 31)).alloc (.cells #[.int .i64 0, .slice none 0 0, .slice none 0 0, .int .i64 0, .bool false, .slice none 0 0] 31)) (rv n vd vw l true vo)) := ⟨Bx.start w _ _ rfl⟩
  obtain ⟨S, HS⟩ : ∃ S, Box (w.heap.size = S) := ⟨_, ⟨rfl⟩⟩
  go_enter Try.func28, Try.ntmps28
  go_upto_region 1 with fail
  rw [HS.out] at H ⊢
  generalize (w.alloc (.cells (rv n vd vw l true vo).toArray 31)).alloc (.cells #[.int .i64 0, .slice none 0 0, .slice none 0 0, .int .i64 0, .bool false, .slice none 0 0] 31) = w1 at H ⊢
  have c4 : w1.cell? ⟨S, 4, none⟩ = some (.bool true) := H.out.cell 4
  go_wp2_with (first
    | (refine wpList_ldD rfl _ rfl S (rv n vd vw l true vo) rfl H.out.hB rfl ?_)
    | (refine wpList_stD rfl _ _ rfl S w _ (rv n vd vw l true vo) rfl rfl H.out rfl (one_rv H1.out.1 H1.out.2.1 H1.out.2.2) ?_; intro w5 h5 b5 t5))
  (try simp only [Exit.inBlock, Exit.then])
  refine bodyPost_ret (results_D2 rfl _ _ (S + 1) _ rfl rfl h5) rfl ?_
  exact ⟨rfl, HS.out ▸ b5.below⟩
set_option maxRecDepth 20000 in
set_option maxHeartbeats 2000000 in
theorem rwrite_misfit (w : World) (n : Nat) (vd vw vo : Value) (l : Int) (hd : vd.oneCell' = true) (hw : vw.oneCell' = true) (ho : vo.oneCell' = true) (i : Int) (s : ByteArray) (len : Nat) (hs : s.size = len) (x : Int) (hx : rfit n i len = x) (hne : x ≠ 0) :
    Calls Try.prog 28 #[.agg (rv n vd vw l false vo).toArray, .int .i64 i, .string s] w fun e w' => e = .returned (.tuple #[.agg (rv n vd vw l false vo).toArray, .int .i64 x]) ∧ Below w.heap.size w w' := by
  have HX : Box (rfit n i len = x) := ⟨hx⟩
  have hx0 : (x == 0) = false := by simpa using hne
  clear hx hne
  have H1 : Box (vd.oneCell' = true ∧ vw.oneCell' = true ∧ vo.oneCell' = true) := ⟨hd, hw, ho⟩
  clear hd hw ho
  have H : Box (Bx w.heap.size w ((w.alloc (.cells (rv n vd vw l false vo).toArray 31)).alloc (.cells #[.int .i64 0, .slice none 0 0, .slice none 0 0, .int .i64 0, .bool false, .slice none 0 0] 31)) (rv n vd vw l false vo)) := ⟨Bx.start w _ _ rfl⟩
  obtain ⟨S, HS⟩ : ∃ S, Box (w.heap.size = S) := ⟨_, ⟨rfl⟩⟩
  go_enter Try.func28, Try.ntmps28
  go_upto_region 1 with fail
  rw [HS.out] at H ⊢
  generalize (w.alloc (.cells (rv n vd vw l false vo).toArray 31)).alloc (.cells #[.int .i64 0, .slice none 0 0, .slice none 0 0, .int .i64 0, .bool false, .slice none 0 0] 31) = w1 at H ⊢
  have c4 : w1.cell? ⟨S, 4, none⟩ = some (.bool false) := H.out.cell 4
  have HF : Box (Calls Try.prog 44 #[.agg (rv n vd vw l false vo).toArray, .int .i64 i, .string s] w1 fun e w' => e = .returned (.int .i64 x) ∧ Below w1.heap.size w1 w') := ⟨(rfits_any w1 n vd vw vo l false i s len hs).mono fun e w' h => ⟨by rw [h.1, HX.out], h.2⟩⟩
  go_upto_region 4 with (first
    | (refine wpList_ldD rfl _ rfl S (rv n vd vw l false vo) rfl H.out.hB rfl ?_)
    | (go_at_call 44; refine HF.out.mono ?_; rintro e w2 ⟨rfl, hb2⟩; have H2 : Box (Bx S w w2 (rv n vd vw l false vo)) := ⟨H.out.on hb2⟩; clear hb2))
  clear c4
  go_wp2_with (first
    | (refine wpList_ldD rfl _ rfl S (rv n vd vw l false vo) rfl H2.out.hB rfl ?_)
    | (refine wpList_stD rfl _ _ rfl S w _ (rv n vd vw l false vo) rfl rfl H2.out rfl (one_rv H1.out.1 H1.out.2.1 H1.out.2.2) ?_; intro w5 h5 b5 t5))
  (try simp only [Exit.inBlock, Exit.then])
  refine bodyPost_ret (results_D2 rfl _ _ (S + 1) _ rfl rfl h5) rfl ?_
  exact ⟨rfl, HS.out ▸ b5.below⟩
set_option maxRecDepth 20000 in
set_option maxHeartbeats 2000000 in
theorem rwrite_stop (w : World) (n : Nat) (vd vw vo : Value) (hd : vd.oneCell' = true) (hw : vw.oneCell' = true) (ho : vo.oneCell' = true) (i : Int) (s : ByteArray) (len : Nat) (hs : s.size = len) (hx : rfit n i len = 0) :
    Calls Try.prog 28 #[.agg (rv n vd vw 0 false vo).toArray, .int .i64 i, .string s] w fun e w' => e = .returned (.tuple #[.agg (rv n vd vw 0 true vo).toArray, .int .i64 13]) ∧ Below w.heap.size w w' := by
  have HX : Box (rfit n i len = 0) := ⟨hx⟩
  clear hx
  have H1 : Box (vd.oneCell' = true ∧ vw.oneCell' = true ∧ vo.oneCell' = true) := ⟨hd, hw, ho⟩
  clear hd hw ho
  have H : Box (Bx w.heap.size w ((w.alloc (.cells (rv n vd vw 0 false vo).toArray 31)).alloc (.cells #[.int .i64 0, .slice none 0 0, .slice none 0 0, .int .i64 0, .bool false, .slice none 0 0] 31)) (rv n vd vw 0 false vo)) := ⟨Bx.start w _ _ rfl⟩
  obtain ⟨S, HS⟩ : ∃ S, Box (w.heap.size = S) := ⟨_, ⟨rfl⟩⟩
  go_enter Try.func28, Try.ntmps28
  go_upto_region 1 with fail
  rw [HS.out] at H ⊢
  generalize (w.alloc (.cells (rv n vd vw 0 false vo).toArray 31)).alloc (.cells #[.int .i64 0, .slice none 0 0, .slice none 0 0, .int .i64 0, .bool false, .slice none 0 0] 31) = w1 at H ⊢
  have c4 : w1.cell? ⟨S, 4, none⟩ = some (.bool false) := H.out.cell 4
  have HF : Box (Calls Try.prog 44 #[.agg (rv n vd vw 0 false vo).toArray, .int .i64 i, .string s] w1 fun e w' => e = .returned (.int .i64 0) ∧ Below w1.heap.size w1 w') := ⟨(rfits_any w1 n vd vw vo 0 false i s len hs).mono fun e w' h => ⟨by rw [h.1, HX.out], h.2⟩⟩
  go_upto_region 4 with (first
    | (refine wpList_ldD rfl _ rfl S (rv n vd vw 0 false vo) rfl H.out.hB rfl ?_)
    | (go_at_call 44; refine HF.out.mono ?_; rintro e w2 ⟨rfl, hb2⟩; have H2 : Box (Bx S w w2 (rv n vd vw 0 false vo)) := ⟨H.out.on hb2⟩; clear hb2))
  clear c4
  have c3 : w2.cell? ⟨S, 3, none⟩ = some (.int .i64 0) := H2.out.cell 3
  have c4 : w2.cell? ⟨S, 4, none⟩ = some (.bool false) := H2.out.cell 4
  have f4 := H2.out.froz 4
  have H3 : Box (Bx S w (w2.setCell ⟨S, 4, none⟩ (.bool true)) (rv n vd vw 0 true vo)) := ⟨H2.out.put 4 _⟩
  go_wp2_with (first
    | (refine wpList_ldD rfl _ rfl S (rv n vd vw 0 true vo) rfl H3.out.hB rfl ?_)
    | (refine wpList_stD rfl _ _ rfl S w _ (rv n vd vw 0 true vo) rfl rfl H3.out rfl (one_rv H1.out.1 H1.out.2.1 H1.out.2.2) ?_; intro w5 h5 b5 t5))
  (try simp only [Exit.inBlock, Exit.then])
  refine bodyPost_ret (results_D2 rfl _ _ (S + 1) _ rfl rfl h5) rfl ?_
  exact ⟨rfl, HS.out ▸ b5.below⟩
set_option maxRecDepth 20000 in
set_option maxHeartbeats 2000000 in
theorem rwrite_left (w : World) (n : Nat) (vd vw vo : Value) (l : Int) (L : List (Nat × List Int)) (O : List (Int × Int)) (hd : vd.oneCell' = true) (hw : Rw w vw L) (ho : Ro w vo O) (hL : L.length < 1000000) (hO : O.length < 1000000) (k : Nat) (B : List Int) (hx : rfit n (k : Int) B.length = 0) (hl : 0 < l) (hl9 : l ≤ 9223372036854775807) :
    Calls Try.prog 28 #[.agg (rv n vd vw l false vo).toArray, .int .i64 (k : Int), .string (strOfNums B)] w fun e w' => ∃ vw' vo', e = .returned (.tuple #[.agg (rv n vd vw' (l - 1) false vo').toArray, .int .i64 0]) ∧ Below w.heap.size w w' ∧ Rw w' vw' (L ++ [(k, B)]) ∧ Ro w' vo' (O ++ [(2, (k : Int))]) := by
  have HX : Box (rfit n (k : Int) B.length = 0) := ⟨hx⟩
  have HW : Box (Rw w vw L ∧ Ro w vo O ∧ L.length < 1000000 ∧ O.length < 1000000) := ⟨hw, ho, hL, hO⟩
  have H1 : Box (vd.oneCell' = true) := ⟨hd⟩
  have d0 : (l == 0) = false := by simp; omega
  have d1 : decide (0 < l) = true := by simpa using hl
  have hw1 : IntKind.i64.wrap (l - 1) = l - 1 := by rw [IntKind.wrap_i64]; omega
  clear hl hl9
  clear hx hL hO hd
  obtain ⟨aw, cw, rfl⟩ := own_form2 hw
  obtain ⟨ao, co, rfl⟩ := own_form2 ho
  clear hw ho
  have H : Box (Bx w.heap.size w ((w.alloc (.cells (rv n vd (.slice aw L.length cw) l false (.slice ao O.length co)).toArray 31)).alloc (.cells #[.int .i64 0, .slice none 0 0, .slice none 0 0, .int .i64 0, .bool false, .slice none 0 0] 31)) (rv n vd (.slice aw L.length cw) l false (.slice ao O.length co))) := ⟨Bx.start w _ _ rfl⟩
  obtain ⟨S, HS⟩ : ∃ S, Box (w.heap.size = S) := ⟨_, ⟨rfl⟩⟩
  go_enter Try.func28, Try.ntmps28
  go_upto_region 1 with fail
  rw [HS.out] at H ⊢
  generalize (w.alloc (.cells (rv n vd (.slice aw L.length cw) l false (.slice ao O.length co)).toArray 31)).alloc (.cells #[.int .i64 0, .slice none 0 0, .slice none 0 0, .int .i64 0, .bool false, .slice none 0 0] 31) = w1 at H ⊢
  have c4 : w1.cell? ⟨S, 4, none⟩ = some (.bool false) := H.out.cell 4
  have HF : Box (Calls Try.prog 44 #[.agg (rv n vd (.slice aw L.length cw) l false (.slice ao O.length co)).toArray, .int .i64 (k : Int), .string (strOfNums B)] w1 fun e w' => e = .returned (.int .i64 0) ∧ Below w1.heap.size w1 w') := ⟨(rfits_any w1 n vd (.slice aw L.length cw) (.slice ao O.length co) l false k (strOfNums B) B.length (size_str B)).mono fun e w' h => ⟨by rw [h.1, HX.out], h.2⟩⟩
  go_upto_region 4 with (first
    | (refine wpList_ldD rfl _ rfl S (rv n vd (.slice aw L.length cw) l false (.slice ao O.length co)) rfl H.out.hB rfl ?_)
    | (go_at_call 44; refine HF.out.mono ?_; rintro e w2 ⟨rfl, hb2⟩; have H2 : Box (Bx S w w2 (rv n vd (.slice aw L.length cw) l false (.slice ao O.length co))) := ⟨H.out.on hb2⟩; clear hb2))
  clear c4 HF
  have c3 : w2.cell? ⟨S, 3, none⟩ = some (.int .i64 l) := H2.out.cell 3
  have f3 := H2.out.froz 3
  go_upto_region 11 with fail
  have H3 : Box (Bx S w (w2.setCell ⟨S, 3, none⟩ (.int .i64 (l - 1))) (rv n vd (.slice aw L.length cw) (l - 1) false (.slice ao O.length co))) := ⟨H2.out.put 3 _⟩
  clear c3 f3
  generalize w2.setCell ⟨S, 3, none⟩ (.int .i64 (l - 1)) = w3 at H3 ⊢
  have c2 : w3.cell? ⟨S, 2, none⟩ = some (.slice aw L.length cw) := H3.out.cell 2
  have HM : Box (Calls Try.prog 45 #[(.slice aw L.length cw), .agg (rc (k, B)).toArray] w3 fun e w' => ∃ v', e = .returned v' ∧ Rw w' v' (L ++ [(k, B)]) ∧ Below w3.heap.size w3 w' ∧ ∀ k, v'.ownBlock = some k → w3.heap.size ≤ k) := ⟨rmore_any w3 _ L (k, B) (H3.out.old HW.out.1) HW.out.2.2.1⟩
  go_upto_region 12 with (go_at_call 45; refine HM.out.mono ?_; rintro e w4 ⟨v4, rfl, r4, b4, o4⟩; obtain ⟨a4, c4, rfl⟩ := own_form2 r4; rw [List.length_append, List.length_singleton] at *; have H4 : Box (Bx S w w4 (rv n vd (.slice aw L.length cw) (l - 1) false (.slice ao O.length co))) := ⟨H3.out.on b4⟩; have R4 : Box (Rw w4 (.slice a4 (L.length + 1) c4) (L ++ [(k, B)]) ∧ ∀ k, (Value.slice a4 (L.length + 1) c4).ownBlock = some k → S + 2 ≤ k) := ⟨r4, fun k hk => by have := o4 k hk; have := H3.out.lt; omega⟩; have q2 : w4.cell? ⟨S, 2, none⟩ = some (.slice aw L.length cw) := H4.out.cell 2; have f2 := H4.out.froz 2; clear r4 b4 o4)
  have H5 : Box (Bx S w (w4.setCell ⟨S, 2, none⟩ (.slice a4 (L.length + 1) c4)) (rv n vd (.slice a4 (L.length + 1) c4) (l - 1) false (.slice ao O.length co))) := ⟨H4.out.put 2 _⟩
  have R5 : Box (Rw (w4.setCell ⟨S, 2, none⟩ (.slice a4 (L.length + 1) c4)) (.slice a4 (L.length + 1) c4) (L ++ [(k, B)])) := ⟨own_new R4.out.1 (turned_set (Turned.refl _ _) (fp := fun k => k = S) rfl _) (fun k e => by omega) R4.out.2⟩
  clear c2 q2 f2 H4
  generalize w4.setCell ⟨S, 2, none⟩ (.slice a4 (L.length + 1) c4) = w5 at H5 R5 ⊢
  have HN : Box (Calls Try.prog 46 #[.agg (rv n vd (.slice a4 (L.length + 1) c4) (l - 1) false (.slice ao O.length co)).toArray, .int .i64 2, .int .i64 (k : Int)] w5 fun e w' => ∃ v', e = .returned (.agg (rv n vd (.slice a4 (L.length + 1) c4) (l - 1) false v').toArray) ∧ Ro w' v' (O ++ [(2, (k : Int))]) ∧ Below w5.heap.size w5 w' ∧ ∀ k, v'.ownBlock = some k → w5.heap.size ≤ k) := ⟨rnoted_any w5 _ _ _ _ _ _ O 2 k H1.out rfl (H5.out.old HW.out.2.1) HW.out.2.2.2⟩
  go_wp2_with (first
    | (refine wpList_ldD rfl _ rfl S (rv n vd (.slice a4 (L.length + 1) c4) (l - 1) false (.slice ao O.length co)) rfl H5.out.hB rfl ?_)
    | (go_at_call 46; refine HN.out.mono ?_; rintro e w6 ⟨v6, rfl, r6, b6, o6⟩; have H6 : Box (Bx S w w6 (rv n vd (.slice a4 (L.length + 1) c4) (l - 1) false (.slice ao O.length co))) := ⟨H5.out.on b6⟩; have R6 : Box (Rw w6 (.slice a4 (L.length + 1) c4) (L ++ [(k, B)]) ∧ Ro w6 v6 (O ++ [(2, (k : Int))]) ∧ ∀ k, v6.ownBlock = some k → S + 2 ≤ k) := ⟨R5.out.below b6, r6, fun k hk => by have := o6 k hk; have := H5.out.lt; omega⟩; clear r6 b6 o6)
    | (refine wpList_stD rfl _ _ rfl S w _ (rv n vd (.slice a4 (L.length + 1) c4) (l - 1) false v6) rfl rfl H6.out rfl (one_rv H1.out rfl (one_own R6.out.2.1)) ?_; intro w7 h7 b7 t7))
  (try simp only [Exit.inBlock, Exit.then])
  refine bodyPost_ret (results_D2 rfl _ _ (S + 1) _ rfl rfl h7) rfl ?_
  exact ⟨_, _, rfl, HS.out ▸ b7.below, own_new R6.out.1 t7 (fun k e => by omega) R4.out.2, own_new R6.out.2.1 t7 (fun k e => by omega) R6.out.2.2⟩
set_option maxRecDepth 20000 in
set_option maxHeartbeats 2000000 in
theorem rwrite_on (w : World) (n : Nat) (vd vw vo : Value) (l : Int) (L : List (Nat × List Int)) (O : List (Int × Int)) (hd : vd.oneCell' = true) (hw : Rw w vw L) (ho : Ro w vo O) (hL : L.length < 1000000) (hO : O.length < 1000000) (k : Nat) (B : List Int) (hx : rfit n (k : Int) B.length = 0) (hl : l < 0) :
    Calls Try.prog 28 #[.agg (rv n vd vw l false vo).toArray, .int .i64 (k : Int), .string (strOfNums B)] w fun e w' => ∃ vw' vo', e = .returned (.tuple #[.agg (rv n vd vw' l false vo').toArray, .int .i64 0]) ∧ Below w.heap.size w w' ∧ Rw w' vw' (L ++ [(k, B)]) ∧ Ro w' vo' (O ++ [(2, (k : Int))]) := by
  have HX : Box (rfit n (k : Int) B.length = 0) := ⟨hx⟩
  have HW : Box (Rw w vw L ∧ Ro w vo O ∧ L.length < 1000000 ∧ O.length < 1000000) := ⟨hw, ho, hL, hO⟩
  have H1 : Box (vd.oneCell' = true) := ⟨hd⟩
  have d0 : (l == 0) = false := by simp; omega
  have d1 : decide (0 < l) = false := by simp; omega
  clear hl
  clear hx hL hO hd
  obtain ⟨aw, cw, rfl⟩ := own_form2 hw
  obtain ⟨ao, co, rfl⟩ := own_form2 ho
  clear hw ho
  have H : Box (Bx w.heap.size w ((w.alloc (.cells (rv n vd (.slice aw L.length cw) l false (.slice ao O.length co)).toArray 31)).alloc (.cells #[.int .i64 0, .slice none 0 0, .slice none 0 0, .int .i64 0, .bool false, .slice none 0 0] 31)) (rv n vd (.slice aw L.length cw) l false (.slice ao O.length co))) := ⟨Bx.start w _ _ rfl⟩
  obtain ⟨S, HS⟩ : ∃ S, Box (w.heap.size = S) := ⟨_, ⟨rfl⟩⟩
  go_enter Try.func28, Try.ntmps28
  go_upto_region 1 with fail
  rw [HS.out] at H ⊢
  generalize (w.alloc (.cells (rv n vd (.slice aw L.length cw) l false (.slice ao O.length co)).toArray 31)).alloc (.cells #[.int .i64 0, .slice none 0 0, .slice none 0 0, .int .i64 0, .bool false, .slice none 0 0] 31) = w1 at H ⊢
  have c4 : w1.cell? ⟨S, 4, none⟩ = some (.bool false) := H.out.cell 4
  have HF : Box (Calls Try.prog 44 #[.agg (rv n vd (.slice aw L.length cw) l false (.slice ao O.length co)).toArray, .int .i64 (k : Int), .string (strOfNums B)] w1 fun e w' => e = .returned (.int .i64 0) ∧ Below w1.heap.size w1 w') := ⟨(rfits_any w1 n vd (.slice aw L.length cw) (.slice ao O.length co) l false k (strOfNums B) B.length (size_str B)).mono fun e w' h => ⟨by rw [h.1, HX.out], h.2⟩⟩
  go_upto_region 4 with (first
    | (refine wpList_ldD rfl _ rfl S (rv n vd (.slice aw L.length cw) l false (.slice ao O.length co)) rfl H.out.hB rfl ?_)
    | (go_at_call 44; refine HF.out.mono ?_; rintro e w2 ⟨rfl, hb2⟩; have H2 : Box (Bx S w w2 (rv n vd (.slice aw L.length cw) l false (.slice ao O.length co))) := ⟨H.out.on hb2⟩; clear hb2))
  clear c4 HF
  have c3 : w2.cell? ⟨S, 3, none⟩ = some (.int .i64 l) := H2.out.cell 3
  have f3 := H2.out.froz 3
  go_upto_region 11 with fail
  have H3 : Box (Bx S w w2 (rv n vd (.slice aw L.length cw) l false (.slice ao O.length co))) := ⟨H2.out⟩
  clear c3 f3 H2
  generalize w2 = w3 at H3 ⊢
  have c2 : w3.cell? ⟨S, 2, none⟩ = some (.slice aw L.length cw) := H3.out.cell 2
  have HM : Box (Calls Try.prog 45 #[(.slice aw L.length cw), .agg (rc (k, B)).toArray] w3 fun e w' => ∃ v', e = .returned v' ∧ Rw w' v' (L ++ [(k, B)]) ∧ Below w3.heap.size w3 w' ∧ ∀ k, v'.ownBlock = some k → w3.heap.size ≤ k) := ⟨rmore_any w3 _ L (k, B) (H3.out.old HW.out.1) HW.out.2.2.1⟩
  go_upto_region 12 with (go_at_call 45; refine HM.out.mono ?_; rintro e w4 ⟨v4, rfl, r4, b4, o4⟩; obtain ⟨a4, c4, rfl⟩ := own_form2 r4; rw [List.length_append, List.length_singleton] at *; have H4 : Box (Bx S w w4 (rv n vd (.slice aw L.length cw) l false (.slice ao O.length co))) := ⟨H3.out.on b4⟩; have R4 : Box (Rw w4 (.slice a4 (L.length + 1) c4) (L ++ [(k, B)]) ∧ ∀ k, (Value.slice a4 (L.length + 1) c4).ownBlock = some k → S + 2 ≤ k) := ⟨r4, fun k hk => by have := o4 k hk; have := H3.out.lt; omega⟩; have q2 : w4.cell? ⟨S, 2, none⟩ = some (.slice aw L.length cw) := H4.out.cell 2; have f2 := H4.out.froz 2; clear r4 b4 o4)
  have H5 : Box (Bx S w (w4.setCell ⟨S, 2, none⟩ (.slice a4 (L.length + 1) c4)) (rv n vd (.slice a4 (L.length + 1) c4) l false (.slice ao O.length co))) := ⟨H4.out.put 2 _⟩
  have R5 : Box (Rw (w4.setCell ⟨S, 2, none⟩ (.slice a4 (L.length + 1) c4)) (.slice a4 (L.length + 1) c4) (L ++ [(k, B)])) := ⟨own_new R4.out.1 (turned_set (Turned.refl _ _) (fp := fun k => k = S) rfl _) (fun k e => by omega) R4.out.2⟩
  clear c2 q2 f2 H4
  generalize w4.setCell ⟨S, 2, none⟩ (.slice a4 (L.length + 1) c4) = w5 at H5 R5 ⊢
  have HN : Box (Calls Try.prog 46 #[.agg (rv n vd (.slice a4 (L.length + 1) c4) l false (.slice ao O.length co)).toArray, .int .i64 2, .int .i64 (k : Int)] w5 fun e w' => ∃ v', e = .returned (.agg (rv n vd (.slice a4 (L.length + 1) c4) l false v').toArray) ∧ Ro w' v' (O ++ [(2, (k : Int))]) ∧ Below w5.heap.size w5 w' ∧ ∀ k, v'.ownBlock = some k → w5.heap.size ≤ k) := ⟨rnoted_any w5 _ _ _ _ _ _ O 2 k H1.out rfl (H5.out.old HW.out.2.1) HW.out.2.2.2⟩
  go_wp2_with (first
    | (refine wpList_ldD rfl _ rfl S (rv n vd (.slice a4 (L.length + 1) c4) l false (.slice ao O.length co)) rfl H5.out.hB rfl ?_)
    | (go_at_call 46; refine HN.out.mono ?_; rintro e w6 ⟨v6, rfl, r6, b6, o6⟩; have H6 : Box (Bx S w w6 (rv n vd (.slice a4 (L.length + 1) c4) l false (.slice ao O.length co))) := ⟨H5.out.on b6⟩; have R6 : Box (Rw w6 (.slice a4 (L.length + 1) c4) (L ++ [(k, B)]) ∧ Ro w6 v6 (O ++ [(2, (k : Int))]) ∧ ∀ k, v6.ownBlock = some k → S + 2 ≤ k) := ⟨R5.out.below b6, r6, fun k hk => by have := o6 k hk; have := H5.out.lt; omega⟩; clear r6 b6 o6)
    | (refine wpList_stD rfl _ _ rfl S w _ (rv n vd (.slice a4 (L.length + 1) c4) l false v6) rfl rfl H6.out rfl (one_rv H1.out rfl (one_own R6.out.2.1)) ?_; intro w7 h7 b7 t7))
  (try simp only [Exit.inBlock, Exit.then])
  refine bodyPost_ret (results_D2 rfl _ _ (S + 1) _ rfl rfl h7) rfl ?_
  exact ⟨_, _, rfl, HS.out ▸ b7.below, own_new R6.out.1 t7 (fun k e => by omega) R4.out.2, own_new R6.out.2.1 t7 (fun k e => by omega) R6.out.2.2⟩
set_option maxRecDepth 20000 in
set_option maxHeartbeats 2000000 in
theorem rread_down (w : World) (n : Nat) (vd vw vo : Value) (l : Int) (hd : vd.oneCell' = true) (hw : vw.oneCell' = true) (ho : vo.oneCell' = true) (i : Int) :
    Calls Try.prog 29 #[.agg (rv n vd vw l true vo).toArray, .int .i64 i] w fun e w' => e = .returned (.tuple #[.agg (rv n vd vw l true vo).toArray, .string ByteArray.empty, .int .i64 13]) ∧ Below w.heap.size w w' := by
  have H1 : Box (vd.oneCell' = true ∧ vw.oneCell' = true ∧ vo.oneCell' = true) := ⟨hd, hw, ho⟩
  clear hd hw ho
  have H : Box (Bx w.heap.size w ((w.alloc (.cells (rv n vd vw l true vo).toArray 31)).alloc (.cells #[.int .i64 0, .slice none 0 0, .slice none 0 0, .int .i64 0, .bool false, .slice none 0 0] 31)) (rv n vd vw l true vo)) := ⟨Bx.start w _ _ rfl⟩
  obtain ⟨S, HS⟩ : ∃ S, Box (w.heap.size = S) := ⟨_, ⟨rfl⟩⟩
  go_enter Try.func29, Try.ntmps29
  go_upto_region 1 with fail
  rw [HS.out] at H ⊢
  generalize (w.alloc (.cells (rv n vd vw l true vo).toArray 31)).alloc (.cells #[.int .i64 0, .slice none 0 0, .slice none 0 0, .int .i64 0, .bool false, .slice none 0 0] 31) = w1 at H ⊢
  have c4 : w1.cell? ⟨S, 4, none⟩ = some (.bool true) := H.out.cell 4
  go_wp2_with (first
    | (refine wpList_ldD rfl _ rfl S (rv n vd vw l true vo) rfl H.out.hB rfl ?_)
    | (refine wpList_stD rfl _ _ rfl S w _ (rv n vd vw l true vo) rfl rfl H.out rfl (one_rv H1.out.1 H1.out.2.1 H1.out.2.2) ?_; intro w5 h5 b5 t5))
  (try simp only [Exit.inBlock, Exit.then])
  refine bodyPost_ret (results_D3 rfl _ _ (S + 1) _ rfl rfl h5) rfl ?_
  exact ⟨rfl, HS.out ▸ b5.below⟩
set_option maxRecDepth 20000 in
set_option maxHeartbeats 2000000 in
theorem rread_no (w : World) (n : Nat) (vd vw vo : Value) (l : Int) (hd : vd.oneCell' = true) (hw : vw.oneCell' = true) (ho : vo.oneCell' = true) (i : Int) (hi : decide (0 ≤ i ∧ i < (n : Int)) = false) :
    Calls Try.prog 29 #[.agg (rv n vd vw l false vo).toArray, .int .i64 i] w fun e w' => e = .returned (.tuple #[.agg (rv n vd vw l false vo).toArray, .string ByteArray.empty, .int .i64 12]) ∧ Below w.heap.size w w' := by
  have H1 : Box (vd.oneCell' = true ∧ vw.oneCell' = true ∧ vo.oneCell' = true) := ⟨hd, hw, ho⟩
  clear hd hw ho
  have H : Box (Bx w.heap.size w ((w.alloc (.cells (rv n vd vw l false vo).toArray 31)).alloc (.cells #[.int .i64 0, .slice none 0 0, .slice none 0 0, .int .i64 0, .bool false, .slice none 0 0] 31)) (rv n vd vw l false vo)) := ⟨Bx.start w _ _ rfl⟩
  obtain ⟨S, HS⟩ : ∃ S, Box (w.heap.size = S) := ⟨_, ⟨rfl⟩⟩
  go_enter Try.func29, Try.ntmps29
  go_upto_region 1 with fail
  rw [HS.out] at H ⊢
  generalize (w.alloc (.cells (rv n vd vw l false vo).toArray 31)).alloc (.cells #[.int .i64 0, .slice none 0 0, .slice none 0 0, .int .i64 0, .bool false, .slice none 0 0] 31) = w1 at H ⊢
  have c4 : w1.cell? ⟨S, 4, none⟩ = some (.bool false) := H.out.cell 4
  have c0 : w1.cell? ⟨S, 0, none⟩ = some (.int .i64 (n : Int)) := H.out.cell 0
  by_cases h0 : 0 ≤ i
  · have d0 : decide (i < 0) = false := by simpa using h0
    have d1 : decide ((n : Int) ≤ i) = true := by simp at hi ⊢; omega
    clear hi
    go_wp2_with (first
      | (refine wpList_ldD rfl _ rfl S (rv n vd vw l false vo) rfl H.out.hB rfl ?_)
      | (refine wpList_stD rfl _ _ rfl S w _ (rv n vd vw l false vo) rfl rfl H.out rfl (one_rv H1.out.1 H1.out.2.1 H1.out.2.2) ?_; intro w5 h5 b5 t5))
    (try simp only [Exit.inBlock, Exit.then])
    refine bodyPost_ret (results_D3 rfl _ _ (S + 1) _ rfl rfl h5) rfl ?_
    exact ⟨rfl, HS.out ▸ b5.below⟩
  · have d0 : decide (i < 0) = true := by simp; omega
    clear hi
    go_wp2_with (first
      | (refine wpList_ldD rfl _ rfl S (rv n vd vw l false vo) rfl H.out.hB rfl ?_)
      | (refine wpList_stD rfl _ _ rfl S w _ (rv n vd vw l false vo) rfl rfl H.out rfl (one_rv H1.out.1 H1.out.2.1 H1.out.2.2) ?_; intro w5 h5 b5 t5))
    (try simp only [Exit.inBlock, Exit.then])
    refine bodyPost_ret (results_D3 rfl _ _ (S + 1) _ rfl rfl h5) rfl ?_
    exact ⟨rfl, HS.out ▸ b5.below⟩
/-- What a place would hold if all under way were done. -/
def rlat (Ld L : List (Nat × List Int)) (k : Nat) : List Int := (lastOf L k).getD (rat Ld k)
set_option maxRecDepth 20000 in
set_option maxHeartbeats 2000000 in
theorem rread_ok (w : World) (n : Nat) (vd vw vo : Value) (l : Int) (Ld L : List (Nat × List Int)) (O : List (Int × Int)) (hd : Rw w vd Ld) (hw : Rw w vw L) (ho : Ro w vo O) (hLd : Ld.length < 1000000) (hL : L.length < 1000000) (hO : O.length < 1000000) (k : Nat) (hk : k < n) :
    Calls Try.prog 29 #[.agg (rv n vd vw l false vo).toArray, .int .i64 (k : Int)] w fun e w' => ∃ vo', e = .returned (.tuple #[.agg (rv n vd vw l false vo').toArray, .string (strOfNums (rlat Ld L k)), .int .i64 0]) ∧ Below w.heap.size w w' ∧ Ro w' vo' (O ++ [(1, (k : Int))]) := by
  have HW : Box (Rw w vw L ∧ Ro w vo O ∧ L.length < 1000000 ∧ O.length < 1000000 ∧ Rw w vd Ld ∧ Ld.length < 1000000) := ⟨hw, ho, hL, hO, hd, hLd⟩
  have d0 : decide ((k : Int) < 0) = false := by simp
  have d1 : decide ((n : Int) ≤ (k : Int)) = false := by simp; omega
  have d2 : decide (n ≤ k) = false := by simp; omega
  clear hk hLd hL hO
  obtain ⟨ad, cd, rfl⟩ := own_form2 hd
  obtain ⟨aw, cw, rfl⟩ := own_form2 hw
  obtain ⟨ao, co, rfl⟩ := own_form2 ho
  clear hd hw ho
  have H : Box (Bx w.heap.size w ((w.alloc (.cells (rv n (.slice ad Ld.length cd) (.slice aw L.length cw) l false (.slice ao O.length co)).toArray 31)).alloc (.cells #[.int .i64 0, .slice none 0 0, .slice none 0 0, .int .i64 0, .bool false, .slice none 0 0] 31)) (rv n (.slice ad Ld.length cd) (.slice aw L.length cw) l false (.slice ao O.length co))) := ⟨Bx.start w _ _ rfl⟩
  obtain ⟨S, HS⟩ : ∃ S, Box (w.heap.size = S) := ⟨_, ⟨rfl⟩⟩
  go_enter Try.func29, Try.ntmps29
  go_upto_region 1 with fail
  rw [HS.out] at H ⊢
  generalize (w.alloc (.cells (rv n (.slice ad Ld.length cd) (.slice aw L.length cw) l false (.slice ao O.length co)).toArray 31)).alloc (.cells #[.int .i64 0, .slice none 0 0, .slice none 0 0, .int .i64 0, .bool false, .slice none 0 0] 31) = w1 at H ⊢
  have c4 : w1.cell? ⟨S, 4, none⟩ = some (.bool false) := H.out.cell 4
  have c0 : w1.cell? ⟨S, 0, none⟩ = some (.int .i64 (n : Int)) := H.out.cell 0
  have c2 : w1.cell? ⟨S, 2, none⟩ = some (.slice aw L.length cw) := H.out.cell 2
  have HL : Box (Calls Try.prog 47 #[(.slice aw L.length cw), .int .i64 (k : Int)] w1 fun e w' => e = .returned (lst L k) ∧ w1 = w') := ⟨rlast_any w1 _ L k (H.out.old HW.out.1) HW.out.2.2.1⟩
  cases hlo : lastOf L k with
  | some B =>
    have e1 : Box (lst L k = .tuple #[.string (strOfNums B), .bool true] ∧ rlat Ld L k = B) := ⟨by rw [lst, hlo], by rw [rlat, hlo]; rfl⟩
    rw [e1.out.1] at HL
    clear hlo
    have HN : Box (Calls Try.prog 46 #[.agg (rv n (.slice ad Ld.length cd) (.slice aw L.length cw) l false (.slice ao O.length co)).toArray, .int .i64 1, .int .i64 (k : Int)] w1 fun e w' => ∃ v', e = .returned (.agg (rv n (.slice ad Ld.length cd) (.slice aw L.length cw) l false v').toArray) ∧ Ro w' v' (O ++ [(1, (k : Int))]) ∧ Below w1.heap.size w1 w' ∧ ∀ k, v'.ownBlock = some k → w1.heap.size ≤ k) := ⟨rnoted_any w1 _ _ _ _ _ _ O 1 k rfl rfl (H.out.old HW.out.2.1) HW.out.2.2.2.1⟩
    go_wp2_with (first
      | (go_at_call 47; refine HL.out.mono ?_; rintro e w' ⟨rfl, rfl⟩)
      | (refine wpList_ldD rfl _ rfl S (rv n (.slice ad Ld.length cd) (.slice aw L.length cw) l false (.slice ao O.length co)) rfl H.out.hB rfl ?_)
      | (go_at_call 46; refine HN.out.mono ?_; rintro e w6 ⟨v6, rfl, r6, b6, o6⟩; have H6 : Box (Bx S w w6 (rv n (.slice ad Ld.length cd) (.slice aw L.length cw) l false (.slice ao O.length co))) := ⟨H.out.on b6⟩; have R6 : Box (Ro w6 v6 (O ++ [(1, (k : Int))]) ∧ ∀ k, v6.ownBlock = some k → S + 2 ≤ k) := ⟨r6, fun k hk => by have := o6 k hk; have := H.out.lt; omega⟩; clear r6 b6 o6)
      | (refine wpList_stD rfl _ _ rfl S w _ (rv n (.slice ad Ld.length cd) (.slice aw L.length cw) l false v6) rfl rfl H6.out rfl (one_rv rfl rfl (one_own R6.out.1)) ?_; intro w7 h7 b7 t7))
    (try simp only [Exit.inBlock, Exit.then])
    refine bodyPost_ret (results_D3 rfl _ _ (S + 1) _ rfl rfl h7) rfl ?_
    exact ⟨_, by rw [e1.out.2]; rfl, HS.out ▸ b7.below, own_new R6.out.1 t7 (fun k e => by omega) R6.out.2⟩
  | none =>
    have e1 : Box (lst L k = .tuple #[.string ByteArray.empty, .bool false] ∧ rlat Ld L k = rat Ld k) := ⟨by rw [lst, hlo], by rw [rlat, hlo]; rfl⟩
    rw [e1.out.1] at HL
    clear hlo
    have HA : Box (Calls Try.prog 35 #[.agg (rv n (.slice ad Ld.length cd) (.slice aw L.length cw) l false (.slice ao O.length co)).toArray, .int .i64 (k : Int)] w1 fun e w' => e = .returned (.string (strOfNums (rat Ld k))) ∧ Below w1.heap.size w1 w') := ⟨rat_any w1 _ _ _ _ _ _ Ld k (H.out.old HW.out.2.2.2.2.1) HW.out.2.2.2.2.2⟩
    go_upto_region 8 with (first
      | (go_at_call 47; refine HL.out.mono ?_; rintro e w' ⟨rfl, rfl⟩)
      | (refine wpList_ldD rfl _ rfl S (rv n (.slice ad Ld.length cd) (.slice aw L.length cw) l false (.slice ao O.length co)) rfl H.out.hB rfl ?_)
      | (go_at_call 35; refine HA.out.mono ?_; rintro e w2 ⟨rfl, b2⟩; have H2 : Box (Bx S w w2 (rv n (.slice ad Ld.length cd) (.slice aw L.length cw) l false (.slice ao O.length co))) := ⟨H.out.on b2⟩; clear b2))
    have HN : Box (Calls Try.prog 46 #[.agg (rv n (.slice ad Ld.length cd) (.slice aw L.length cw) l false (.slice ao O.length co)).toArray, .int .i64 1, .int .i64 (k : Int)] w2 fun e w' => ∃ v', e = .returned (.agg (rv n (.slice ad Ld.length cd) (.slice aw L.length cw) l false v').toArray) ∧ Ro w' v' (O ++ [(1, (k : Int))]) ∧ Below w2.heap.size w2 w' ∧ ∀ k, v'.ownBlock = some k → w2.heap.size ≤ k) := ⟨rnoted_any w2 _ _ _ _ _ _ O 1 k rfl rfl (H2.out.old HW.out.2.1) HW.out.2.2.2.1⟩
    clear c4 c0 c2 HL HA
    go_wp2_with (first
      | (refine wpList_ldD rfl _ rfl S (rv n (.slice ad Ld.length cd) (.slice aw L.length cw) l false (.slice ao O.length co)) rfl H2.out.hB rfl ?_)
      | (go_at_call 46; refine HN.out.mono ?_; rintro e w6 ⟨v6, rfl, r6, b6, o6⟩; have H6 : Box (Bx S w w6 (rv n (.slice ad Ld.length cd) (.slice aw L.length cw) l false (.slice ao O.length co))) := ⟨H2.out.on b6⟩; have R6 : Box (Ro w6 v6 (O ++ [(1, (k : Int))]) ∧ ∀ k, v6.ownBlock = some k → S + 2 ≤ k) := ⟨r6, fun k hk => by have := o6 k hk; have := H2.out.lt; omega⟩; clear r6 b6 o6)
      | (refine wpList_stD rfl _ _ rfl S w _ (rv n (.slice ad Ld.length cd) (.slice aw L.length cw) l false v6) rfl rfl H6.out rfl (one_rv rfl rfl (one_own R6.out.1)) ?_; intro w7 h7 b7 t7))
    (try simp only [Exit.inBlock, Exit.then])
    refine bodyPost_ret (results_D3 rfl _ _ (S + 1) _ rfl rfl h7) rfl ?_
    exact ⟨_, by rw [e1.out.2]; rfl, HS.out ▸ b7.below, own_new R6.out.1 t7 (fun k e => by omega) R6.out.2⟩
end Go.Proofs.Ytlokhbkjkobmaaa
