/-
  RecordChanges: the records of any change, and the changes of any records, are the document's, or refused.
-/
import Derived.Test.YtgdjdlakndajgaaRI
namespace Go.Proofs.Ytgdjdlakndajgaa
set_option linter.unusedVariables false
open Go.RowKit Plain

theorem ig_bl2 {w w' : World} {M : List Im} {short : Bool} {v : Value} {X : List Im} (h : Ig w w' short M M.length v X) : ∀ i (hi : i < X.length), X[i].bl = szP short i ∧ X[i].bs.length = szP short i := by
  intro i hi
  have ho := (h.im.byt _ (List.getElem_mem hi)).own.1
  have hp := h.pls
  rw [List.take_of_length_le (by rw [len_imgP]; simp)] at hp
  have hM : i < M.length := by rw [← h.len]; exact hi
  have e : (X.map pl)[i]'(by simpa using hi) = (imgP short (M.map pl))[i]'(by rw [len_imgP]; simpa using hM) := by simp only [hp]
  rw [get_imgP short (M.map pl) i (by simpa using hM)] at e
  simp only [List.getElem_map, pl, Prod.mk.injEq] at e
  rw [List.length_map, e.2, length_padTo] at ho
  exact ⟨by omega, by rw [e.2, length_padTo]⟩
theorem szP_le (short : Bool) (i : Nat) : szP short i ≤ 160 := by unfold szP; split <;> omega
theorem szP_ok (short : Bool) (n i : Nat) (h : short = true → n < 2) (hi : i < n) : szP short i = 160 := by
  unfold szP
  rw [if_neg]
  rintro ⟨h1, h2⟩
  have := h h1
  omega
theorem len_zip (X : List Im) (K : List Bool) : (zipR X K).length ≤ X.length ∧ (zipR X K).length ≤ K.length ∧ ((zipR X K).length = X.length ∨ (zipR X K).length = K.length) := by
  simp [zipR]
  omega
theorem len_ch (L : List ((Int × List Int) × Bool)) : (chS L).1.length ≤ L.length := by
  have h2 : ∀ (L : List ((Int × List Int) × Bool)) (s : List (List (Int × List Int)) × List (Int × List Int)), (L.foldl chSt s).1.length ≤ s.1.length + L.length := by
    intro L
    induction L with
    | nil => intro s; simp
    | cons x L ih =>
      intro s
      have := ih (chSt s x)
      have h3 : (chSt s x).1.length ≤ s.1.length + 1 := by unfold chSt; split <;> simp
      simp only [List.foldl_cons, List.length_cons]
      omega
  have := h2 L ([], [])
  simpa [chS] using this
set_option maxRecDepth 20000 in
set_option maxHeartbeats 8000000 in
theorem recordChanges_e (a : Option Addr) (cap : Nat) (M : List Im) (ka : Option Addr) (kl kc : Nat) (K : List Bool) (short : Bool) (w : World) (h : Imgs w a M) (hK : Bools w ka kl K) (hn20 : M.length ≤ 20) (hkm : kl ≤ maxLen) (hcase : M.length = 0 ∨ (short = true ∧ 2 ≤ M.length)) :
    Calls Try.prog 4 #[.slice a M.length cap, .slice ka kl kc, .bool short] w fun e w' => e = .returned (.bool true) ∧ Below w.heap.size w w' := by
  unfold maxLen at hkm
  obtain ⟨n, hn⟩ : ∃ n, M.length = n := ⟨_, rfl⟩
  rw [hn] at hn20 hcase ⊢
  have HM : Box (∀ x, Below w.heap.size w x → Imgs x a M ∧ Bools x ka kl K) := ⟨fun x hx => ⟨h.below hx, hK.below hx⟩⟩
  have HN : Box (M.length = n ∧ K.length = kl) := ⟨hn, hK.1⟩
  have HCS : Box (n = 0 ∨ (short = true ∧ 2 ≤ n)) := ⟨hcase⟩
  have hg1 : ¬ (20 : Int) < (n : Int) := by omega
  clear h hK hn hcase
  go_enter Try.func4, Try.ntmps4
  go_upto_region 6 with (go_at_call 8; refine (awake_any _).mono ?_; rintro e x1 ⟨rfl, hb⟩; have H1 : Box (Below w.heap.size w x1) := ⟨hb⟩; clear hb)
  have HIM : Box (Calls Try.prog 9 #[.slice a n cap, .bool short] x1 fun e w' => ∃ v X, e = .returned v ∧ Ig x1 w' short M M.length v X) := ⟨by have := images_any a cap M short x1 (HM.out x1 H1.out).1 (by have := HN.out.1; omega); rw [HN.out.1] at this ⊢; exact this⟩
  go_upto_region 7 with (go_at_call 9; refine HIM.out.mono ?_; rintro e x2 ⟨v, X, rfl, hI⟩; obtain ⟨xa, xc, hv, hXi, hXo⟩ := ig_len hI; have H2 : Box (Below w.heap.size w x2 ∧ X.length = n ∧ Imgs x2 xa X ∧ (∀ m ∈ X, OIm x2 x1.heap.size m) ∧ ∀ i (hi : i < X.length), X[i].bl = szP short i ∧ X[i].bs.length = szP short i) := ⟨below_to H1.out hI.bel, by rw [hI.len]; exact HN.out.1, hXi, hXo, ig_bl2 hI⟩; rw [HN.out.1] at hv; subst hv; clear hI hXi hXo)
  clear HIM hg1
  have HBL : Box (∀ m ∈ X, m.bl ≤ 160) := ⟨fun m hm => by
    obtain ⟨i, hi, rfl⟩ := List.getElem_of_mem hm
    rw [(H2.out.2.2.2.2 i hi).1]
    exact szP_le _ _⟩
  have HOF : Box (Calls Try.prog 15 #[.slice xa n xc] x2 fun e w' => e = .returned (.tuple #[.slice none 0 0, .int .i64 1]) ∧ Below x2.heap.size x2 w') := ⟨by
    rcases HCS.out with hc | ⟨hc1, hc2⟩
    · exact (of_zero xa n xc ⟨hc⟩ x2).mono fun e w' ⟨h1, h2⟩ => ⟨h1, h2 ▸ Below.refl _ _⟩
    · have e := H2.out.2.1
      have h1 : 1 < X.length := by omega
      have := of_bad xa xc X x2 H2.out.2.2.1 (by omega) (by omega) ⟨X[1], List.getElem_mem h1, by rw [(H2.out.2.2.2.2 1 h1).1]; simp [szP, hc1]⟩ (fun m hm => by have := HBL.out m hm; omega)
      rw [e] at this
      exact this⟩
  go_upto_region 8 with (go_at_call 15; refine HOF.out.mono ?_; rintro e x3 ⟨rfl, h5⟩; have H3 : Box (Below x2.heap.size x2 x3 ∧ True) := ⟨h5, trivial⟩; clear h5)
  clear HOF
  have HMO : Box (Calls Try.prog 17 #[.slice xa n xc] x3 fun e w' => ∃ a' c', e = .returned (.slice a' n c') ∧ Tb w' a' 2 ic (X.map pl) ∧ Below x3.heap.size x3 w') := ⟨by
    have e := H2.out.2.1
    have := modelOf_any xa xc X x3 (H2.out.2.2.1.below H3.out.1) (by omega)
    rw [e] at this
    refine this.mono fun ee w' ⟨v, h1, h2⟩ => ?_
    have hrow := h2.row
    rw [List.take_of_length_le (by rw [List.length_map, e]; exact Nat.le_refl _)] at hrow
    obtain ⟨a', c', rfl⟩ := own_form2 hrow
    exact ⟨a', c', h1, own_tb (f := ic) (fun _ => rfl) hrow (by rw [List.length_map, e]), h2.bel⟩⟩
  have HRO : Box (∀ x a' c', Tb x a' 2 ic (X.map pl) → Calls Try.prog 16 #[.slice a' n c'] x fun e w' => e = .returned (.tuple #[.slice none 0 0, .int .i64 1]) ∧ Below x.heap.size x w') := ⟨fun x a' c' hT => by
    have e := H2.out.2.1
    have el : (X.map pl).length = n := by rw [List.length_map, e]
    rcases HCS.out with hc | ⟨hc1, hc2⟩
    · exact rof_zero a' n c' ⟨hc⟩ x
    · have h1 : 1 < X.length := by omega
      have := rof_bad a' c' (X.map pl) x hT (by omega) (by omega) ⟨pl X[1], List.mem_map_of_mem (List.getElem_mem h1), by show X[1].bs.length ≠ 160; rw [(H2.out.2.2.2.2 1 h1).2]; simp [szP, hc1]⟩
      rw [el] at this
      exact this⟩
  go_upto_region 9 with (first
    | (go_at_call 17; refine HMO.out.mono ?_; rintro e x4 ⟨ma, mc, rfl, hT, hb⟩; have H4 : Box (Tb x4 ma 2 ic (X.map pl) ∧ Below x3.heap.size x3 x4) := ⟨hT, hb⟩; clear hT hb)
    | (go_at_call 16; refine (HRO.out x4 ma mc H4.out.1).mono ?_; rintro e x5 ⟨rfl, hb⟩; have H5 : Box (Below x3.heap.size x3 x5) := ⟨below_to H4.out.2 hb⟩; clear hb))
  clear HMO HRO
  go_upto_region 11 with fail
  go_wp2
  go_loopw [13] (fun i wr => i = .int .i64 0 ∧ Box (x5 = wr)) (fun _ _ => 0)
  case atStart => exact ⟨rfl, ⟨rfl⟩⟩
  case round =>
    obtain ⟨rfl, HQ⟩ := hrel
    have HB5 : Box (Below x2.heap.size x2 wr) := ⟨by rw [← HQ.out]; exact below_to H3.out.1 H5.out⟩
    obtain ⟨xB, hxB⟩ : ∃ x, x = wr := ⟨_, rfl⟩
    have HB : Box (Below x2.heap.size x2 xB) := ⟨by rw [hxB]; exact HB5.out⟩
    have HB0 : Box (Below xB.heap.size xB wr) := ⟨by rw [hxB]; exact Below.refl _ _⟩
    clear hxB HB5
    obtain ⟨RR, hRR⟩ : ∃ RR, zipR X K = RR := ⟨_, rfl⟩
    obtain ⟨q, hq⟩ : ∃ q, RR.length = q := ⟨_, rfl⟩
    have HRR : Box (RR.length = q ∧ q ≤ n ∧ q ≤ kl ∧ (q = n ∨ q = kl) ∧ ∀ i (h1 : i < RR.length) (h2 : i < X.length), RR[i] = ⟨X[i], K.getD i false⟩) := ⟨hq, by
      have h1 := len_zip X K
      rw [hRR, hq, H2.out.2.1, HN.out.2] at h1
      exact ⟨h1.1, h1.2.1, h1.2.2, fun i h1 h2 => by subst hRR; exact get_zipR X K i h1 h2⟩⟩
    obtain ⟨L, hL⟩ : ∃ L, RR.map rpl = L := ⟨_, rfl⟩
    have HL : Box (RR.map rpl = L ∧ L.length = q) := ⟨hL, by rw [← hL, List.length_map]; exact HRR.out.1⟩
    clear hRR hL hq
    go_wp2
    go_loopw [14, 15, 16] (fun v u i wr => ∃ k : Nat, k ≤ q ∧ i = .int .i64 (k : Int) ∧ Box (Gr xB wr RR k v u)) (fun _ _ i _ => q - (intOf i).toNat)
    case atStart => exact ⟨0, Nat.zero_le _, rfl, ⟨⟨World.ownsRow_nil _ _ _ _, World.ownsRow_nil _ _ _ _, HB0.out⟩⟩⟩
    case round =>
      obtain ⟨k, hk, rfl, HG⟩ := hrel
      by_cases hlt : k < q
      · have hlt1 : decide ((k : Int) < (n : Int)) = true := by simp; have := HRR.out.2.1; omega
        have hlt2 : decide ((k : Int) < (kl : Int)) = true := by simp; have := HRR.out.2.2.1; omega
        have hltn : k < n := by have := HRR.out.2.1; omega
        have hltk : k < kl := by have := HRR.out.2.2.1; omega
        have hkX : k < X.length := by rw [H2.out.2.1]; exact hltn
        have hkR : k < RR.length := by rw [HRR.out.1]; exact hlt
        obtain ⟨b, o, hae, hbl, hr⟩ := (H2.out.2.2.1).tb (by omega)
        subst hae
        obtain ⟨bk, ok, hke, hkb, hkc⟩ := (HM.out w (Below.refl _ _)).2.2 (by omega)
        subst hke
        have hr1 := hr k hkX
        have hox := H2.out.2.2.2.1 X[k] (List.getElem_mem hkX)
        have hck := hkc k (by omega)
        have hRk := HRR.out.2.2.2.2 k hkR hkX
        have HONE : Box (∀ wd w' v', Below wr.heap.size wr wd → w'.ownsRow xB.heap.size 30 3 v' (k + 1) (((RR.take k).map rcc).flatten ++ rcc ⟨X[k], K.getD k false⟩) → wd.grownBy w' u14.ownBlock → w'.ownsRow xB.heap.size 30 3 v' (k + 1) ((RR.take (k + 1)).map rcc).flatten ∧ w'.ownsRow xB.heap.size 39 3 u15 k (((RR.map rpl).take k).map rrc).flatten ∧ Below xB.heap.size xB w') := ⟨fun wd w' v' h1 h2 h3 => HG.out.one hkR h1 (by rw [hRk]; exact h2) h3⟩
        have HTWO : Box (∀ wd w' v' u', wd.ownsRow xB.heap.size 30 3 v' (k + 1) ((RR.take (k + 1)).map rcc).flatten → wd.ownsRow xB.heap.size 39 3 u15 k (((RR.map rpl).take k).map rrc).flatten → Below xB.heap.size xB wd → w'.ownsRow xB.heap.size 39 3 u' (k + 1) ((((RR.map rpl).take k).map rrc).flatten ++ rrc (rpl ⟨X[k], K.getD k false⟩)) → wd.grownBy w' u15.ownBlock → Gr xB w' RR (k + 1) v' u') := ⟨fun wd w' v' u' h1 h2 h3 h4 h5 => Gr.two hkR h1 h2 h3 (by rw [hRk]; exact h4) h5⟩
        obtain ⟨⟨blk, ba, bl, bc, bs⟩, hmm⟩ : ∃ m, X[k] = m := ⟨_, rfl⟩
        rw [hmm] at hr1 HONE HTWO hox
        obtain ⟨lst, hls⟩ : ∃ l, K.getD k false = l := ⟨_, rfl⟩
        rw [hls] at hck HONE HTWO
        obtain ⟨s, hs⟩ : ∃ s, strOfNums bs = s := ⟨_, rfl⟩
        have HTWO2 : Box (∀ wd w' v' u', wd.ownsRow xB.heap.size 30 3 v' (k + 1) ((RR.take (k + 1)).map rcc).flatten → wd.ownsRow xB.heap.size 39 3 u15 k (((RR.map rpl).take k).map rrc).flatten → Below xB.heap.size xB wd → w'.ownsRow xB.heap.size 39 3 u' (k + 1) ((((RR.map rpl).take k).map rrc).flatten ++ [.int .u64 blk, .string s, .bool lst]) → wd.grownBy w' u15.ownBlock → Gr xB w' RR (k + 1) v' u') := ⟨by rw [← hs]; exact HTWO.out⟩
        have HR : Box (∀ x, Below xB.heap.size xB x → x.rangeAt b (o + k * 2) [.int .u64 blk, .slice ba bl bc] ∧ x.cell? ⟨bk, ok + k, none⟩ = some (.bool lst) ∧ Bytes x ba bl bs) := ⟨fun x hx => by
          have h2 := below_to HB.out hx
          exact ⟨range_below h2 hr1 hbl, ((below_to H2.out.1 h2).cell hkb).trans hck, (hox.to h2).byi.1⟩⟩
        have HRC : Box (∀ x, Below xB.heap.size xB x → Calls Try.prog 12 #[.agg #[.int .u64 blk, .slice ba bl bc, .bool lst]] x fun e w' => e = .returned (.agg #[.int .u64 blk, .string s, .bool lst]) ∧ Below x.heap.size x w') := ⟨fun x hx => by rw [← hs]; exact recordOf_any ⟨⟨blk, ba, bl, bc, bs⟩, lst⟩ x (HR.out x hx).2.2⟩
        have HOW : Box (∀ x, Below wr.heap.size wr x → x.ownsRow xB.heap.size 30 3 u14 k ((RR.take k).map rcc).flatten ∧ xB.heap.size ≤ x.heap.size ∧ Below xB.heap.size xB x ∧ ∀ j, u14.ownBlock = some j → j < wr.heap.size) := ⟨fun x hx => ⟨own_to HG.out.rs hx, Nat.le_trans HG.out.bel.size hx.size, below_to HG.out.bel hx, fun j hj => (HG.out.rs.lt j hj).2⟩⟩
        have HL2 : Box (k ≤ 1000000) := ⟨by omega⟩
        have HLT : Box (k < n ∧ k < kl ∧ k < q) := ⟨hltn, hltk, hlt⟩
        have hw4 : IntKind.i64.wrap ((k : Int) + 1) = ((k + 1 : Nat) : Int) := by rw [IntKind.wrap_i64]; omega
        clear hr hr1 hck hkc hox hmm hls hs hRk hkX hkR HTWO
        go_upto_region 21 with fail
        refine begin_keep (S := fun x => Below xB.heap.size xB x) (by kernel_rfl) (fun wd hwd => ?_)
        have hbd : Below wr.heap.size wr wd := by rw [hwd]; exact (Below.refl _ _).drew
        have hS : Below xB.heap.size xB wd := (HOW.out wd hbd).2.2.1
        clear hwd
        refine take_s (i := 0) (v := ?_) rfl (by kernel_rfl) (by kernel_rfl) (by kernel_rfl) (fun _ _ _ h => h) (by rfl) ?_ hS ?_
        rotate_left
        · intro w' hLat; clear hLat; go_simp <;> with_reducible rfl
        try simp only [Act.put, List.setIfInBounds_toArray, List.set_cons_zero, List.set_cons_succ, List.getElem_toArray, List.getElem_cons_zero]
        refine take_s (i := 1) (v := ?_) rfl (by kernel_rfl) (by kernel_rfl) (by kernel_rfl) (fun _ _ _ h => h) (by rfl) ?_ hS ?_
        rotate_left
        · intro w' hLat; clear hLat; go_simp <;> with_reducible rfl
        try simp only [Act.put, List.setIfInBounds_toArray, List.set_cons_zero, List.set_cons_succ, List.getElem_toArray, List.getElem_cons_zero, List.getElem_cons_succ]
        refine take_s (i := 2) (v := .pointer (some ⟨b, o + k * 2, none⟩)) rfl (by kernel_rfl) (by kernel_rfl) (by kernel_rfl) (fun _ _ _ h => h) (by rfl) (fun w' hLat => exec_idxT 27 25 Try.underlying27 2 infoIm _ _ rfl b o n xc k rfl rfl HLT.out.1) hS ?_
        try simp only [Act.put, List.setIfInBounds_toArray, List.set_cons_zero, List.set_cons_succ, List.getElem_toArray, List.getElem_cons_zero, List.getElem_cons_succ]
        refine take_s (i := 3) (v := .agg #[.int .u64 blk, .slice ba bl bc]) rfl (by kernel_rfl) (by kernel_rfl) (by kernel_rfl) (fun _ _ _ h => h) (by rfl) (fun w' hLat => exec_load_mid 25 _ _ rfl Try.underlying25 rfl b (o + k * 2) rfl [.int .u64 blk, .slice ba bl bc] infoIm (HR.out w' hLat).1) hS ?_
        try simp only [Act.put, List.setIfInBounds_toArray, List.set_cons_zero, List.set_cons_succ, List.getElem_toArray, List.getElem_cons_zero, List.getElem_cons_succ]
        refine take_s (i := 4) (v := ?_) rfl (by kernel_rfl) (by kernel_rfl) (by kernel_rfl) (fun _ _ _ h => h) (by rfl) ?_ hS ?_
        rotate_left
        · intro w' hLat; clear hLat; go_simp <;> with_reducible rfl
        try simp only [Act.put, List.setIfInBounds_toArray, List.set_cons_zero, List.set_cons_succ, List.getElem_toArray, List.getElem_cons_zero, List.getElem_cons_succ]
        refine take_s (i := 5) (v := ?_) rfl (by kernel_rfl) (by kernel_rfl) (by kernel_rfl) (fun _ _ _ h => h) (by rfl) ?_ hS ?_
        rotate_left
        · intro w' hLat; clear hLat; go_simp <;> with_reducible rfl
        try simp only [Act.put, List.setIfInBounds_toArray, List.set_cons_zero, List.set_cons_succ, List.getElem_toArray, List.getElem_cons_zero, List.getElem_cons_succ]
        refine take_s (i := 6) (v := .pointer (some ⟨bk, ok + k * 1, none⟩)) rfl (by kernel_rfl) (by kernel_rfl) (by kernel_rfl) (fun _ _ _ h => h) (by rfl) (fun w' hLat => exec_idxT 46 4 Try.underlying46 1 (by kernel_rfl) _ _ rfl bk ok kl kc k rfl rfl HLT.out.2.1) hS ?_
        try simp only [Act.put, List.setIfInBounds_toArray, List.set_cons_zero, List.set_cons_succ, List.getElem_toArray, List.getElem_cons_zero, List.getElem_cons_succ]
        refine take_s (i := 7) (v := .bool lst) rfl (by kernel_rfl) (by kernel_rfl) (by kernel_rfl) (fun _ _ _ h => h) (by rfl) (fun w' hLat => exec_load1 4 _ _ rfl Try.underlying4 rfl _ rfl _ (by rw [Nat.mul_one]; exact (HR.out w' hLat).2.1)) hS ?_
        try simp only [Act.put, List.setIfInBounds_toArray, List.set_cons_zero, List.set_cons_succ, List.getElem_toArray, List.getElem_cons_zero, List.getElem_cons_succ]
        refine take_s (i := 8) (v := .agg #[.int .u64 blk, .slice ba bl bc, .bool lst]) rfl (by kernel_rfl) (by kernel_rfl) (by kernel_rfl) (fun _ _ _ h => h) (by rfl) (fun w' hLat => exec_built 30 [(0, .tmp 84), (1, .tmp 88)] rfl [(0, .agg #[.int .u64 blk, .slice ba bl bc]), (1, .bool lst)] rfl _ (built_Rc _ _ _ _ _)) hS ?_
        try simp only [Act.put, List.setIfInBounds_toArray, List.set_cons_zero, List.set_cons_succ, List.getElem_toArray, List.getElem_cons_zero, List.getElem_cons_succ]
        refine one_keep (i := 9) (by kernel_rfl) ?_
        refine keep_step rfl (by rfl) ?_
        unfold Oper.wp
        rw [exec_alloc 30 rfl _ zeroRc]
        have hS2 := hS
        have hS : Below xB.heap.size xB (wd.alloc (.cells #[.int .u64 0, .slice none 0 0, .bool false] 30)) := hS2.alloc hS2.size _
        refine ⟨hS, ?_⟩
        try simp only [Act.put, List.setIfInBounds_toArray, List.set_cons_zero, List.set_cons_succ, List.getElem_toArray, List.getElem_cons_zero, List.getElem_cons_succ]
        refine one_keep (i := 10) (by kernel_rfl) ?_
        refine keep_step rfl (by rfl) ?_
        refine wp_store_mid 30 (.tmp 17) (.tmp 89) rfl wd.heap.size 0 #[.int .u64 blk, .slice ba bl bc, .bool lst] rfl rfl (there_row (al_at rfl) (Nat.le_refl _)) infoRc (by simp [Value.oneCell']) ?_
        obtain ⟨y, hy⟩ : ∃ y, (wd.alloc (.cells #[.int .u64 0, .slice none 0 0, .bool false] 30)).setCells wd.heap.size 0 #[.int .u64 blk, .slice ba bl bc, .bool lst].toList = y := ⟨_, rfl⟩
        rw [hy]
        have hry : y.heap[wd.heap.size]? = some (.cells #[.int .u64 blk, .slice ba bl bc, .bool lst] 30 (0, 0)) := by rw [← hy, setCells_row wd.heap.size _ _ 0 _ _ (al_at rfl) (Nat.le_refl _)]; rfl
        have hby : Below wr.heap.size wr y := below_but (hbd.alloc hbd.size _) (by rw [← hy]; exact but_setCells _ _ _ _ _ (But.refl _ _)) hbd.size (Nat.le_trans hbd.size (by simp))
        have hS3 := hS
        have hS : Below xB.heap.size xB y := (HOW.out y hby).2.2.1
        refine ⟨hS, ?_⟩
        try simp only [Act.put, List.getElem_toArray, List.getElem_cons_zero, List.getElem_cons_succ]
        refine wpAnyH_done (by kernel_rfl) ?_ _
        obtain ⟨G, hG⟩ : ∃ G, wd.heap.size = G := ⟨_, rfl⟩
        simp only [hG]
        rw [hG] at hry
        have HY : Box (y.heap[G]? = some (.cells #[.int .u64 blk, .slice ba bl bc, .bool lst] 30 (0, 0)) ∧ Below wr.heap.size wr y ∧ wr.heap.size ≤ G) := ⟨hry, hby, by rw [← hG]; exact hbd.size⟩
        have HRY : Box (y.rangeAt G 0 [.int .u64 blk, .slice ba bl bc, .bool lst]) := ⟨range_arr hry _ (fun j v hv => by simpa using hv)⟩
        clear hS hS2 hS3 hry hby hbd hy hG
        go_upto_region 23 with (first
          | (refine atLoad 30 ?_; refine wpList_ldMid rfl 30 _ _ rfl Try.underlying30 rfl G 0 rfl [.int .u64 blk, .slice ba bl bc, .bool lst] infoRc HRY.out ?_)
          | (at_builtin; refine wpList_appR 47 30 Try.underlying47 3 40 _ infRc rfl (by decide) rfl (.tmp 90) (.tmp 92) rfl xB.heap.size k u14 ((RR.take k).map rcc).flatten [.int .u64 blk, .slice ba bl bc, .bool lst] y rfl rfl rfl (HOW.out y HY.out.2.1).1 rfl (by simp [Value.oneCell']) HL2.out (by decide) (by decide) (HOW.out y HY.out.2.1).2.1 ?_; intro v6 x6 hown hgr; have H6 : Box (x6.ownsRow xB.heap.size 30 3 v6 (k + 1) ((RR.take (k + 1)).map rcc).flatten ∧ x6.ownsRow xB.heap.size 39 3 u15 k (((RR.map rpl).take k).map rrc).flatten ∧ Below xB.heap.size xB x6) := ⟨HONE.out y x6 v6 HY.out.2.1 hown hgr⟩; have HR6 : Box (x6.rangeAt G 0 [.int .u64 blk, .slice ba bl bc, .bool lst]) := ⟨range_arr ((hgr.block G (Array.getElem?_eq_some_iff.1 HY.out.1).1 (fun e => by have := (HOW.out y HY.out.2.1).2.2.2 G e.symm; have := HY.out.2.2; omega)).trans HY.out.1) _ (fun j v hv => by simpa using hv)⟩; clear hown hgr))
        go_wp2_with (first
          | (refine atLoad 30 ?_; refine wpList_ldMid rfl 30 _ _ rfl Try.underlying30 rfl G 0 rfl [.int .u64 blk, .slice ba bl bc, .bool lst] infoRc HR6.out ?_)
          | (go_at_call 12; refine (HRC.out x6 H6.out.2.2).mono ?_; rintro e x7 ⟨rfl, hb⟩; have H7 : Box (x7.ownsRow xB.heap.size 30 3 v6 (k + 1) ((RR.take (k + 1)).map rcc).flatten ∧ x7.ownsRow xB.heap.size 39 3 u15 k (((RR.map rpl).take k).map rrc).flatten ∧ Below xB.heap.size xB x7 ∧ xB.heap.size ≤ x7.heap.size) := ⟨own_to H6.out.1 hb, own_to H6.out.2.1 hb, below_to H6.out.2.2 hb, (below_to H6.out.2.2 hb).size⟩; clear hb)
          | (at_builtin; refine wpList_appR 50 39 Try.underlying50 3 32 _ infRr rfl (by decide) rfl (.tmp 94) (.tmp 97) rfl xB.heap.size k u15 (((RR.map rpl).take k).map rrc).flatten [.int .u64 blk, .string s, .bool lst] x7 rfl rfl rfl H7.out.2.1 rfl (by simp [Value.oneCell']) HL2.out (by decide) (by decide) H7.out.2.2.2 ?_; intro v8 x8 hown hgr; have H8 : Box (Gr xB x8 RR (k + 1) v6 v8) := ⟨HTWO2.out x7 x8 v6 v8 H7.out.1 H7.out.2.1 H7.out.2.2.1 hown hgr⟩; clear hown hgr))
        go_roundw
        case rel => exact ⟨k + 1, HLT.out.2.2, by go_num, H8⟩
        case measure => simp [intOf]; have := HLT.out.2.2; omega
      · obtain rfl : k = q := by omega
        have HG1 : Box (wr.ownsRow xB.heap.size 30 3 u14 k (RR.map rcc).flatten ∧ wr.ownsRow xB.heap.size 39 3 u15 k (L.map rrc).flatten ∧ Below xB.heap.size xB wr) := ⟨by
          have := HG.out.rs
          rwa [List.take_of_length_le (by rw [HRR.out.1]; exact Nat.le_refl _)] at this, by
          have := HG.out.ms
          rw [HL.out.1] at this
          rwa [List.take_of_length_le (by rw [HL.out.2]; exact Nat.le_refl _)] at this, HG.out.bel⟩
        obtain ⟨ra, rc, rfl⟩ := own_form2 HG1.out.1
        obtain ⟨ua, uc, rfl⟩ := own_form2 HG1.out.2.1
        have HX2 : Box (Below x2.heap.size x2 wr ∧ Below w.heap.size w wr) := ⟨below_to HB.out HG1.out.2.2, below_to H2.out.1 (below_to HB.out HG1.out.2.2)⟩
        have HRE : Box (Recs wr ra RR) := ⟨⟨own_tb (fun _ => rfl) HG1.out.1 HRR.out.1, fun r hr => by
          obtain ⟨i, hi, rfl⟩ := List.getElem_of_mem hr
          have hiX : i < X.length := by rw [H2.out.2.1]; have := HRR.out.1; have := HRR.out.2.1; omega
          rw [HRR.out.2.2.2.2 i hi hiX]
          have ho := (H2.out.2.2.2.1 X[i] (List.getElem_mem hiX)).to HX2.out.1
          exact ⟨ho.byi.1, ho.num, by show X[i].bl < 1000000; have := HBL.out _ (List.getElem_mem hiX); omega⟩⟩⟩
        have HTM : Box (∀ x, Below wr.heap.size wr x → Tb x ua 3 rrc L) := ⟨fun x hx => (own_tb (f := rrc) (fun _ => rfl) HG1.out.2.1 HL.out.2).below hx⟩
        have hq20 : k ≤ 20 := by have := HRR.out.2.1; omega
        have HLR : Box (∀ i (h1 : i < L.length) (h2 : i < RR.length), L[i].2 = RR[i].l) := ⟨fun i h1 h2 => by
          have e := HL.out.1
          subst e
          simp [rpl]⟩
        have hcnd : (decide ((k : Int) < (n : Int)) && decide ((k : Int) < (kl : Int))) = false := by
          rcases HRR.out.2.2.2.1 with e | e <;> simp [e]
        have hend : k = n ∨ (k < n ∧ k = kl) := by have h1 := HRR.out.2.1; rcases HRR.out.2.2.2.1 with e | e <;> omega
        by_cases hbad : ∃ h0 : 0 < RR.length, (RR[RR.length - 1]'(by omega)).l = false
        · obtain ⟨h0, hb0⟩ := hbad
          have HCB : Box (Calls Try.prog 18 #[.slice ra k rc] wr fun e w' => e = .returned (.tuple #[.slice none 0 0, .int .i64 11]) ∧ wr = w') := ⟨by
            have h1 := HRR.out.1
            have := changes_bad ra rc RR wr HRE.out (by omega) h0 hb0
            rw [h1] at this
            exact this⟩
          have HNE : Box ((chS L).2 ≠ []) := ⟨fun e => by
            have hs := chS_split L
            have e1 := hs.1
            rw [e] at e1
            simp only [List.map_nil, List.append_nil] at e1
            have h1 := HRR.out.1
            have h2 := HL.out.2
            have hl := last_of (chS L).1 hs.2 (by rw [← e1]; omega)
            simp only [← e1] at hl
            rw [HLR.out _ (by omega) (by omega)] at hl
            have hh : L.length - 1 = RR.length - 1 := by omega
            simp only [hh] at hl
            rw [hb0] at hl
            cases hl⟩
          have HRB : Box (Calls Try.prog 19 #[.slice ua k uc] wr fun e w' => e = .returned (.tuple #[.slice none 0 0, .int .i64 11]) ∧ Below wr.heap.size wr w') := ⟨by
            have := rch_any ua uc L wr (HTM.out wr (Below.refl _ _)) (by rw [HL.out.2]; omega)
            rw [HL.out.2] at this
            refine this.mono fun e w' ⟨h1, h2⟩ => ?_
            rcases h2 with ⟨_, h3⟩ | ⟨h3, _⟩
            · exact ⟨h3, h1⟩
            · exact absurd h3 HNE.out⟩
          clear hb0 h0 hcnd
          rcases hend with hend | ⟨hend1, hend2⟩
          · have hc1 : ¬ (k : Int) < (n : Int) := by omega
            clear hend
            go_upto_region 26 with (first
              | (go_at_call 18; refine HCB.out.mono ?_; rintro e x6 ⟨rfl, rfl⟩)
              | (go_at_call 19; refine HRB.out.mono ?_; rintro e x7 ⟨rfl, hb⟩; have H7 : Box (Below wr.heap.size wr x7) := ⟨hb⟩; clear hb))
            obtain ⟨wb, hwb⟩ : ∃ x, x = wr := ⟨_, rfl⟩
            have HWB : Box (Below w.heap.size w x7) := ⟨below_to HX2.out.2 H7.out⟩
            go_upto_region 28 with fail
            go_wp2
            go_loopw [22] (fun i wr => i = .int .i64 0 ∧ Box (x7 = wr)) (fun _ _ => 0)
            case atStart => exact ⟨rfl, ⟨rfl⟩⟩
            case round =>
              obtain ⟨rfl, HQ9⟩ := hrel
              go_wp2
              go_ret
              exact ⟨rfl, HQ9.out ▸ HWB.out⟩
          · have hc1 : (k : Int) < (n : Int) := by omega
            have hc2 : ¬ (k : Int) < (kl : Int) := by omega
            clear hend1 hend2
            go_upto_region 26 with (first
              | (go_at_call 18; refine HCB.out.mono ?_; rintro e x6 ⟨rfl, rfl⟩)
              | (go_at_call 19; refine HRB.out.mono ?_; rintro e x7 ⟨rfl, hb⟩; have H7 : Box (Below wr.heap.size wr x7) := ⟨hb⟩; clear hb))
            obtain ⟨wb, hwb⟩ : ∃ x, x = wr := ⟨_, rfl⟩
            have HWB : Box (Below w.heap.size w x7) := ⟨below_to HX2.out.2 H7.out⟩
            go_upto_region 28 with fail
            go_wp2
            go_loopw [22] (fun i wr => i = .int .i64 0 ∧ Box (x7 = wr)) (fun _ _ => 0)
            case atStart => exact ⟨rfl, ⟨rfl⟩⟩
            case round =>
              obtain ⟨rfl, HQ9⟩ := hrel
              go_wp2
              go_ret
              exact ⟨rfl, HQ9.out ▸ HWB.out⟩
        · have HLA : Box (∀ h0 : 0 < RR.length, (RR[RR.length - 1]'(by omega)).l = true) := ⟨fun h0 => by
            cases e : (RR[RR.length - 1]'(by omega)).l
            · exact absurd ⟨h0, e⟩ hbad
            · rfl⟩
          have HCO : Box (Calls Try.prog 18 #[.slice ra k rc] wr fun e w' => ∃ v C, e = .returned (.tuple #[v, .int .i64 0]) ∧ Chs w' wr.heap.size v C ∧ C.map (fun c => c.M.map pl) = (chS L).1 ∧ Below wr.heap.size wr w') := ⟨by
            have h1 := HRR.out.1
            have := changes_ok ra rc RR wr HRE.out (by omega) HLA.out
            rw [h1, HL.out.1] at this
            exact this⟩
          have HCL : Box ((chS L).2 = []) := ⟨chS_closed L (fun h0 => by
            have h1 := HRR.out.1
            have h2 := HL.out.2
            rw [HLR.out _ (by omega) (by omega)]
            have hh : L.length - 1 = RR.length - 1 := by omega
            simp only [hh]
            exact HLA.out (by omega))⟩
          have HRG : Box (∀ x, Below wr.heap.size wr x → Calls Try.prog 19 #[.slice ua k uc] x fun e w' => ∃ (v : Value) (Wn : List Wx), e = .returned (.tuple #[v, .int .i64 0]) ∧ w'.ownsRow x.heap.size 53 1 v Wn.length (Wn.map wsl).flatten ∧ (∀ y ∈ Wn, y.P.length = y.l ∧ w'.ownsRow x.heap.size 37 2 (.slice y.a y.l y.c) y.l (y.P.map ic).flatten) ∧ Wn.map (·.P) = (chS L).1 ∧ Below x.heap.size x w') := ⟨fun x hx => by
            have := rch_any ua uc L x (HTM.out x hx) (by rw [HL.out.2]; omega)
            rw [HL.out.2] at this
            refine this.mono fun e w' ⟨h1, h2⟩ => ?_
            rcases h2 with ⟨h3, _⟩ | ⟨_, v, Wn, h3, h4, h5, h6⟩
            · exact absurd HCL.out h3
            · exact ⟨v, Wn, h3, h4, h5, h6, h1⟩⟩
          clear hbad hcnd
          rcases hend with hend | ⟨hend1, hend2⟩
          · have hc1 : ¬ (k : Int) < (n : Int) := by omega
            clear hend
            go_upto_region 25 with (go_at_call 18; refine HCO.out.mono ?_; rintro e x6 ⟨cv, C, rfl, hC1, hC2, hC3⟩; obtain ⟨cva, cvc, rfl⟩ := own_form2 hC1.row; have H6 : Box (Chs x6 wr.heap.size (.slice cva C.length cvc) C ∧ C.map (fun c => c.M.map pl) = (chS L).1 ∧ Below wr.heap.size wr x6) := ⟨hC1, hC2, hC3⟩; clear hC1 hC2 hC3)
            go_upto_region 26 with (go_at_call 19; refine (HRG.out x6 H6.out.2.2).mono ?_; rintro e x7 ⟨dv, Wn, rfl, hD1, hD2, hD3, hD4⟩; obtain ⟨dva, dvc, rfl⟩ := own_form2 hD1; have H7 : Box (Chs x7 wr.heap.size (.slice cva C.length cvc) C ∧ x7.ownsRow x6.heap.size 53 1 (.slice dva Wn.length dvc) Wn.length (Wn.map wsl).flatten ∧ (∀ y ∈ Wn, y.P.length = y.l ∧ x7.ownsRow x6.heap.size 37 2 (.slice y.a y.l y.c) y.l (y.P.map ic).flatten) ∧ Wn.map (·.P) = (chS L).1 ∧ Below w.heap.size w x7) := ⟨H6.out.1.to hD4, hD1, hD2, hD3, below_to HX2.out.2 (below_to H6.out.2.2 hD4)⟩; clear hD1 hD2 hD3 hD4)
            obtain ⟨cl, hcl⟩ : ∃ cl, C.length = cl := ⟨_, rfl⟩
            have HCW : Box (C.length = cl ∧ Wn.length = cl ∧ C.map (fun c => c.M.map pl) = Wn.map (·.P)) := ⟨hcl, by
              have h1 := congrArg List.length H6.out.2.1
              have h2 := congrArg List.length H7.out.2.2.2.1
              rw [List.length_map] at h1 h2
              omega, by rw [H6.out.2.1, H7.out.2.2.2.1]⟩
            have hdl := HCW.out.2.1
            rw [hcl, hdl] at H7 ⊢
            rw [hcl] at H6
            obtain ⟨wz, hwz⟩ : ∃ x, x = wr := ⟨_, rfl⟩
            clear hcl hdl hwz
            go_upto_region 28 with fail
            go_wp2
            go_loopw [22] (fun i wr => ∃ j : Nat, j ≤ cl ∧ i = .int .i64 (j : Int) ∧ Box (Below x7.heap.size x7 wr)) (fun i _ => cl - (intOf i).toNat)
            case atStart => exact ⟨0, Nat.zero_le _, rfl, ⟨Below.refl _ _⟩⟩
            case round =>
              obtain ⟨ii, hii, rfl, HW⟩ := hrel
              by_cases hi3 : ii < cl
              · have hi1 : decide ((ii : Int) < (cl : Int)) = true := by simp; omega
                have hiC : ii < C.length := by have := HCW.out.1; omega
                have hiW : ii < Wn.length := by have := HCW.out.2.1; omega
                obtain ⟨gc, oc, hce, hcb, hcr⟩ := (own_tb (fun _ => rfl) (by have := H7.out.1.row; rw [HCW.out.1] at this; exact this) HCW.out.1 : Tb x7 cva 1 slc C) (by omega)
                subst hce
                obtain ⟨gw, ow, hwe, hwb2, hwr⟩ := (own_tb (fun _ => rfl) H7.out.2.1 HCW.out.2.1 : Tb x7 dva 1 wsl Wn) (by omega)
                subst hwe
                have hcr1 := hcr ii hiC 0 _ rfl
                have hwr1 := hwr ii hiW 0 _ rfl
                have hcI := H7.out.1.imgs C[ii] (List.getElem_mem hiC)
                have hcl := (H7.out.1.im C[ii] (List.getElem_mem hiC)).1
                have hwI := H7.out.2.2.1 Wn[ii] (List.getElem_mem hiW)
                have hEQ : C[ii].M.map pl = Wn[ii].P := by
                  have e3 : (C.map (fun c => c.M.map pl))[ii]? = (Wn.map (·.P))[ii]? := by rw [HCW.out.2.2]
                  rw [List.getElem?_eq_getElem (by simpa using hiC), List.getElem?_eq_getElem (by simpa using hiW)] at e3
                  simpa using e3
                have hPm : Wn[ii].P ∈ (chS L).1 := by rw [← H7.out.2.2.2.1]; exact List.mem_map_of_mem (List.getElem_mem hiW)
                obtain ⟨⟨ca, cll, ccc, cM⟩, hCC⟩ : ∃ c, C[ii] = c := ⟨_, rfl⟩
                obtain ⟨⟨wa, wl, wc, P⟩, hWW⟩ : ∃ c, Wn[ii] = c := ⟨_, rfl⟩
                simp only [hCC] at hcr1 hcI hcl hEQ
                simp only [hWW] at hwr1 hwI hEQ hPm
                rw [Nat.mul_one, Nat.add_zero] at hcr1 hwr1
                have hPl : P.length = cll := by rw [← hEQ, List.length_map, hcl]
                have hwl : wl = cll := by rw [← hwI.1]; exact hPl
                subst hwl
                have HF : Box (∀ x, Below wr.heap.size wr x → x.cell? ⟨gc, oc + ii, none⟩ = some (.slice ca wl ccc) ∧ x.cell? ⟨gw, ow + ii, none⟩ = some (.slice wa wl wc) ∧ Imgs x ca cM ∧ Tb x wa 2 ic P) := ⟨fun x hx => by
                  have h6 := below_to HW.out hx
                  exact ⟨(h6.cell hcb).trans hcr1, (h6.cell hwb2).trans hwr1, hcI.below h6, (own_tb (f := ic) (fun _ => rfl) hwI.2 hwI.1).below h6⟩⟩
                have HLN : Box (cM.length = wl ∧ cM.map pl = P ∧ P.length = wl ∧ wl ≤ 1000) := ⟨hcl, hEQ, hPl, by
                  have h2 := mem_len (chS L).1 P hPm
                  have e1 := (chS_split L).1
                  rw [HCL.out] at e1
                  simp only [List.map_nil, List.append_nil] at e1
                  rw [← e1, HL.out.2] at h2
                  omega⟩
                have HII : Box (ii < cl) := ⟨hi3⟩
                have HMO9 : Box (∀ x, Below wr.heap.size wr x → Calls Try.prog 17 #[.slice ca wl ccc] x fun e w' => ∃ a' c', e = .returned (.slice a' wl c') ∧ Tb w' a' 2 ic P ∧ Below x.heap.size x w') := ⟨fun x hx => by
                  have := modelOf_any ca ccc cM x (HF.out x hx).2.2.1 (by rw [HLN.out.1]; exact HLN.out.2.2.2)
                  rw [HLN.out.1] at this
                  refine this.mono fun e w' ⟨v, h1, h2⟩ => ?_
                  have hrow := h2.row
                  rw [HLN.out.2.1, List.take_of_length_le (by rw [HLN.out.2.2.1]; exact Nat.le_refl _)] at hrow
                  obtain ⟨a', c', rfl⟩ := own_form2 hrow
                  exact ⟨a', c', h1, own_tb (fun _ => rfl) hrow HLN.out.2.2.1, h2.bel⟩⟩
                have hw8 : IntKind.i64.wrap ((ii : Int) + 1) = ((ii + 1 : Nat) : Int) := by
                  have hc9 := len_ch L
                  have := congrArg List.length H7.out.2.2.2.1
                  rw [List.length_map, HCW.out.2.1] at this
                  have := HL.out.2
                  rw [IntKind.wrap_i64]
                  omega
                clear hcr hwr hcr1 hwr1 hcI hcl hwI hEQ hCC hWW hPl hiC hiW hPm
                go_upto_region 31 with fail
                refine Seq.begin_any (by kernel_rfl) (fun wd hd => ?_)
                have hbd : Below wr.heap.size wr wd := hd.mono (Nat.le_refl _)
                refine Seq.take_lat (i := 0) (v := ?_) rfl (by kernel_rfl) (by kernel_rfl) (by kernel_rfl) (fun _ _ _ h => h) (by rfl) ?_ ?_
                rotate_left
                · intro w' hLat; change Below _ _ _ at hLat; go_simp <;> with_reducible rfl
                try simp only [Act.put, List.setIfInBounds_toArray, List.set_cons_zero, List.set_cons_succ, List.getElem_toArray, List.getElem_cons_zero]
                refine Seq.take_lat (i := 1) (v := ?_) rfl (by kernel_rfl) (by kernel_rfl) (by kernel_rfl) (fun _ _ _ h => h) (by rfl) ?_ ?_
                rotate_left
                · intro w' hLat; change Below _ _ _ at hLat; go_simp <;> with_reducible rfl
                try simp only [Act.put, List.setIfInBounds_toArray, List.set_cons_zero, List.set_cons_succ, List.getElem_toArray, List.getElem_cons_zero, List.getElem_cons_succ]
                refine Seq.take_lat (i := 2) (v := .pointer (some ⟨gc, oc + ii * 1, none⟩)) rfl (by kernel_rfl) (by kernel_rfl) (by kernel_rfl) (fun _ _ _ h => h) (by rfl) (fun w' hLat => exec_idxT 55 27 Try.underlying55 1 (by kernel_rfl) _ _ rfl gc oc cl cvc ii rfl rfl HII.out) ?_
                try simp only [Act.put, List.setIfInBounds_toArray, List.set_cons_zero, List.set_cons_succ, List.getElem_toArray, List.getElem_cons_zero, List.getElem_cons_succ]
                refine Seq.take_lat (i := 3) (v := .slice ca wl ccc) rfl (by kernel_rfl) (by kernel_rfl) (by kernel_rfl) (fun _ _ _ h => h) (by rfl) (fun w' hLat => exec_load1 27 _ _ rfl Try.underlying27 rfl _ rfl _ (by rw [Nat.mul_one]; exact (HF.out w' (below_to hbd hLat)).1)) ?_
                try simp only [Act.put, List.setIfInBounds_toArray, List.set_cons_zero, List.set_cons_succ, List.getElem_toArray, List.getElem_cons_zero, List.getElem_cons_succ]
                refine Seq.take_lat (i := 5) (v := ?_) rfl (by kernel_rfl) (by kernel_rfl) (by kernel_rfl) (fun _ _ _ h => h) (by rfl) ?_ ?_
                rotate_left
                · intro w' hLat; change Below _ _ _ at hLat; go_simp <;> with_reducible rfl
                try simp only [Act.put, List.setIfInBounds_toArray, List.set_cons_zero, List.set_cons_succ, List.getElem_toArray, List.getElem_cons_zero, List.getElem_cons_succ]
                refine Seq.take_lat (i := 6) (v := ?_) rfl (by kernel_rfl) (by kernel_rfl) (by kernel_rfl) (fun _ _ _ h => h) (by rfl) ?_ ?_
                rotate_left
                · intro w' hLat; change Below _ _ _ at hLat; go_simp <;> with_reducible rfl
                try simp only [Act.put, List.setIfInBounds_toArray, List.set_cons_zero, List.set_cons_succ, List.getElem_toArray, List.getElem_cons_zero, List.getElem_cons_succ]
                refine Seq.take_lat (i := 7) (v := .pointer (some ⟨gw, ow + ii * 1, none⟩)) rfl (by kernel_rfl) (by kernel_rfl) (by kernel_rfl) (fun _ _ _ h => h) (by rfl) (fun w' hLat => exec_idxT 58 53 Try.underlying58 1 (by kernel_rfl) _ _ rfl gw ow cl dvc ii rfl rfl HII.out) ?_
                try simp only [Act.put, List.setIfInBounds_toArray, List.set_cons_zero, List.set_cons_succ, List.getElem_toArray, List.getElem_cons_zero, List.getElem_cons_succ]
                refine Seq.take_lat (i := 8) (v := .slice wa wl wc) rfl (by kernel_rfl) (by kernel_rfl) (by kernel_rfl) (fun _ _ _ h => h) (by rfl) (fun w' hLat => exec_load1 53 _ _ rfl Try.underlying53 rfl _ rfl _ (by rw [Nat.mul_one]; exact (HF.out w' (below_to hbd hLat)).2.1)) ?_
                try simp only [Act.put, List.setIfInBounds_toArray, List.set_cons_zero, List.set_cons_succ, List.getElem_toArray, List.getElem_cons_zero, List.getElem_cons_succ]
                refine Seq.only_lat (i := 4) rfl (by kernel_rfl) (fun KK hK => ?_)
                rw [if_pos (by rfl)]
                go_simp
                refine Calls.mono (HMO9.out wd hbd) ?_
                rintro e x8 ⟨ma8, mc8, rfl, hT8, hb8⟩
                refine hK.out _ _ hb8 ?_
                clear hK KK
                try simp only [Act.put, List.setIfInBounds_toArray, List.set_cons_zero, List.set_cons_succ, List.getElem_toArray, List.getElem_cons_zero, List.getElem_cons_succ]
                refine Seq.only_lat (i := 9) rfl (by kernel_rfl) (fun KK hK => ?_)
                rw [if_pos (by rfl)]
                go_simp
                refine Calls.mono (by have := same_any ma8 wa mc8 wc P x8 hT8 (HF.out x8 (below_to hbd hb8)).2.2.2 (by rw [HLN.out.2.2.1]; exact HLN.out.2.2.2); rw [HLN.out.2.2.1] at this; exact this) ?_
                rintro e x9 ⟨rfl, hb9⟩
                refine hK.out _ _ hb9 ?_
                clear hK KK
                try simp only [Act.put, List.setIfInBounds_toArray, List.set_cons_zero, List.set_cons_succ, List.getElem_toArray, List.getElem_cons_zero, List.getElem_cons_succ]
                refine Seq.take_lat (i := 10) (v := ?_) rfl (by kernel_rfl) (by kernel_rfl) (by kernel_rfl) (fun _ _ _ h => h) (by rfl) ?_ ?_
                rotate_left
                · intro w' hLat; change Below _ _ _ at hLat; go_simp <;> with_reducible rfl
                try simp only [Act.put, List.setIfInBounds_toArray, List.set_cons_zero, List.set_cons_succ, List.getElem_toArray, List.getElem_cons_zero, List.getElem_cons_succ]
                refine wpAnyH_done (by kernel_rfl) ?_ _
                have HX9 : Box (Below x7.heap.size x7 x9) := ⟨below_to HW.out (below_to hbd (below_to hb8 hb9))⟩
                clear hd hbd hb8 hb9 hT8
                go_wp2
                go_roundw
                case rel => exact ⟨ii + 1, HII.out, by go_num, HX9⟩
                case measure => simp [intOf]; have := HII.out; omega
              · obtain rfl : ii = cl := by omega
                have hi1 : decide ((ii : Int) < (ii : Int)) = false := by simp
                go_wp2
                go_ret
                exact ⟨rfl, below_to H7.out.2.2.2.2 HW.out⟩
          · have hc1 : (k : Int) < (n : Int) := by omega
            have hc2 : ¬ (k : Int) < (kl : Int) := by omega
            clear hend1 hend2
            go_upto_region 25 with (go_at_call 18; refine HCO.out.mono ?_; rintro e x6 ⟨cv, C, rfl, hC1, hC2, hC3⟩; obtain ⟨cva, cvc, rfl⟩ := own_form2 hC1.row; have H6 : Box (Chs x6 wr.heap.size (.slice cva C.length cvc) C ∧ C.map (fun c => c.M.map pl) = (chS L).1 ∧ Below wr.heap.size wr x6) := ⟨hC1, hC2, hC3⟩; clear hC1 hC2 hC3)
            go_upto_region 26 with (go_at_call 19; refine (HRG.out x6 H6.out.2.2).mono ?_; rintro e x7 ⟨dv, Wn, rfl, hD1, hD2, hD3, hD4⟩; obtain ⟨dva, dvc, rfl⟩ := own_form2 hD1; have H7 : Box (Chs x7 wr.heap.size (.slice cva C.length cvc) C ∧ x7.ownsRow x6.heap.size 53 1 (.slice dva Wn.length dvc) Wn.length (Wn.map wsl).flatten ∧ (∀ y ∈ Wn, y.P.length = y.l ∧ x7.ownsRow x6.heap.size 37 2 (.slice y.a y.l y.c) y.l (y.P.map ic).flatten) ∧ Wn.map (·.P) = (chS L).1 ∧ Below w.heap.size w x7) := ⟨H6.out.1.to hD4, hD1, hD2, hD3, below_to HX2.out.2 (below_to H6.out.2.2 hD4)⟩; clear hD1 hD2 hD3 hD4)
            obtain ⟨cl, hcl⟩ : ∃ cl, C.length = cl := ⟨_, rfl⟩
            have HCW : Box (C.length = cl ∧ Wn.length = cl ∧ C.map (fun c => c.M.map pl) = Wn.map (·.P)) := ⟨hcl, by
              have h1 := congrArg List.length H6.out.2.1
              have h2 := congrArg List.length H7.out.2.2.2.1
              rw [List.length_map] at h1 h2
              omega, by rw [H6.out.2.1, H7.out.2.2.2.1]⟩
            have hdl := HCW.out.2.1
            rw [hcl, hdl] at H7 ⊢
            rw [hcl] at H6
            obtain ⟨wz, hwz⟩ : ∃ x, x = wr := ⟨_, rfl⟩
            clear hcl hdl hwz
            go_upto_region 28 with fail
            go_wp2
            go_loopw [22] (fun i wr => ∃ j : Nat, j ≤ cl ∧ i = .int .i64 (j : Int) ∧ Box (Below x7.heap.size x7 wr)) (fun i _ => cl - (intOf i).toNat)
            case atStart => exact ⟨0, Nat.zero_le _, rfl, ⟨Below.refl _ _⟩⟩
            case round =>
              obtain ⟨ii, hii, rfl, HW⟩ := hrel
              by_cases hi3 : ii < cl
              · have hi1 : decide ((ii : Int) < (cl : Int)) = true := by simp; omega
                have hiC : ii < C.length := by have := HCW.out.1; omega
                have hiW : ii < Wn.length := by have := HCW.out.2.1; omega
                obtain ⟨gc, oc, hce, hcb, hcr⟩ := (own_tb (fun _ => rfl) (by have := H7.out.1.row; rw [HCW.out.1] at this; exact this) HCW.out.1 : Tb x7 cva 1 slc C) (by omega)
                subst hce
                obtain ⟨gw, ow, hwe, hwb2, hwr⟩ := (own_tb (fun _ => rfl) H7.out.2.1 HCW.out.2.1 : Tb x7 dva 1 wsl Wn) (by omega)
                subst hwe
                have hcr1 := hcr ii hiC 0 _ rfl
                have hwr1 := hwr ii hiW 0 _ rfl
                have hcI := H7.out.1.imgs C[ii] (List.getElem_mem hiC)
                have hcl := (H7.out.1.im C[ii] (List.getElem_mem hiC)).1
                have hwI := H7.out.2.2.1 Wn[ii] (List.getElem_mem hiW)
                have hEQ : C[ii].M.map pl = Wn[ii].P := by
                  have e3 : (C.map (fun c => c.M.map pl))[ii]? = (Wn.map (·.P))[ii]? := by rw [HCW.out.2.2]
                  rw [List.getElem?_eq_getElem (by simpa using hiC), List.getElem?_eq_getElem (by simpa using hiW)] at e3
                  simpa using e3
                have hPm : Wn[ii].P ∈ (chS L).1 := by rw [← H7.out.2.2.2.1]; exact List.mem_map_of_mem (List.getElem_mem hiW)
                obtain ⟨⟨ca, cll, ccc, cM⟩, hCC⟩ : ∃ c, C[ii] = c := ⟨_, rfl⟩
                obtain ⟨⟨wa, wl, wc, P⟩, hWW⟩ : ∃ c, Wn[ii] = c := ⟨_, rfl⟩
                simp only [hCC] at hcr1 hcI hcl hEQ
                simp only [hWW] at hwr1 hwI hEQ hPm
                rw [Nat.mul_one, Nat.add_zero] at hcr1 hwr1
                have hPl : P.length = cll := by rw [← hEQ, List.length_map, hcl]
                have hwl : wl = cll := by rw [← hwI.1]; exact hPl
                subst hwl
                have HF : Box (∀ x, Below wr.heap.size wr x → x.cell? ⟨gc, oc + ii, none⟩ = some (.slice ca wl ccc) ∧ x.cell? ⟨gw, ow + ii, none⟩ = some (.slice wa wl wc) ∧ Imgs x ca cM ∧ Tb x wa 2 ic P) := ⟨fun x hx => by
                  have h6 := below_to HW.out hx
                  exact ⟨(h6.cell hcb).trans hcr1, (h6.cell hwb2).trans hwr1, hcI.below h6, (own_tb (f := ic) (fun _ => rfl) hwI.2 hwI.1).below h6⟩⟩
                have HLN : Box (cM.length = wl ∧ cM.map pl = P ∧ P.length = wl ∧ wl ≤ 1000) := ⟨hcl, hEQ, hPl, by
                  have h2 := mem_len (chS L).1 P hPm
                  have e1 := (chS_split L).1
                  rw [HCL.out] at e1
                  simp only [List.map_nil, List.append_nil] at e1
                  rw [← e1, HL.out.2] at h2
                  omega⟩
                have HII : Box (ii < cl) := ⟨hi3⟩
                have HMO9 : Box (∀ x, Below wr.heap.size wr x → Calls Try.prog 17 #[.slice ca wl ccc] x fun e w' => ∃ a' c', e = .returned (.slice a' wl c') ∧ Tb w' a' 2 ic P ∧ Below x.heap.size x w') := ⟨fun x hx => by
                  have := modelOf_any ca ccc cM x (HF.out x hx).2.2.1 (by rw [HLN.out.1]; exact HLN.out.2.2.2)
                  rw [HLN.out.1] at this
                  refine this.mono fun e w' ⟨v, h1, h2⟩ => ?_
                  have hrow := h2.row
                  rw [HLN.out.2.1, List.take_of_length_le (by rw [HLN.out.2.2.1]; exact Nat.le_refl _)] at hrow
                  obtain ⟨a', c', rfl⟩ := own_form2 hrow
                  exact ⟨a', c', h1, own_tb (fun _ => rfl) hrow HLN.out.2.2.1, h2.bel⟩⟩
                have hw8 : IntKind.i64.wrap ((ii : Int) + 1) = ((ii + 1 : Nat) : Int) := by
                  have hc9 := len_ch L
                  have := congrArg List.length H7.out.2.2.2.1
                  rw [List.length_map, HCW.out.2.1] at this
                  have := HL.out.2
                  rw [IntKind.wrap_i64]
                  omega
                clear hcr hwr hcr1 hwr1 hcI hcl hwI hEQ hCC hWW hPl hiC hiW hPm
                go_upto_region 31 with fail
                refine Seq.begin_any (by kernel_rfl) (fun wd hd => ?_)
                have hbd : Below wr.heap.size wr wd := hd.mono (Nat.le_refl _)
                refine Seq.take_lat (i := 0) (v := ?_) rfl (by kernel_rfl) (by kernel_rfl) (by kernel_rfl) (fun _ _ _ h => h) (by rfl) ?_ ?_
                rotate_left
                · intro w' hLat; change Below _ _ _ at hLat; go_simp <;> with_reducible rfl
                try simp only [Act.put, List.setIfInBounds_toArray, List.set_cons_zero, List.set_cons_succ, List.getElem_toArray, List.getElem_cons_zero]
                refine Seq.take_lat (i := 1) (v := ?_) rfl (by kernel_rfl) (by kernel_rfl) (by kernel_rfl) (fun _ _ _ h => h) (by rfl) ?_ ?_
                rotate_left
                · intro w' hLat; change Below _ _ _ at hLat; go_simp <;> with_reducible rfl
                try simp only [Act.put, List.setIfInBounds_toArray, List.set_cons_zero, List.set_cons_succ, List.getElem_toArray, List.getElem_cons_zero, List.getElem_cons_succ]
                refine Seq.take_lat (i := 2) (v := .pointer (some ⟨gc, oc + ii * 1, none⟩)) rfl (by kernel_rfl) (by kernel_rfl) (by kernel_rfl) (fun _ _ _ h => h) (by rfl) (fun w' hLat => exec_idxT 55 27 Try.underlying55 1 (by kernel_rfl) _ _ rfl gc oc cl cvc ii rfl rfl HII.out) ?_
                try simp only [Act.put, List.setIfInBounds_toArray, List.set_cons_zero, List.set_cons_succ, List.getElem_toArray, List.getElem_cons_zero, List.getElem_cons_succ]
                refine Seq.take_lat (i := 3) (v := .slice ca wl ccc) rfl (by kernel_rfl) (by kernel_rfl) (by kernel_rfl) (fun _ _ _ h => h) (by rfl) (fun w' hLat => exec_load1 27 _ _ rfl Try.underlying27 rfl _ rfl _ (by rw [Nat.mul_one]; exact (HF.out w' (below_to hbd hLat)).1)) ?_
                try simp only [Act.put, List.setIfInBounds_toArray, List.set_cons_zero, List.set_cons_succ, List.getElem_toArray, List.getElem_cons_zero, List.getElem_cons_succ]
                refine Seq.take_lat (i := 5) (v := ?_) rfl (by kernel_rfl) (by kernel_rfl) (by kernel_rfl) (fun _ _ _ h => h) (by rfl) ?_ ?_
                rotate_left
                · intro w' hLat; change Below _ _ _ at hLat; go_simp <;> with_reducible rfl
                try simp only [Act.put, List.setIfInBounds_toArray, List.set_cons_zero, List.set_cons_succ, List.getElem_toArray, List.getElem_cons_zero, List.getElem_cons_succ]
                refine Seq.take_lat (i := 6) (v := ?_) rfl (by kernel_rfl) (by kernel_rfl) (by kernel_rfl) (fun _ _ _ h => h) (by rfl) ?_ ?_
                rotate_left
                · intro w' hLat; change Below _ _ _ at hLat; go_simp <;> with_reducible rfl
                try simp only [Act.put, List.setIfInBounds_toArray, List.set_cons_zero, List.set_cons_succ, List.getElem_toArray, List.getElem_cons_zero, List.getElem_cons_succ]
                refine Seq.take_lat (i := 7) (v := .pointer (some ⟨gw, ow + ii * 1, none⟩)) rfl (by kernel_rfl) (by kernel_rfl) (by kernel_rfl) (fun _ _ _ h => h) (by rfl) (fun w' hLat => exec_idxT 58 53 Try.underlying58 1 (by kernel_rfl) _ _ rfl gw ow cl dvc ii rfl rfl HII.out) ?_
                try simp only [Act.put, List.setIfInBounds_toArray, List.set_cons_zero, List.set_cons_succ, List.getElem_toArray, List.getElem_cons_zero, List.getElem_cons_succ]
                refine Seq.take_lat (i := 8) (v := .slice wa wl wc) rfl (by kernel_rfl) (by kernel_rfl) (by kernel_rfl) (fun _ _ _ h => h) (by rfl) (fun w' hLat => exec_load1 53 _ _ rfl Try.underlying53 rfl _ rfl _ (by rw [Nat.mul_one]; exact (HF.out w' (below_to hbd hLat)).2.1)) ?_
                try simp only [Act.put, List.setIfInBounds_toArray, List.set_cons_zero, List.set_cons_succ, List.getElem_toArray, List.getElem_cons_zero, List.getElem_cons_succ]
                refine Seq.only_lat (i := 4) rfl (by kernel_rfl) (fun KK hK => ?_)
                rw [if_pos (by rfl)]
                go_simp
                refine Calls.mono (HMO9.out wd hbd) ?_
                rintro e x8 ⟨ma8, mc8, rfl, hT8, hb8⟩
                refine hK.out _ _ hb8 ?_
                clear hK KK
                try simp only [Act.put, List.setIfInBounds_toArray, List.set_cons_zero, List.set_cons_succ, List.getElem_toArray, List.getElem_cons_zero, List.getElem_cons_succ]
                refine Seq.only_lat (i := 9) rfl (by kernel_rfl) (fun KK hK => ?_)
                rw [if_pos (by rfl)]
                go_simp
                refine Calls.mono (by have := same_any ma8 wa mc8 wc P x8 hT8 (HF.out x8 (below_to hbd hb8)).2.2.2 (by rw [HLN.out.2.2.1]; exact HLN.out.2.2.2); rw [HLN.out.2.2.1] at this; exact this) ?_
                rintro e x9 ⟨rfl, hb9⟩
                refine hK.out _ _ hb9 ?_
                clear hK KK
                try simp only [Act.put, List.setIfInBounds_toArray, List.set_cons_zero, List.set_cons_succ, List.getElem_toArray, List.getElem_cons_zero, List.getElem_cons_succ]
                refine Seq.take_lat (i := 10) (v := ?_) rfl (by kernel_rfl) (by kernel_rfl) (by kernel_rfl) (fun _ _ _ h => h) (by rfl) ?_ ?_
                rotate_left
                · intro w' hLat; change Below _ _ _ at hLat; go_simp <;> with_reducible rfl
                try simp only [Act.put, List.setIfInBounds_toArray, List.set_cons_zero, List.set_cons_succ, List.getElem_toArray, List.getElem_cons_zero, List.getElem_cons_succ]
                refine wpAnyH_done (by kernel_rfl) ?_ _
                have HX9 : Box (Below x7.heap.size x7 x9) := ⟨below_to HW.out (below_to hbd (below_to hb8 hb9))⟩
                clear hd hbd hb8 hb9 hT8
                go_wp2
                go_roundw
                case rel => exact ⟨ii + 1, HII.out, by go_num, HX9⟩
                case measure => simp [intOf]; have := HII.out; omega
              · obtain rfl : ii = cl := by omega
                have hi1 : decide ((ii : Int) < (ii : Int)) = false := by simp
                go_wp2
                go_ret
                exact ⟨rfl, below_to H7.out.2.2.2.2 HW.out⟩
set_option maxRecDepth 20000 in
set_option maxHeartbeats 8000000 in
theorem recordChanges_o (a : Option Addr) (cap : Nat) (M : List Im) (ka : Option Addr) (kl kc : Nat) (K : List Bool) (short : Bool) (w : World) (h : Imgs w a M) (hK : Bools w ka kl K) (hn20 : M.length ≤ 20) (hkm : kl ≤ maxLen) (hcase : 0 < M.length ∧ (short = true → M.length < 2)) :
    Calls Try.prog 4 #[.slice a M.length cap, .slice ka kl kc, .bool short] w fun e w' => e = .returned (.bool true) ∧ Below w.heap.size w w' := by
  unfold maxLen at hkm
  obtain ⟨n, hn⟩ : ∃ n, M.length = n := ⟨_, rfl⟩
  rw [hn] at hn20 hcase ⊢
  have HM : Box (∀ x, Below w.heap.size w x → Imgs x a M ∧ Bools x ka kl K) := ⟨fun x hx => ⟨h.below hx, hK.below hx⟩⟩
  have HN : Box (M.length = n ∧ K.length = kl) := ⟨hn, hK.1⟩
  have HCS : Box (0 < n ∧ (short = true → n < 2)) := ⟨hcase⟩
  have hg1 : ¬ (20 : Int) < (n : Int) := by omega
  clear h hK hn hcase
  go_enter Try.func4, Try.ntmps4
  go_upto_region 6 with (go_at_call 8; refine (awake_any _).mono ?_; rintro e x1 ⟨rfl, hb⟩; have H1 : Box (Below w.heap.size w x1) := ⟨hb⟩; clear hb)
  have HIM : Box (Calls Try.prog 9 #[.slice a n cap, .bool short] x1 fun e w' => ∃ v X, e = .returned v ∧ Ig x1 w' short M M.length v X) := ⟨by have := images_any a cap M short x1 (HM.out x1 H1.out).1 (by have := HN.out.1; omega); rw [HN.out.1] at this ⊢; exact this⟩
  go_upto_region 7 with (go_at_call 9; refine HIM.out.mono ?_; rintro e x2 ⟨v, X, rfl, hI⟩; obtain ⟨xa, xc, hv, hXi, hXo⟩ := ig_len hI; have H2 : Box (Below w.heap.size w x2 ∧ X.length = n ∧ Imgs x2 xa X ∧ (∀ m ∈ X, OIm x2 x1.heap.size m) ∧ ∀ i (hi : i < X.length), X[i].bl = szP short i ∧ X[i].bs.length = szP short i) := ⟨below_to H1.out hI.bel, by rw [hI.len]; exact HN.out.1, hXi, hXo, ig_bl2 hI⟩; rw [HN.out.1] at hv; subst hv; clear hI hXi hXo)
  clear HIM hg1
  have HBL : Box (∀ m ∈ X, m.bl ≤ 160) := ⟨fun m hm => by
    obtain ⟨i, hi, rfl⟩ := List.getElem_of_mem hm
    rw [(H2.out.2.2.2.2 i hi).1]
    exact szP_le _ _⟩
  have HAL : Box ((∀ m ∈ X, m.bl = 160) ∧ ∀ x ∈ X.map pl, x.2.length = 160) := ⟨fun m hm => by
    obtain ⟨i, hi, rfl⟩ := List.getElem_of_mem hm
    rw [(H2.out.2.2.2.2 i hi).1]
    exact szP_ok short n i HCS.out.2 (by rw [← H2.out.2.1]; exact hi), fun x hx => by
    obtain ⟨m, hm, rfl⟩ := List.mem_map.1 hx
    obtain ⟨i, hi, rfl⟩ := List.getElem_of_mem hm
    show X[i].bs.length = 160
    rw [(H2.out.2.2.2.2 i hi).2]
    exact szP_ok short n i HCS.out.2 (by rw [← H2.out.2.1]; exact hi)⟩
  have HOF : Box (Calls Try.prog 15 #[.slice xa n xc] x2 fun e w' => ∃ g R', e = .returned (.tuple #[.slice (some ⟨g, 0, none⟩) n n, .int .i64 0]) ∧ ORecs w' x2.heap.size (.slice (some ⟨g, 0, none⟩) n n) R' ∧ R'.length = n ∧ R'.map rpl = ofP (X.map pl) ∧ Below x2.heap.size x2 w') := ⟨by
    have e := H2.out.2.1
    have := of_ok xa xc X x2 H2.out.2.2.1 (by omega) (by have := HCS.out.1; omega) HAL.out.1
    rw [e] at this
    exact this⟩
  go_upto_region 8 with (go_at_call 15; refine HOF.out.mono ?_; rintro e x3 ⟨g, RO, rfl, h2, h3, h4, h5⟩; have H3 : Box (Below x2.heap.size x2 x3 ∧ ORecs x3 x2.heap.size (.slice (some ⟨g, 0, none⟩) n n) RO ∧ RO.length = n ∧ RO.map rpl = ofP (X.map pl)) := ⟨h5, h2, h3, h4⟩; clear h2 h3 h4 h5)
  clear HOF
  have HMO : Box (Calls Try.prog 17 #[.slice xa n xc] x3 fun e w' => ∃ a' c', e = .returned (.slice a' n c') ∧ Tb w' a' 2 ic (X.map pl) ∧ Below x3.heap.size x3 w') := ⟨by
    have e := H2.out.2.1
    have := modelOf_any xa xc X x3 (H2.out.2.2.1.below H3.out.1) (by omega)
    rw [e] at this
    refine this.mono fun ee w' ⟨v, h1, h2⟩ => ?_
    have hrow := h2.row
    rw [List.take_of_length_le (by rw [List.length_map, e]; exact Nat.le_refl _)] at hrow
    obtain ⟨a', c', rfl⟩ := own_form2 hrow
    exact ⟨a', c', h1, own_tb (f := ic) (fun _ => rfl) hrow (by rw [List.length_map, e]), h2.bel⟩⟩
  have HRO : Box (∀ x a' c', Tb x a' 2 ic (X.map pl) → Calls Try.prog 16 #[.slice a' n c'] x fun e w' => ∃ ba' bc', e = .returned (.tuple #[.slice ba' n bc', .int .i64 0]) ∧ Tb w' ba' 3 rrc (ofP (X.map pl)) ∧ Below x.heap.size x w') := ⟨fun x a' c' hT => by
    have e := H2.out.2.1
    have el : (X.map pl).length = n := by rw [List.length_map, e]
    have := rof_ok a' c' (X.map pl) x hT (by omega) (by rw [el]; exact HCS.out.1) HAL.out.2
    rw [el] at this
    refine this.mono fun ee w' ⟨v, h1, h2⟩ => ?_
    have hrow := h2.row
    rw [List.take_of_length_le (by rw [len_ofP, el]; exact Nat.le_refl _)] at hrow
    obtain ⟨a2, c2, rfl⟩ := own_form2 hrow
    exact ⟨a2, c2, h1, own_tb (f := rrc) (fun _ => rfl) hrow (by rw [len_ofP, el]), h2.bel⟩⟩
  go_upto_region 9 with (first
    | (go_at_call 17; refine HMO.out.mono ?_; rintro e x4 ⟨ma, mc, rfl, hT, hb⟩; have H4 : Box (Tb x4 ma 2 ic (X.map pl) ∧ Below x3.heap.size x3 x4) := ⟨hT, hb⟩; clear hT hb)
    | (go_at_call 16; refine (HRO.out x4 ma mc H4.out.1).mono ?_; rintro e x5 ⟨rba, rbc, rfl, hT, hb⟩; have H5 : Box (Tb x5 rba 3 rrc (ofP (X.map pl)) ∧ Below x3.heap.size x3 x5) := ⟨hT, below_to H4.out.2 hb⟩; clear hT hb))
  clear HMO HRO
  have HA5 : Box (Tb x5 (some ⟨g, 0, none⟩) 3 rcc RO ∧ ∀ r ∈ RO, OIm x5 x2.heap.size r.m) := ⟨(own_tb (f := rcc) (fun _ => rfl) (by have := H3.out.2.1.row; rw [H3.out.2.2.1] at this; exact this) H3.out.2.2.1).below H5.out.2, fun r hr => (H3.out.2.1.byt r hr).to H5.out.2⟩
  go_upto_region 11 with fail
  go_wp2
  go_loopw [13] (fun i wr => ∃ k : Nat, k ≤ n ∧ i = .int .i64 (k : Int) ∧ Box (Below x5.heap.size x5 wr)) (fun i _ => n - (intOf i).toNat)
  case atStart => exact ⟨0, Nat.zero_le _, rfl, ⟨Below.refl _ _⟩⟩
  case round =>
    obtain ⟨k, hk, rfl, HQ⟩ := hrel
    by_cases hlt : k < n
    · have hlt1 : decide ((k : Int) < (n : Int)) = true := by simp; omega
      have hkR : k < RO.length := by rw [H3.out.2.2.1]; exact hlt
      have hkP : k < (ofP (X.map pl)).length := by rw [len_ofP, List.length_map, H2.out.2.1]; exact hlt
      obtain ⟨b1, o1, e1, hb1, hr1⟩ := HA5.out.1 (by omega)
      obtain ⟨b2, o2, e2, hb2, hr2⟩ := H5.out.1 (by omega)
      simp only [Option.some.injEq, Addr.mk.injEq, and_true] at e1
      obtain ⟨rfl, rfl⟩ := e1
      subst e2
      have hr1k := hr1 k hkR
      have hr2k := hr2 k hkP
      have hok := HA5.out.2 RO[k] (List.getElem_mem hkR)
      have heq : (ofP (X.map pl))[k] = rpl RO[k] := by
        have e := H3.out.2.2.2
        have e3 : (RO.map rpl)[k]? = (ofP (X.map pl))[k]? := by rw [e]
        rw [List.getElem?_eq_getElem (by simpa using hkR), List.getElem?_eq_getElem hkP] at e3
        simpa using (Option.some.inj e3).symm
      rw [heq] at hr2k
      obtain ⟨r0, hr0⟩ : ∃ r, RO[k] = r := ⟨_, rfl⟩
      rw [hr0] at hr1k hr2k hok
      obtain ⟨AR, HAR⟩ : ∃ A, Box ((rrc (rpl r0)).toArray = A) := ⟨_, ⟨rfl⟩⟩
      have HF : Box (∀ x, Below wr.heap.size wr x → x.rangeAt g (0 + k * 3) (rcc r0) ∧ x.rangeAt b2 (o2 + k * 3) AR.toList ∧ Bytes x r0.m.ba r0.m.bl r0.m.bs) := ⟨fun x hx => by
        have h5 := below_to HQ.out hx
        exact ⟨range_below h5 hr1k hb1, by rw [← HAR.out]; exact range_below h5 hr2k hb2, (hok.to h5).byi.1⟩⟩
      have HRC : Box (∀ x, Below wr.heap.size wr x → Calls Try.prog 12 #[.agg (rcc r0).toArray] x fun e w' => e = .returned (.agg AR) ∧ Below x.heap.size x w') := ⟨fun x hx => by have := recordOf_any r0 x (HF.out x hx).2.2; rw [HAR.out] at this; exact this⟩
      have HAS : Box (AR.size = 3) := ⟨by rw [← HAR.out]; rfl⟩
      have HLT : Box (k < n) := ⟨hlt⟩
      have hw4 : IntKind.i64.wrap ((k : Int) + 1) = ((k + 1 : Nat) : Int) := by rw [IntKind.wrap_i64]; omega
      clear hr1 hr2 hr1k hr2k hok heq hr0 hkR hkP
      go_upto_region 14 with fail
      refine Seq.begin_any (by kernel_rfl) (fun wd hd => ?_)
      have hbd : Below wr.heap.size wr wd := hd.mono (Nat.le_refl _)
      refine Seq.take_lat (i := 0) (v := ?_) rfl (by kernel_rfl) (by kernel_rfl) (by kernel_rfl) (fun _ _ _ h => h) (by rfl) ?_ ?_
      rotate_left
      · intro w' hLat; change Below _ _ _ at hLat; go_simp <;> with_reducible rfl
      try simp only [Act.put, List.setIfInBounds_toArray, List.set_cons_zero, List.set_cons_succ, List.getElem_toArray, List.getElem_cons_zero]
      refine Seq.take_lat (i := 1) (v := ?_) rfl (by kernel_rfl) (by kernel_rfl) (by kernel_rfl) (fun _ _ _ h => h) (by rfl) ?_ ?_
      rotate_left
      · intro w' hLat; change Below _ _ _ at hLat; go_simp <;> with_reducible rfl
      try simp only [Act.put, List.setIfInBounds_toArray, List.set_cons_zero, List.set_cons_succ, List.getElem_toArray, List.getElem_cons_zero, List.getElem_cons_succ]
      refine Seq.take_lat (i := 2) (v := .pointer (some ⟨g, 0 + k * 3, none⟩)) rfl (by kernel_rfl) (by kernel_rfl) (by kernel_rfl) (fun _ _ _ h => h) (by rfl) (fun w' hLat => exec_idxT 47 30 Try.underlying47 3 infoRc _ _ rfl g 0 n n k rfl rfl HLT.out) ?_
      try simp only [Act.put, List.setIfInBounds_toArray, List.set_cons_zero, List.set_cons_succ, List.getElem_toArray, List.getElem_cons_zero, List.getElem_cons_succ]
      refine Seq.take_lat (i := 3) (v := .agg (rcc r0).toArray) rfl (by kernel_rfl) (by kernel_rfl) (by kernel_rfl) (fun _ _ _ h => h) (by rfl) (fun w' hLat => exec_load_mid 30 _ _ rfl Try.underlying30 rfl g (0 + k * 3) rfl (rcc r0) infoRc (HF.out w' (below_to hbd hLat)).1) ?_
      try simp only [Act.put, List.setIfInBounds_toArray, List.set_cons_zero, List.set_cons_succ, List.getElem_toArray, List.getElem_cons_zero, List.getElem_cons_succ]
      refine Seq.take_lat (i := 5) (v := ?_) rfl (by kernel_rfl) (by kernel_rfl) (by kernel_rfl) (fun _ _ _ h => h) (by rfl) ?_ ?_
      rotate_left
      · intro w' hLat; change Below _ _ _ at hLat; go_simp <;> with_reducible rfl
      try simp only [Act.put, List.setIfInBounds_toArray, List.set_cons_zero, List.set_cons_succ, List.getElem_toArray, List.getElem_cons_zero, List.getElem_cons_succ]
      refine Seq.take_lat (i := 6) (v := ?_) rfl (by kernel_rfl) (by kernel_rfl) (by kernel_rfl) (fun _ _ _ h => h) (by rfl) ?_ ?_
      rotate_left
      · intro w' hLat; change Below _ _ _ at hLat; go_simp <;> with_reducible rfl
      try simp only [Act.put, List.setIfInBounds_toArray, List.set_cons_zero, List.set_cons_succ, List.getElem_toArray, List.getElem_cons_zero, List.getElem_cons_succ]
      refine Seq.take_lat (i := 7) (v := .pointer (some ⟨b2, o2 + k * 3, none⟩)) rfl (by kernel_rfl) (by kernel_rfl) (by kernel_rfl) (fun _ _ _ h => h) (by rfl) (fun w' hLat => exec_idxT 50 39 Try.underlying50 3 infoRr _ _ rfl b2 o2 n rbc k rfl rfl HLT.out) ?_
      try simp only [Act.put, List.setIfInBounds_toArray, List.set_cons_zero, List.set_cons_succ, List.getElem_toArray, List.getElem_cons_zero, List.getElem_cons_succ]
      refine Seq.take_lat (i := 8) (v := .agg AR) rfl (by kernel_rfl) (by kernel_rfl) (by kernel_rfl) (fun _ _ _ h => h) (by rfl) (fun w' hLat => exec_load_mid 39 _ _ rfl Try.underlying39 rfl b2 (o2 + k * 3) rfl AR.toList (by rw [Array.length_toList, HAS.out]; exact infoRr) (HF.out w' (below_to hbd hLat)).2.1) ?_
      try simp only [Act.put, List.setIfInBounds_toArray, List.set_cons_zero, List.set_cons_succ, List.getElem_toArray, List.getElem_cons_zero, List.getElem_cons_succ]
      refine Seq.only_lat (i := 4) rfl (by kernel_rfl) (fun KK hK => ?_)
      rw [if_pos (by rfl)]
      go_simp
      refine Calls.mono (HRC.out wd hbd) ?_
      rintro e x7 ⟨rfl, hb⟩
      have HX7 : Box (Below x5.heap.size x5 x7) := ⟨below_to HQ.out (below_to hbd hb)⟩
      refine hK.out _ _ hb ?_
      clear hK KK
      try simp only [Act.put, List.setIfInBounds_toArray, List.set_cons_zero, List.set_cons_succ, List.getElem_toArray, List.getElem_cons_zero, List.getElem_cons_succ]
      refine Seq.take_lat (i := 9) (v := .bool false) rfl (by kernel_rfl) (by kernel_rfl) (by kernel_rfl) (fun _ _ _ h => h) (by rfl) (fun w' hLat => exec_neR' _ _ _ rfl (rpl r0) AR HAR.out rfl rfl) ?_
      try simp only [Act.put, List.setIfInBounds_toArray, List.set_cons_zero, List.set_cons_succ, List.getElem_toArray, List.getElem_cons_zero, List.getElem_cons_succ]
      refine wpAnyH_done (by kernel_rfl) ?_ _
      clear hd hbd hb
      go_wp2
      go_roundw
      case rel => exact ⟨k + 1, HLT.out, by go_num, HX7⟩
      case measure => simp [intOf]; have := HLT.out; omega
    · obtain rfl : k = n := by omega
      have hlt1 : decide ((k : Int) < (k : Int)) = false := by simp
      obtain ⟨n, hnn⟩ : ∃ n, n = k := ⟨_, rfl⟩
      subst hnn
      have HB5 : Box (Below x2.heap.size x2 wr) := ⟨below_to H3.out.1 (below_to H5.out.2 HQ.out)⟩
      obtain ⟨xB, hxB⟩ : ∃ x, x = wr := ⟨_, rfl⟩
      have HB : Box (Below x2.heap.size x2 xB) := ⟨by rw [hxB]; exact HB5.out⟩
      have HB0 : Box (Below xB.heap.size xB wr) := ⟨by rw [hxB]; exact Below.refl _ _⟩
      clear hxB HB5
      obtain ⟨RR, hRR⟩ : ∃ RR, zipR X K = RR := ⟨_, rfl⟩
      obtain ⟨q, hq⟩ : ∃ q, RR.length = q := ⟨_, rfl⟩
      have HRR : Box (RR.length = q ∧ q ≤ n ∧ q ≤ kl ∧ (q = n ∨ q = kl) ∧ ∀ i (h1 : i < RR.length) (h2 : i < X.length), RR[i] = ⟨X[i], K.getD i false⟩) := ⟨hq, by
        have h1 := len_zip X K
        rw [hRR, hq, H2.out.2.1, HN.out.2] at h1
        exact ⟨h1.1, h1.2.1, h1.2.2, fun i h1 h2 => by subst hRR; exact get_zipR X K i h1 h2⟩⟩
      obtain ⟨L, hL⟩ : ∃ L, RR.map rpl = L := ⟨_, rfl⟩
      have HL : Box (RR.map rpl = L ∧ L.length = q) := ⟨hL, by rw [← hL, List.length_map]; exact HRR.out.1⟩
      clear hRR hL hq
      go_wp2
      go_loopw [14, 15, 16] (fun v u i wr => ∃ k : Nat, k ≤ q ∧ i = .int .i64 (k : Int) ∧ Box (Gr xB wr RR k v u)) (fun _ _ i _ => q - (intOf i).toNat)
      case atStart => exact ⟨0, Nat.zero_le _, rfl, ⟨⟨World.ownsRow_nil _ _ _ _, World.ownsRow_nil _ _ _ _, HB0.out⟩⟩⟩
      case round =>
        obtain ⟨k, hk, rfl, HG⟩ := hrel
        by_cases hlt : k < q
        · have hlt1 : decide ((k : Int) < (n : Int)) = true := by simp; have := HRR.out.2.1; omega
          have hlt2 : decide ((k : Int) < (kl : Int)) = true := by simp; have := HRR.out.2.2.1; omega
          have hltn : k < n := by have := HRR.out.2.1; omega
          have hltk : k < kl := by have := HRR.out.2.2.1; omega
          have hkX : k < X.length := by rw [H2.out.2.1]; exact hltn
          have hkR : k < RR.length := by rw [HRR.out.1]; exact hlt
          obtain ⟨b, o, hae, hbl, hr⟩ := (H2.out.2.2.1).tb (by omega)
          subst hae
          obtain ⟨bk, ok, hke, hkb, hkc⟩ := (HM.out w (Below.refl _ _)).2.2 (by omega)
          subst hke
          have hr1 := hr k hkX
          have hox := H2.out.2.2.2.1 X[k] (List.getElem_mem hkX)
          have hck := hkc k (by omega)
          have hRk := HRR.out.2.2.2.2 k hkR hkX
          have HONE : Box (∀ wd w' v', Below wr.heap.size wr wd → w'.ownsRow xB.heap.size 30 3 v' (k + 1) (((RR.take k).map rcc).flatten ++ rcc ⟨X[k], K.getD k false⟩) → wd.grownBy w' u14.ownBlock → w'.ownsRow xB.heap.size 30 3 v' (k + 1) ((RR.take (k + 1)).map rcc).flatten ∧ w'.ownsRow xB.heap.size 39 3 u15 k (((RR.map rpl).take k).map rrc).flatten ∧ Below xB.heap.size xB w') := ⟨fun wd w' v' h1 h2 h3 => HG.out.one hkR h1 (by rw [hRk]; exact h2) h3⟩
          have HTWO : Box (∀ wd w' v' u', wd.ownsRow xB.heap.size 30 3 v' (k + 1) ((RR.take (k + 1)).map rcc).flatten → wd.ownsRow xB.heap.size 39 3 u15 k (((RR.map rpl).take k).map rrc).flatten → Below xB.heap.size xB wd → w'.ownsRow xB.heap.size 39 3 u' (k + 1) ((((RR.map rpl).take k).map rrc).flatten ++ rrc (rpl ⟨X[k], K.getD k false⟩)) → wd.grownBy w' u15.ownBlock → Gr xB w' RR (k + 1) v' u') := ⟨fun wd w' v' u' h1 h2 h3 h4 h5 => Gr.two hkR h1 h2 h3 (by rw [hRk]; exact h4) h5⟩
          obtain ⟨⟨blk, ba, bl, bc, bs⟩, hmm⟩ : ∃ m, X[k] = m := ⟨_, rfl⟩
          rw [hmm] at hr1 HONE HTWO hox
          obtain ⟨lst, hls⟩ : ∃ l, K.getD k false = l := ⟨_, rfl⟩
          rw [hls] at hck HONE HTWO
          obtain ⟨s, hs⟩ : ∃ s, strOfNums bs = s := ⟨_, rfl⟩
          have HTWO2 : Box (∀ wd w' v' u', wd.ownsRow xB.heap.size 30 3 v' (k + 1) ((RR.take (k + 1)).map rcc).flatten → wd.ownsRow xB.heap.size 39 3 u15 k (((RR.map rpl).take k).map rrc).flatten → Below xB.heap.size xB wd → w'.ownsRow xB.heap.size 39 3 u' (k + 1) ((((RR.map rpl).take k).map rrc).flatten ++ [.int .u64 blk, .string s, .bool lst]) → wd.grownBy w' u15.ownBlock → Gr xB w' RR (k + 1) v' u') := ⟨by rw [← hs]; exact HTWO.out⟩
          have HR : Box (∀ x, Below xB.heap.size xB x → x.rangeAt b (o + k * 2) [.int .u64 blk, .slice ba bl bc] ∧ x.cell? ⟨bk, ok + k, none⟩ = some (.bool lst) ∧ Bytes x ba bl bs) := ⟨fun x hx => by
            have h2 := below_to HB.out hx
            exact ⟨range_below h2 hr1 hbl, ((below_to H2.out.1 h2).cell hkb).trans hck, (hox.to h2).byi.1⟩⟩
          have HRC : Box (∀ x, Below xB.heap.size xB x → Calls Try.prog 12 #[.agg #[.int .u64 blk, .slice ba bl bc, .bool lst]] x fun e w' => e = .returned (.agg #[.int .u64 blk, .string s, .bool lst]) ∧ Below x.heap.size x w') := ⟨fun x hx => by rw [← hs]; exact recordOf_any ⟨⟨blk, ba, bl, bc, bs⟩, lst⟩ x (HR.out x hx).2.2⟩
          have HOW : Box (∀ x, Below wr.heap.size wr x → x.ownsRow xB.heap.size 30 3 u14 k ((RR.take k).map rcc).flatten ∧ xB.heap.size ≤ x.heap.size ∧ Below xB.heap.size xB x ∧ ∀ j, u14.ownBlock = some j → j < wr.heap.size) := ⟨fun x hx => ⟨own_to HG.out.rs hx, Nat.le_trans HG.out.bel.size hx.size, below_to HG.out.bel hx, fun j hj => (HG.out.rs.lt j hj).2⟩⟩
          have HL2 : Box (k ≤ 1000000) := ⟨by omega⟩
          have HLT : Box (k < n ∧ k < kl ∧ k < q) := ⟨hltn, hltk, hlt⟩
          have hw4 : IntKind.i64.wrap ((k : Int) + 1) = ((k + 1 : Nat) : Int) := by rw [IntKind.wrap_i64]; omega
          clear hr hr1 hck hkc hox hmm hls hs hRk hkX hkR HTWO
          go_upto_region 21 with fail
          refine begin_keep (S := fun x => Below xB.heap.size xB x) (by kernel_rfl) (fun wd hwd => ?_)
          have hbd : Below wr.heap.size wr wd := by rw [hwd]; exact (Below.refl _ _).drew
          have hS : Below xB.heap.size xB wd := (HOW.out wd hbd).2.2.1
          clear hwd
          refine take_s (i := 0) (v := ?_) rfl (by kernel_rfl) (by kernel_rfl) (by kernel_rfl) (fun _ _ _ h => h) (by rfl) ?_ hS ?_
          rotate_left
          · intro w' hLat; clear hLat; go_simp <;> with_reducible rfl
          try simp only [Act.put, List.setIfInBounds_toArray, List.set_cons_zero, List.set_cons_succ, List.getElem_toArray, List.getElem_cons_zero]
          refine take_s (i := 1) (v := ?_) rfl (by kernel_rfl) (by kernel_rfl) (by kernel_rfl) (fun _ _ _ h => h) (by rfl) ?_ hS ?_
          rotate_left
          · intro w' hLat; clear hLat; go_simp <;> with_reducible rfl
          try simp only [Act.put, List.setIfInBounds_toArray, List.set_cons_zero, List.set_cons_succ, List.getElem_toArray, List.getElem_cons_zero, List.getElem_cons_succ]
          refine take_s (i := 2) (v := .pointer (some ⟨b, o + k * 2, none⟩)) rfl (by kernel_rfl) (by kernel_rfl) (by kernel_rfl) (fun _ _ _ h => h) (by rfl) (fun w' hLat => exec_idxT 27 25 Try.underlying27 2 infoIm _ _ rfl b o n xc k rfl rfl HLT.out.1) hS ?_
          try simp only [Act.put, List.setIfInBounds_toArray, List.set_cons_zero, List.set_cons_succ, List.getElem_toArray, List.getElem_cons_zero, List.getElem_cons_succ]
          refine take_s (i := 3) (v := .agg #[.int .u64 blk, .slice ba bl bc]) rfl (by kernel_rfl) (by kernel_rfl) (by kernel_rfl) (fun _ _ _ h => h) (by rfl) (fun w' hLat => exec_load_mid 25 _ _ rfl Try.underlying25 rfl b (o + k * 2) rfl [.int .u64 blk, .slice ba bl bc] infoIm (HR.out w' hLat).1) hS ?_
          try simp only [Act.put, List.setIfInBounds_toArray, List.set_cons_zero, List.set_cons_succ, List.getElem_toArray, List.getElem_cons_zero, List.getElem_cons_succ]
          refine take_s (i := 4) (v := ?_) rfl (by kernel_rfl) (by kernel_rfl) (by kernel_rfl) (fun _ _ _ h => h) (by rfl) ?_ hS ?_
          rotate_left
          · intro w' hLat; clear hLat; go_simp <;> with_reducible rfl
          try simp only [Act.put, List.setIfInBounds_toArray, List.set_cons_zero, List.set_cons_succ, List.getElem_toArray, List.getElem_cons_zero, List.getElem_cons_succ]
          refine take_s (i := 5) (v := ?_) rfl (by kernel_rfl) (by kernel_rfl) (by kernel_rfl) (fun _ _ _ h => h) (by rfl) ?_ hS ?_
          rotate_left
          · intro w' hLat; clear hLat; go_simp <;> with_reducible rfl
          try simp only [Act.put, List.setIfInBounds_toArray, List.set_cons_zero, List.set_cons_succ, List.getElem_toArray, List.getElem_cons_zero, List.getElem_cons_succ]
          refine take_s (i := 6) (v := .pointer (some ⟨bk, ok + k * 1, none⟩)) rfl (by kernel_rfl) (by kernel_rfl) (by kernel_rfl) (fun _ _ _ h => h) (by rfl) (fun w' hLat => exec_idxT 46 4 Try.underlying46 1 (by kernel_rfl) _ _ rfl bk ok kl kc k rfl rfl HLT.out.2.1) hS ?_
          try simp only [Act.put, List.setIfInBounds_toArray, List.set_cons_zero, List.set_cons_succ, List.getElem_toArray, List.getElem_cons_zero, List.getElem_cons_succ]
          refine take_s (i := 7) (v := .bool lst) rfl (by kernel_rfl) (by kernel_rfl) (by kernel_rfl) (fun _ _ _ h => h) (by rfl) (fun w' hLat => exec_load1 4 _ _ rfl Try.underlying4 rfl _ rfl _ (by rw [Nat.mul_one]; exact (HR.out w' hLat).2.1)) hS ?_
          try simp only [Act.put, List.setIfInBounds_toArray, List.set_cons_zero, List.set_cons_succ, List.getElem_toArray, List.getElem_cons_zero, List.getElem_cons_succ]
          refine take_s (i := 8) (v := .agg #[.int .u64 blk, .slice ba bl bc, .bool lst]) rfl (by kernel_rfl) (by kernel_rfl) (by kernel_rfl) (fun _ _ _ h => h) (by rfl) (fun w' hLat => exec_built 30 [(0, .tmp 84), (1, .tmp 88)] rfl [(0, .agg #[.int .u64 blk, .slice ba bl bc]), (1, .bool lst)] rfl _ (built_Rc _ _ _ _ _)) hS ?_
          try simp only [Act.put, List.setIfInBounds_toArray, List.set_cons_zero, List.set_cons_succ, List.getElem_toArray, List.getElem_cons_zero, List.getElem_cons_succ]
          refine one_keep (i := 9) (by kernel_rfl) ?_
          refine keep_step rfl (by rfl) ?_
          unfold Oper.wp
          rw [exec_alloc 30 rfl _ zeroRc]
          have hS2 := hS
          have hS : Below xB.heap.size xB (wd.alloc (.cells #[.int .u64 0, .slice none 0 0, .bool false] 30)) := hS2.alloc hS2.size _
          refine ⟨hS, ?_⟩
          try simp only [Act.put, List.setIfInBounds_toArray, List.set_cons_zero, List.set_cons_succ, List.getElem_toArray, List.getElem_cons_zero, List.getElem_cons_succ]
          refine one_keep (i := 10) (by kernel_rfl) ?_
          refine keep_step rfl (by rfl) ?_
          refine wp_store_mid 30 (.tmp 17) (.tmp 89) rfl wd.heap.size 0 #[.int .u64 blk, .slice ba bl bc, .bool lst] rfl rfl (there_row (al_at rfl) (Nat.le_refl _)) infoRc (by simp [Value.oneCell']) ?_
          obtain ⟨y, hy⟩ : ∃ y, (wd.alloc (.cells #[.int .u64 0, .slice none 0 0, .bool false] 30)).setCells wd.heap.size 0 #[.int .u64 blk, .slice ba bl bc, .bool lst].toList = y := ⟨_, rfl⟩
          rw [hy]
          have hry : y.heap[wd.heap.size]? = some (.cells #[.int .u64 blk, .slice ba bl bc, .bool lst] 30 (0, 0)) := by rw [← hy, setCells_row wd.heap.size _ _ 0 _ _ (al_at rfl) (Nat.le_refl _)]; rfl
          have hby : Below wr.heap.size wr y := below_but (hbd.alloc hbd.size _) (by rw [← hy]; exact but_setCells _ _ _ _ _ (But.refl _ _)) hbd.size (Nat.le_trans hbd.size (by simp))
          have hS3 := hS
          have hS : Below xB.heap.size xB y := (HOW.out y hby).2.2.1
          refine ⟨hS, ?_⟩
          try simp only [Act.put, List.getElem_toArray, List.getElem_cons_zero, List.getElem_cons_succ]
          refine wpAnyH_done (by kernel_rfl) ?_ _
          obtain ⟨G, hG⟩ : ∃ G, wd.heap.size = G := ⟨_, rfl⟩
          simp only [hG]
          rw [hG] at hry
          have HY : Box (y.heap[G]? = some (.cells #[.int .u64 blk, .slice ba bl bc, .bool lst] 30 (0, 0)) ∧ Below wr.heap.size wr y ∧ wr.heap.size ≤ G) := ⟨hry, hby, by rw [← hG]; exact hbd.size⟩
          have HRY : Box (y.rangeAt G 0 [.int .u64 blk, .slice ba bl bc, .bool lst]) := ⟨range_arr hry _ (fun j v hv => by simpa using hv)⟩
          clear hS hS2 hS3 hry hby hbd hy hG
          go_upto_region 23 with (first
            | (refine atLoad 30 ?_; refine wpList_ldMid rfl 30 _ _ rfl Try.underlying30 rfl G 0 rfl [.int .u64 blk, .slice ba bl bc, .bool lst] infoRc HRY.out ?_)
            | (at_builtin; refine wpList_appR 47 30 Try.underlying47 3 40 _ infRc rfl (by decide) rfl (.tmp 90) (.tmp 92) rfl xB.heap.size k u14 ((RR.take k).map rcc).flatten [.int .u64 blk, .slice ba bl bc, .bool lst] y rfl rfl rfl (HOW.out y HY.out.2.1).1 rfl (by simp [Value.oneCell']) HL2.out (by decide) (by decide) (HOW.out y HY.out.2.1).2.1 ?_; intro v6 x6 hown hgr; have H6 : Box (x6.ownsRow xB.heap.size 30 3 v6 (k + 1) ((RR.take (k + 1)).map rcc).flatten ∧ x6.ownsRow xB.heap.size 39 3 u15 k (((RR.map rpl).take k).map rrc).flatten ∧ Below xB.heap.size xB x6) := ⟨HONE.out y x6 v6 HY.out.2.1 hown hgr⟩; have HR6 : Box (x6.rangeAt G 0 [.int .u64 blk, .slice ba bl bc, .bool lst]) := ⟨range_arr ((hgr.block G (Array.getElem?_eq_some_iff.1 HY.out.1).1 (fun e => by have := (HOW.out y HY.out.2.1).2.2.2 G e.symm; have := HY.out.2.2; omega)).trans HY.out.1) _ (fun j v hv => by simpa using hv)⟩; clear hown hgr))
          go_wp2_with (first
            | (refine atLoad 30 ?_; refine wpList_ldMid rfl 30 _ _ rfl Try.underlying30 rfl G 0 rfl [.int .u64 blk, .slice ba bl bc, .bool lst] infoRc HR6.out ?_)
            | (go_at_call 12; refine (HRC.out x6 H6.out.2.2).mono ?_; rintro e x7 ⟨rfl, hb⟩; have H7 : Box (x7.ownsRow xB.heap.size 30 3 v6 (k + 1) ((RR.take (k + 1)).map rcc).flatten ∧ x7.ownsRow xB.heap.size 39 3 u15 k (((RR.map rpl).take k).map rrc).flatten ∧ Below xB.heap.size xB x7 ∧ xB.heap.size ≤ x7.heap.size) := ⟨own_to H6.out.1 hb, own_to H6.out.2.1 hb, below_to H6.out.2.2 hb, (below_to H6.out.2.2 hb).size⟩; clear hb)
            | (at_builtin; refine wpList_appR 50 39 Try.underlying50 3 32 _ infRr rfl (by decide) rfl (.tmp 94) (.tmp 97) rfl xB.heap.size k u15 (((RR.map rpl).take k).map rrc).flatten [.int .u64 blk, .string s, .bool lst] x7 rfl rfl rfl H7.out.2.1 rfl (by simp [Value.oneCell']) HL2.out (by decide) (by decide) H7.out.2.2.2 ?_; intro v8 x8 hown hgr; have H8 : Box (Gr xB x8 RR (k + 1) v6 v8) := ⟨HTWO2.out x7 x8 v6 v8 H7.out.1 H7.out.2.1 H7.out.2.2.1 hown hgr⟩; clear hown hgr))
          go_roundw
          case rel => exact ⟨k + 1, HLT.out.2.2, by go_num, H8⟩
          case measure => simp [intOf]; have := HLT.out.2.2; omega
        · obtain rfl : k = q := by omega
          have HG1 : Box (wr.ownsRow xB.heap.size 30 3 u14 k (RR.map rcc).flatten ∧ wr.ownsRow xB.heap.size 39 3 u15 k (L.map rrc).flatten ∧ Below xB.heap.size xB wr) := ⟨by
            have := HG.out.rs
            rwa [List.take_of_length_le (by rw [HRR.out.1]; exact Nat.le_refl _)] at this, by
            have := HG.out.ms
            rw [HL.out.1] at this
            rwa [List.take_of_length_le (by rw [HL.out.2]; exact Nat.le_refl _)] at this, HG.out.bel⟩
          obtain ⟨ra, rc, rfl⟩ := own_form2 HG1.out.1
          obtain ⟨ua, uc, rfl⟩ := own_form2 HG1.out.2.1
          have HX2 : Box (Below x2.heap.size x2 wr ∧ Below w.heap.size w wr) := ⟨below_to HB.out HG1.out.2.2, below_to H2.out.1 (below_to HB.out HG1.out.2.2)⟩
          have HRE : Box (Recs wr ra RR) := ⟨⟨own_tb (fun _ => rfl) HG1.out.1 HRR.out.1, fun r hr => by
            obtain ⟨i, hi, rfl⟩ := List.getElem_of_mem hr
            have hiX : i < X.length := by rw [H2.out.2.1]; have := HRR.out.1; have := HRR.out.2.1; omega
            rw [HRR.out.2.2.2.2 i hi hiX]
            have ho := (H2.out.2.2.2.1 X[i] (List.getElem_mem hiX)).to HX2.out.1
            exact ⟨ho.byi.1, ho.num, by show X[i].bl < 1000000; have := HBL.out _ (List.getElem_mem hiX); omega⟩⟩⟩
          have HTM : Box (∀ x, Below wr.heap.size wr x → Tb x ua 3 rrc L) := ⟨fun x hx => (own_tb (f := rrc) (fun _ => rfl) HG1.out.2.1 HL.out.2).below hx⟩
          have hq20 : k ≤ 20 := by have := HRR.out.2.1; omega
          have HLR : Box (∀ i (h1 : i < L.length) (h2 : i < RR.length), L[i].2 = RR[i].l) := ⟨fun i h1 h2 => by
            have e := HL.out.1
            subst e
            simp [rpl]⟩
          have hcnd : (decide ((k : Int) < (n : Int)) && decide ((k : Int) < (kl : Int))) = false := by
            rcases HRR.out.2.2.2.1 with e | e <;> simp [e]
          have hend : k = n ∨ (k < n ∧ k = kl) := by have h1 := HRR.out.2.1; rcases HRR.out.2.2.2.1 with e | e <;> omega
          by_cases hbad : ∃ h0 : 0 < RR.length, (RR[RR.length - 1]'(by omega)).l = false
          · obtain ⟨h0, hb0⟩ := hbad
            have HCB : Box (Calls Try.prog 18 #[.slice ra k rc] wr fun e w' => e = .returned (.tuple #[.slice none 0 0, .int .i64 11]) ∧ wr = w') := ⟨by
              have h1 := HRR.out.1
              have := changes_bad ra rc RR wr HRE.out (by omega) h0 hb0
              rw [h1] at this
              exact this⟩
            have HNE : Box ((chS L).2 ≠ []) := ⟨fun e => by
              have hs := chS_split L
              have e1 := hs.1
              rw [e] at e1
              simp only [List.map_nil, List.append_nil] at e1
              have h1 := HRR.out.1
              have h2 := HL.out.2
              have hl := last_of (chS L).1 hs.2 (by rw [← e1]; omega)
              simp only [← e1] at hl
              rw [HLR.out _ (by omega) (by omega)] at hl
              have hh : L.length - 1 = RR.length - 1 := by omega
              simp only [hh] at hl
              rw [hb0] at hl
              cases hl⟩
            have HRB : Box (Calls Try.prog 19 #[.slice ua k uc] wr fun e w' => e = .returned (.tuple #[.slice none 0 0, .int .i64 11]) ∧ Below wr.heap.size wr w') := ⟨by
              have := rch_any ua uc L wr (HTM.out wr (Below.refl _ _)) (by rw [HL.out.2]; omega)
              rw [HL.out.2] at this
              refine this.mono fun e w' ⟨h1, h2⟩ => ?_
              rcases h2 with ⟨_, h3⟩ | ⟨h3, _⟩
              · exact ⟨h3, h1⟩
              · exact absurd h3 HNE.out⟩
            clear hb0 h0 hcnd
            rcases hend with hend | ⟨hend1, hend2⟩
            · have hc1 : ¬ (k : Int) < (n : Int) := by omega
              clear hend
              go_upto_region 26 with (first
                | (go_at_call 18; refine HCB.out.mono ?_; rintro e x6 ⟨rfl, rfl⟩)
                | (go_at_call 19; refine HRB.out.mono ?_; rintro e x7 ⟨rfl, hb⟩; have H7 : Box (Below wr.heap.size wr x7) := ⟨hb⟩; clear hb))
              obtain ⟨wb, hwb⟩ : ∃ x, x = wr := ⟨_, rfl⟩
              have HWB : Box (Below w.heap.size w x7) := ⟨below_to HX2.out.2 H7.out⟩
              go_upto_region 28 with fail
              go_wp2
              go_loopw [22] (fun i wr => i = .int .i64 0 ∧ Box (x7 = wr)) (fun _ _ => 0)
              case atStart => exact ⟨rfl, ⟨rfl⟩⟩
              case round =>
                obtain ⟨rfl, HQ9⟩ := hrel
                go_wp2
                go_ret
                exact ⟨rfl, HQ9.out ▸ HWB.out⟩
            · have hc1 : (k : Int) < (n : Int) := by omega
              have hc2 : ¬ (k : Int) < (kl : Int) := by omega
              clear hend1 hend2
              go_upto_region 26 with (first
                | (go_at_call 18; refine HCB.out.mono ?_; rintro e x6 ⟨rfl, rfl⟩)
                | (go_at_call 19; refine HRB.out.mono ?_; rintro e x7 ⟨rfl, hb⟩; have H7 : Box (Below wr.heap.size wr x7) := ⟨hb⟩; clear hb))
              obtain ⟨wb, hwb⟩ : ∃ x, x = wr := ⟨_, rfl⟩
              have HWB : Box (Below w.heap.size w x7) := ⟨below_to HX2.out.2 H7.out⟩
              go_upto_region 28 with fail
              go_wp2
              go_loopw [22] (fun i wr => i = .int .i64 0 ∧ Box (x7 = wr)) (fun _ _ => 0)
              case atStart => exact ⟨rfl, ⟨rfl⟩⟩
              case round =>
                obtain ⟨rfl, HQ9⟩ := hrel
                go_wp2
                go_ret
                exact ⟨rfl, HQ9.out ▸ HWB.out⟩
          · have HLA : Box (∀ h0 : 0 < RR.length, (RR[RR.length - 1]'(by omega)).l = true) := ⟨fun h0 => by
              cases e : (RR[RR.length - 1]'(by omega)).l
              · exact absurd ⟨h0, e⟩ hbad
              · rfl⟩
            have HCO : Box (Calls Try.prog 18 #[.slice ra k rc] wr fun e w' => ∃ v C, e = .returned (.tuple #[v, .int .i64 0]) ∧ Chs w' wr.heap.size v C ∧ C.map (fun c => c.M.map pl) = (chS L).1 ∧ Below wr.heap.size wr w') := ⟨by
              have h1 := HRR.out.1
              have := changes_ok ra rc RR wr HRE.out (by omega) HLA.out
              rw [h1, HL.out.1] at this
              exact this⟩
            have HCL : Box ((chS L).2 = []) := ⟨chS_closed L (fun h0 => by
              have h1 := HRR.out.1
              have h2 := HL.out.2
              rw [HLR.out _ (by omega) (by omega)]
              have hh : L.length - 1 = RR.length - 1 := by omega
              simp only [hh]
              exact HLA.out (by omega))⟩
            have HRG : Box (∀ x, Below wr.heap.size wr x → Calls Try.prog 19 #[.slice ua k uc] x fun e w' => ∃ (v : Value) (Wn : List Wx), e = .returned (.tuple #[v, .int .i64 0]) ∧ w'.ownsRow x.heap.size 53 1 v Wn.length (Wn.map wsl).flatten ∧ (∀ y ∈ Wn, y.P.length = y.l ∧ w'.ownsRow x.heap.size 37 2 (.slice y.a y.l y.c) y.l (y.P.map ic).flatten) ∧ Wn.map (·.P) = (chS L).1 ∧ Below x.heap.size x w') := ⟨fun x hx => by
              have := rch_any ua uc L x (HTM.out x hx) (by rw [HL.out.2]; omega)
              rw [HL.out.2] at this
              refine this.mono fun e w' ⟨h1, h2⟩ => ?_
              rcases h2 with ⟨h3, _⟩ | ⟨_, v, Wn, h3, h4, h5, h6⟩
              · exact absurd HCL.out h3
              · exact ⟨v, Wn, h3, h4, h5, h6, h1⟩⟩
            clear hbad hcnd
            rcases hend with hend | ⟨hend1, hend2⟩
            · have hc1 : ¬ (k : Int) < (n : Int) := by omega
              clear hend
              go_upto_region 25 with (go_at_call 18; refine HCO.out.mono ?_; rintro e x6 ⟨cv, C, rfl, hC1, hC2, hC3⟩; obtain ⟨cva, cvc, rfl⟩ := own_form2 hC1.row; have H6 : Box (Chs x6 wr.heap.size (.slice cva C.length cvc) C ∧ C.map (fun c => c.M.map pl) = (chS L).1 ∧ Below wr.heap.size wr x6) := ⟨hC1, hC2, hC3⟩; clear hC1 hC2 hC3)
              go_upto_region 26 with (go_at_call 19; refine (HRG.out x6 H6.out.2.2).mono ?_; rintro e x7 ⟨dv, Wn, rfl, hD1, hD2, hD3, hD4⟩; obtain ⟨dva, dvc, rfl⟩ := own_form2 hD1; have H7 : Box (Chs x7 wr.heap.size (.slice cva C.length cvc) C ∧ x7.ownsRow x6.heap.size 53 1 (.slice dva Wn.length dvc) Wn.length (Wn.map wsl).flatten ∧ (∀ y ∈ Wn, y.P.length = y.l ∧ x7.ownsRow x6.heap.size 37 2 (.slice y.a y.l y.c) y.l (y.P.map ic).flatten) ∧ Wn.map (·.P) = (chS L).1 ∧ Below w.heap.size w x7) := ⟨H6.out.1.to hD4, hD1, hD2, hD3, below_to HX2.out.2 (below_to H6.out.2.2 hD4)⟩; clear hD1 hD2 hD3 hD4)
              obtain ⟨cl, hcl⟩ : ∃ cl, C.length = cl := ⟨_, rfl⟩
              have HCW : Box (C.length = cl ∧ Wn.length = cl ∧ C.map (fun c => c.M.map pl) = Wn.map (·.P)) := ⟨hcl, by
                have h1 := congrArg List.length H6.out.2.1
                have h2 := congrArg List.length H7.out.2.2.2.1
                rw [List.length_map] at h1 h2
                omega, by rw [H6.out.2.1, H7.out.2.2.2.1]⟩
              have hdl := HCW.out.2.1
              rw [hcl, hdl] at H7 ⊢
              rw [hcl] at H6
              obtain ⟨wz, hwz⟩ : ∃ x, x = wr := ⟨_, rfl⟩
              clear hcl hdl hwz
              go_upto_region 28 with fail
              go_wp2
              go_loopw [22] (fun i wr => ∃ j : Nat, j ≤ cl ∧ i = .int .i64 (j : Int) ∧ Box (Below x7.heap.size x7 wr)) (fun i _ => cl - (intOf i).toNat)
              case atStart => exact ⟨0, Nat.zero_le _, rfl, ⟨Below.refl _ _⟩⟩
              case round =>
                obtain ⟨ii, hii, rfl, HW⟩ := hrel
                by_cases hi3 : ii < cl
                · have hi1 : decide ((ii : Int) < (cl : Int)) = true := by simp; omega
                  have hiC : ii < C.length := by have := HCW.out.1; omega
                  have hiW : ii < Wn.length := by have := HCW.out.2.1; omega
                  obtain ⟨gc, oc, hce, hcb, hcr⟩ := (own_tb (fun _ => rfl) (by have := H7.out.1.row; rw [HCW.out.1] at this; exact this) HCW.out.1 : Tb x7 cva 1 slc C) (by omega)
                  subst hce
                  obtain ⟨gw, ow, hwe, hwb2, hwr⟩ := (own_tb (fun _ => rfl) H7.out.2.1 HCW.out.2.1 : Tb x7 dva 1 wsl Wn) (by omega)
                  subst hwe
                  have hcr1 := hcr ii hiC 0 _ rfl
                  have hwr1 := hwr ii hiW 0 _ rfl
                  have hcI := H7.out.1.imgs C[ii] (List.getElem_mem hiC)
                  have hcl := (H7.out.1.im C[ii] (List.getElem_mem hiC)).1
                  have hwI := H7.out.2.2.1 Wn[ii] (List.getElem_mem hiW)
                  have hEQ : C[ii].M.map pl = Wn[ii].P := by
                    have e3 : (C.map (fun c => c.M.map pl))[ii]? = (Wn.map (·.P))[ii]? := by rw [HCW.out.2.2]
                    rw [List.getElem?_eq_getElem (by simpa using hiC), List.getElem?_eq_getElem (by simpa using hiW)] at e3
                    simpa using e3
                  have hPm : Wn[ii].P ∈ (chS L).1 := by rw [← H7.out.2.2.2.1]; exact List.mem_map_of_mem (List.getElem_mem hiW)
                  obtain ⟨⟨ca, cll, ccc, cM⟩, hCC⟩ : ∃ c, C[ii] = c := ⟨_, rfl⟩
                  obtain ⟨⟨wa, wl, wc, P⟩, hWW⟩ : ∃ c, Wn[ii] = c := ⟨_, rfl⟩
                  simp only [hCC] at hcr1 hcI hcl hEQ
                  simp only [hWW] at hwr1 hwI hEQ hPm
                  rw [Nat.mul_one, Nat.add_zero] at hcr1 hwr1
                  have hPl : P.length = cll := by rw [← hEQ, List.length_map, hcl]
                  have hwl : wl = cll := by rw [← hwI.1]; exact hPl
                  subst hwl
                  have HF : Box (∀ x, Below wr.heap.size wr x → x.cell? ⟨gc, oc + ii, none⟩ = some (.slice ca wl ccc) ∧ x.cell? ⟨gw, ow + ii, none⟩ = some (.slice wa wl wc) ∧ Imgs x ca cM ∧ Tb x wa 2 ic P) := ⟨fun x hx => by
                    have h6 := below_to HW.out hx
                    exact ⟨(h6.cell hcb).trans hcr1, (h6.cell hwb2).trans hwr1, hcI.below h6, (own_tb (f := ic) (fun _ => rfl) hwI.2 hwI.1).below h6⟩⟩
                  have HLN : Box (cM.length = wl ∧ cM.map pl = P ∧ P.length = wl ∧ wl ≤ 1000) := ⟨hcl, hEQ, hPl, by
                    have h2 := mem_len (chS L).1 P hPm
                    have e1 := (chS_split L).1
                    rw [HCL.out] at e1
                    simp only [List.map_nil, List.append_nil] at e1
                    rw [← e1, HL.out.2] at h2
                    omega⟩
                  have HII : Box (ii < cl) := ⟨hi3⟩
                  have HMO9 : Box (∀ x, Below wr.heap.size wr x → Calls Try.prog 17 #[.slice ca wl ccc] x fun e w' => ∃ a' c', e = .returned (.slice a' wl c') ∧ Tb w' a' 2 ic P ∧ Below x.heap.size x w') := ⟨fun x hx => by
                    have := modelOf_any ca ccc cM x (HF.out x hx).2.2.1 (by rw [HLN.out.1]; exact HLN.out.2.2.2)
                    rw [HLN.out.1] at this
                    refine this.mono fun e w' ⟨v, h1, h2⟩ => ?_
                    have hrow := h2.row
                    rw [HLN.out.2.1, List.take_of_length_le (by rw [HLN.out.2.2.1]; exact Nat.le_refl _)] at hrow
                    obtain ⟨a', c', rfl⟩ := own_form2 hrow
                    exact ⟨a', c', h1, own_tb (fun _ => rfl) hrow HLN.out.2.2.1, h2.bel⟩⟩
                  have hw8 : IntKind.i64.wrap ((ii : Int) + 1) = ((ii + 1 : Nat) : Int) := by
                    have hc9 := len_ch L
                    have := congrArg List.length H7.out.2.2.2.1
                    rw [List.length_map, HCW.out.2.1] at this
                    have := HL.out.2
                    rw [IntKind.wrap_i64]
                    omega
                  clear hcr hwr hcr1 hwr1 hcI hcl hwI hEQ hCC hWW hPl hiC hiW hPm
                  go_upto_region 31 with fail
                  refine Seq.begin_any (by kernel_rfl) (fun wd hd => ?_)
                  have hbd : Below wr.heap.size wr wd := hd.mono (Nat.le_refl _)
                  refine Seq.take_lat (i := 0) (v := ?_) rfl (by kernel_rfl) (by kernel_rfl) (by kernel_rfl) (fun _ _ _ h => h) (by rfl) ?_ ?_
                  rotate_left
                  · intro w' hLat; change Below _ _ _ at hLat; go_simp <;> with_reducible rfl
                  try simp only [Act.put, List.setIfInBounds_toArray, List.set_cons_zero, List.set_cons_succ, List.getElem_toArray, List.getElem_cons_zero]
                  refine Seq.take_lat (i := 1) (v := ?_) rfl (by kernel_rfl) (by kernel_rfl) (by kernel_rfl) (fun _ _ _ h => h) (by rfl) ?_ ?_
                  rotate_left
                  · intro w' hLat; change Below _ _ _ at hLat; go_simp <;> with_reducible rfl
                  try simp only [Act.put, List.setIfInBounds_toArray, List.set_cons_zero, List.set_cons_succ, List.getElem_toArray, List.getElem_cons_zero, List.getElem_cons_succ]
                  refine Seq.take_lat (i := 2) (v := .pointer (some ⟨gc, oc + ii * 1, none⟩)) rfl (by kernel_rfl) (by kernel_rfl) (by kernel_rfl) (fun _ _ _ h => h) (by rfl) (fun w' hLat => exec_idxT 55 27 Try.underlying55 1 (by kernel_rfl) _ _ rfl gc oc cl cvc ii rfl rfl HII.out) ?_
                  try simp only [Act.put, List.setIfInBounds_toArray, List.set_cons_zero, List.set_cons_succ, List.getElem_toArray, List.getElem_cons_zero, List.getElem_cons_succ]
                  refine Seq.take_lat (i := 3) (v := .slice ca wl ccc) rfl (by kernel_rfl) (by kernel_rfl) (by kernel_rfl) (fun _ _ _ h => h) (by rfl) (fun w' hLat => exec_load1 27 _ _ rfl Try.underlying27 rfl _ rfl _ (by rw [Nat.mul_one]; exact (HF.out w' (below_to hbd hLat)).1)) ?_
                  try simp only [Act.put, List.setIfInBounds_toArray, List.set_cons_zero, List.set_cons_succ, List.getElem_toArray, List.getElem_cons_zero, List.getElem_cons_succ]
                  refine Seq.take_lat (i := 5) (v := ?_) rfl (by kernel_rfl) (by kernel_rfl) (by kernel_rfl) (fun _ _ _ h => h) (by rfl) ?_ ?_
                  rotate_left
                  · intro w' hLat; change Below _ _ _ at hLat; go_simp <;> with_reducible rfl
                  try simp only [Act.put, List.setIfInBounds_toArray, List.set_cons_zero, List.set_cons_succ, List.getElem_toArray, List.getElem_cons_zero, List.getElem_cons_succ]
                  refine Seq.take_lat (i := 6) (v := ?_) rfl (by kernel_rfl) (by kernel_rfl) (by kernel_rfl) (fun _ _ _ h => h) (by rfl) ?_ ?_
                  rotate_left
                  · intro w' hLat; change Below _ _ _ at hLat; go_simp <;> with_reducible rfl
                  try simp only [Act.put, List.setIfInBounds_toArray, List.set_cons_zero, List.set_cons_succ, List.getElem_toArray, List.getElem_cons_zero, List.getElem_cons_succ]
                  refine Seq.take_lat (i := 7) (v := .pointer (some ⟨gw, ow + ii * 1, none⟩)) rfl (by kernel_rfl) (by kernel_rfl) (by kernel_rfl) (fun _ _ _ h => h) (by rfl) (fun w' hLat => exec_idxT 58 53 Try.underlying58 1 (by kernel_rfl) _ _ rfl gw ow cl dvc ii rfl rfl HII.out) ?_
                  try simp only [Act.put, List.setIfInBounds_toArray, List.set_cons_zero, List.set_cons_succ, List.getElem_toArray, List.getElem_cons_zero, List.getElem_cons_succ]
                  refine Seq.take_lat (i := 8) (v := .slice wa wl wc) rfl (by kernel_rfl) (by kernel_rfl) (by kernel_rfl) (fun _ _ _ h => h) (by rfl) (fun w' hLat => exec_load1 53 _ _ rfl Try.underlying53 rfl _ rfl _ (by rw [Nat.mul_one]; exact (HF.out w' (below_to hbd hLat)).2.1)) ?_
                  try simp only [Act.put, List.setIfInBounds_toArray, List.set_cons_zero, List.set_cons_succ, List.getElem_toArray, List.getElem_cons_zero, List.getElem_cons_succ]
                  refine Seq.only_lat (i := 4) rfl (by kernel_rfl) (fun KK hK => ?_)
                  rw [if_pos (by rfl)]
                  go_simp
                  refine Calls.mono (HMO9.out wd hbd) ?_
                  rintro e x8 ⟨ma8, mc8, rfl, hT8, hb8⟩
                  refine hK.out _ _ hb8 ?_
                  clear hK KK
                  try simp only [Act.put, List.setIfInBounds_toArray, List.set_cons_zero, List.set_cons_succ, List.getElem_toArray, List.getElem_cons_zero, List.getElem_cons_succ]
                  refine Seq.only_lat (i := 9) rfl (by kernel_rfl) (fun KK hK => ?_)
                  rw [if_pos (by rfl)]
                  go_simp
                  refine Calls.mono (by have := same_any ma8 wa mc8 wc P x8 hT8 (HF.out x8 (below_to hbd hb8)).2.2.2 (by rw [HLN.out.2.2.1]; exact HLN.out.2.2.2); rw [HLN.out.2.2.1] at this; exact this) ?_
                  rintro e x9 ⟨rfl, hb9⟩
                  refine hK.out _ _ hb9 ?_
                  clear hK KK
                  try simp only [Act.put, List.setIfInBounds_toArray, List.set_cons_zero, List.set_cons_succ, List.getElem_toArray, List.getElem_cons_zero, List.getElem_cons_succ]
                  refine Seq.take_lat (i := 10) (v := ?_) rfl (by kernel_rfl) (by kernel_rfl) (by kernel_rfl) (fun _ _ _ h => h) (by rfl) ?_ ?_
                  rotate_left
                  · intro w' hLat; change Below _ _ _ at hLat; go_simp <;> with_reducible rfl
                  try simp only [Act.put, List.setIfInBounds_toArray, List.set_cons_zero, List.set_cons_succ, List.getElem_toArray, List.getElem_cons_zero, List.getElem_cons_succ]
                  refine wpAnyH_done (by kernel_rfl) ?_ _
                  have HX9 : Box (Below x7.heap.size x7 x9) := ⟨below_to HW.out (below_to hbd (below_to hb8 hb9))⟩
                  clear hd hbd hb8 hb9 hT8
                  go_wp2
                  go_roundw
                  case rel => exact ⟨ii + 1, HII.out, by go_num, HX9⟩
                  case measure => simp [intOf]; have := HII.out; omega
                · obtain rfl : ii = cl := by omega
                  have hi1 : decide ((ii : Int) < (ii : Int)) = false := by simp
                  go_wp2
                  go_ret
                  exact ⟨rfl, below_to H7.out.2.2.2.2 HW.out⟩
            · have hc1 : (k : Int) < (n : Int) := by omega
              have hc2 : ¬ (k : Int) < (kl : Int) := by omega
              clear hend1 hend2
              go_upto_region 25 with (go_at_call 18; refine HCO.out.mono ?_; rintro e x6 ⟨cv, C, rfl, hC1, hC2, hC3⟩; obtain ⟨cva, cvc, rfl⟩ := own_form2 hC1.row; have H6 : Box (Chs x6 wr.heap.size (.slice cva C.length cvc) C ∧ C.map (fun c => c.M.map pl) = (chS L).1 ∧ Below wr.heap.size wr x6) := ⟨hC1, hC2, hC3⟩; clear hC1 hC2 hC3)
              go_upto_region 26 with (go_at_call 19; refine (HRG.out x6 H6.out.2.2).mono ?_; rintro e x7 ⟨dv, Wn, rfl, hD1, hD2, hD3, hD4⟩; obtain ⟨dva, dvc, rfl⟩ := own_form2 hD1; have H7 : Box (Chs x7 wr.heap.size (.slice cva C.length cvc) C ∧ x7.ownsRow x6.heap.size 53 1 (.slice dva Wn.length dvc) Wn.length (Wn.map wsl).flatten ∧ (∀ y ∈ Wn, y.P.length = y.l ∧ x7.ownsRow x6.heap.size 37 2 (.slice y.a y.l y.c) y.l (y.P.map ic).flatten) ∧ Wn.map (·.P) = (chS L).1 ∧ Below w.heap.size w x7) := ⟨H6.out.1.to hD4, hD1, hD2, hD3, below_to HX2.out.2 (below_to H6.out.2.2 hD4)⟩; clear hD1 hD2 hD3 hD4)
              obtain ⟨cl, hcl⟩ : ∃ cl, C.length = cl := ⟨_, rfl⟩
              have HCW : Box (C.length = cl ∧ Wn.length = cl ∧ C.map (fun c => c.M.map pl) = Wn.map (·.P)) := ⟨hcl, by
                have h1 := congrArg List.length H6.out.2.1
                have h2 := congrArg List.length H7.out.2.2.2.1
                rw [List.length_map] at h1 h2
                omega, by rw [H6.out.2.1, H7.out.2.2.2.1]⟩
              have hdl := HCW.out.2.1
              rw [hcl, hdl] at H7 ⊢
              rw [hcl] at H6
              obtain ⟨wz, hwz⟩ : ∃ x, x = wr := ⟨_, rfl⟩
              clear hcl hdl hwz
              go_upto_region 28 with fail
              go_wp2
              go_loopw [22] (fun i wr => ∃ j : Nat, j ≤ cl ∧ i = .int .i64 (j : Int) ∧ Box (Below x7.heap.size x7 wr)) (fun i _ => cl - (intOf i).toNat)
              case atStart => exact ⟨0, Nat.zero_le _, rfl, ⟨Below.refl _ _⟩⟩
              case round =>
                obtain ⟨ii, hii, rfl, HW⟩ := hrel
                by_cases hi3 : ii < cl
                · have hi1 : decide ((ii : Int) < (cl : Int)) = true := by simp; omega
                  have hiC : ii < C.length := by have := HCW.out.1; omega
                  have hiW : ii < Wn.length := by have := HCW.out.2.1; omega
                  obtain ⟨gc, oc, hce, hcb, hcr⟩ := (own_tb (fun _ => rfl) (by have := H7.out.1.row; rw [HCW.out.1] at this; exact this) HCW.out.1 : Tb x7 cva 1 slc C) (by omega)
                  subst hce
                  obtain ⟨gw, ow, hwe, hwb2, hwr⟩ := (own_tb (fun _ => rfl) H7.out.2.1 HCW.out.2.1 : Tb x7 dva 1 wsl Wn) (by omega)
                  subst hwe
                  have hcr1 := hcr ii hiC 0 _ rfl
                  have hwr1 := hwr ii hiW 0 _ rfl
                  have hcI := H7.out.1.imgs C[ii] (List.getElem_mem hiC)
                  have hcl := (H7.out.1.im C[ii] (List.getElem_mem hiC)).1
                  have hwI := H7.out.2.2.1 Wn[ii] (List.getElem_mem hiW)
                  have hEQ : C[ii].M.map pl = Wn[ii].P := by
                    have e3 : (C.map (fun c => c.M.map pl))[ii]? = (Wn.map (·.P))[ii]? := by rw [HCW.out.2.2]
                    rw [List.getElem?_eq_getElem (by simpa using hiC), List.getElem?_eq_getElem (by simpa using hiW)] at e3
                    simpa using e3
                  have hPm : Wn[ii].P ∈ (chS L).1 := by rw [← H7.out.2.2.2.1]; exact List.mem_map_of_mem (List.getElem_mem hiW)
                  obtain ⟨⟨ca, cll, ccc, cM⟩, hCC⟩ : ∃ c, C[ii] = c := ⟨_, rfl⟩
                  obtain ⟨⟨wa, wl, wc, P⟩, hWW⟩ : ∃ c, Wn[ii] = c := ⟨_, rfl⟩
                  simp only [hCC] at hcr1 hcI hcl hEQ
                  simp only [hWW] at hwr1 hwI hEQ hPm
                  rw [Nat.mul_one, Nat.add_zero] at hcr1 hwr1
                  have hPl : P.length = cll := by rw [← hEQ, List.length_map, hcl]
                  have hwl : wl = cll := by rw [← hwI.1]; exact hPl
                  subst hwl
                  have HF : Box (∀ x, Below wr.heap.size wr x → x.cell? ⟨gc, oc + ii, none⟩ = some (.slice ca wl ccc) ∧ x.cell? ⟨gw, ow + ii, none⟩ = some (.slice wa wl wc) ∧ Imgs x ca cM ∧ Tb x wa 2 ic P) := ⟨fun x hx => by
                    have h6 := below_to HW.out hx
                    exact ⟨(h6.cell hcb).trans hcr1, (h6.cell hwb2).trans hwr1, hcI.below h6, (own_tb (f := ic) (fun _ => rfl) hwI.2 hwI.1).below h6⟩⟩
                  have HLN : Box (cM.length = wl ∧ cM.map pl = P ∧ P.length = wl ∧ wl ≤ 1000) := ⟨hcl, hEQ, hPl, by
                    have h2 := mem_len (chS L).1 P hPm
                    have e1 := (chS_split L).1
                    rw [HCL.out] at e1
                    simp only [List.map_nil, List.append_nil] at e1
                    rw [← e1, HL.out.2] at h2
                    omega⟩
                  have HII : Box (ii < cl) := ⟨hi3⟩
                  have HMO9 : Box (∀ x, Below wr.heap.size wr x → Calls Try.prog 17 #[.slice ca wl ccc] x fun e w' => ∃ a' c', e = .returned (.slice a' wl c') ∧ Tb w' a' 2 ic P ∧ Below x.heap.size x w') := ⟨fun x hx => by
                    have := modelOf_any ca ccc cM x (HF.out x hx).2.2.1 (by rw [HLN.out.1]; exact HLN.out.2.2.2)
                    rw [HLN.out.1] at this
                    refine this.mono fun e w' ⟨v, h1, h2⟩ => ?_
                    have hrow := h2.row
                    rw [HLN.out.2.1, List.take_of_length_le (by rw [HLN.out.2.2.1]; exact Nat.le_refl _)] at hrow
                    obtain ⟨a', c', rfl⟩ := own_form2 hrow
                    exact ⟨a', c', h1, own_tb (fun _ => rfl) hrow HLN.out.2.2.1, h2.bel⟩⟩
                  have hw8 : IntKind.i64.wrap ((ii : Int) + 1) = ((ii + 1 : Nat) : Int) := by
                    have hc9 := len_ch L
                    have := congrArg List.length H7.out.2.2.2.1
                    rw [List.length_map, HCW.out.2.1] at this
                    have := HL.out.2
                    rw [IntKind.wrap_i64]
                    omega
                  clear hcr hwr hcr1 hwr1 hcI hcl hwI hEQ hCC hWW hPl hiC hiW hPm
                  go_upto_region 31 with fail
                  refine Seq.begin_any (by kernel_rfl) (fun wd hd => ?_)
                  have hbd : Below wr.heap.size wr wd := hd.mono (Nat.le_refl _)
                  refine Seq.take_lat (i := 0) (v := ?_) rfl (by kernel_rfl) (by kernel_rfl) (by kernel_rfl) (fun _ _ _ h => h) (by rfl) ?_ ?_
                  rotate_left
                  · intro w' hLat; change Below _ _ _ at hLat; go_simp <;> with_reducible rfl
                  try simp only [Act.put, List.setIfInBounds_toArray, List.set_cons_zero, List.set_cons_succ, List.getElem_toArray, List.getElem_cons_zero]
                  refine Seq.take_lat (i := 1) (v := ?_) rfl (by kernel_rfl) (by kernel_rfl) (by kernel_rfl) (fun _ _ _ h => h) (by rfl) ?_ ?_
                  rotate_left
                  · intro w' hLat; change Below _ _ _ at hLat; go_simp <;> with_reducible rfl
                  try simp only [Act.put, List.setIfInBounds_toArray, List.set_cons_zero, List.set_cons_succ, List.getElem_toArray, List.getElem_cons_zero, List.getElem_cons_succ]
                  refine Seq.take_lat (i := 2) (v := .pointer (some ⟨gc, oc + ii * 1, none⟩)) rfl (by kernel_rfl) (by kernel_rfl) (by kernel_rfl) (fun _ _ _ h => h) (by rfl) (fun w' hLat => exec_idxT 55 27 Try.underlying55 1 (by kernel_rfl) _ _ rfl gc oc cl cvc ii rfl rfl HII.out) ?_
                  try simp only [Act.put, List.setIfInBounds_toArray, List.set_cons_zero, List.set_cons_succ, List.getElem_toArray, List.getElem_cons_zero, List.getElem_cons_succ]
                  refine Seq.take_lat (i := 3) (v := .slice ca wl ccc) rfl (by kernel_rfl) (by kernel_rfl) (by kernel_rfl) (fun _ _ _ h => h) (by rfl) (fun w' hLat => exec_load1 27 _ _ rfl Try.underlying27 rfl _ rfl _ (by rw [Nat.mul_one]; exact (HF.out w' (below_to hbd hLat)).1)) ?_
                  try simp only [Act.put, List.setIfInBounds_toArray, List.set_cons_zero, List.set_cons_succ, List.getElem_toArray, List.getElem_cons_zero, List.getElem_cons_succ]
                  refine Seq.take_lat (i := 5) (v := ?_) rfl (by kernel_rfl) (by kernel_rfl) (by kernel_rfl) (fun _ _ _ h => h) (by rfl) ?_ ?_
                  rotate_left
                  · intro w' hLat; change Below _ _ _ at hLat; go_simp <;> with_reducible rfl
                  try simp only [Act.put, List.setIfInBounds_toArray, List.set_cons_zero, List.set_cons_succ, List.getElem_toArray, List.getElem_cons_zero, List.getElem_cons_succ]
                  refine Seq.take_lat (i := 6) (v := ?_) rfl (by kernel_rfl) (by kernel_rfl) (by kernel_rfl) (fun _ _ _ h => h) (by rfl) ?_ ?_
                  rotate_left
                  · intro w' hLat; change Below _ _ _ at hLat; go_simp <;> with_reducible rfl
                  try simp only [Act.put, List.setIfInBounds_toArray, List.set_cons_zero, List.set_cons_succ, List.getElem_toArray, List.getElem_cons_zero, List.getElem_cons_succ]
                  refine Seq.take_lat (i := 7) (v := .pointer (some ⟨gw, ow + ii * 1, none⟩)) rfl (by kernel_rfl) (by kernel_rfl) (by kernel_rfl) (fun _ _ _ h => h) (by rfl) (fun w' hLat => exec_idxT 58 53 Try.underlying58 1 (by kernel_rfl) _ _ rfl gw ow cl dvc ii rfl rfl HII.out) ?_
                  try simp only [Act.put, List.setIfInBounds_toArray, List.set_cons_zero, List.set_cons_succ, List.getElem_toArray, List.getElem_cons_zero, List.getElem_cons_succ]
                  refine Seq.take_lat (i := 8) (v := .slice wa wl wc) rfl (by kernel_rfl) (by kernel_rfl) (by kernel_rfl) (fun _ _ _ h => h) (by rfl) (fun w' hLat => exec_load1 53 _ _ rfl Try.underlying53 rfl _ rfl _ (by rw [Nat.mul_one]; exact (HF.out w' (below_to hbd hLat)).2.1)) ?_
                  try simp only [Act.put, List.setIfInBounds_toArray, List.set_cons_zero, List.set_cons_succ, List.getElem_toArray, List.getElem_cons_zero, List.getElem_cons_succ]
                  refine Seq.only_lat (i := 4) rfl (by kernel_rfl) (fun KK hK => ?_)
                  rw [if_pos (by rfl)]
                  go_simp
                  refine Calls.mono (HMO9.out wd hbd) ?_
                  rintro e x8 ⟨ma8, mc8, rfl, hT8, hb8⟩
                  refine hK.out _ _ hb8 ?_
                  clear hK KK
                  try simp only [Act.put, List.setIfInBounds_toArray, List.set_cons_zero, List.set_cons_succ, List.getElem_toArray, List.getElem_cons_zero, List.getElem_cons_succ]
                  refine Seq.only_lat (i := 9) rfl (by kernel_rfl) (fun KK hK => ?_)
                  rw [if_pos (by rfl)]
                  go_simp
                  refine Calls.mono (by have := same_any ma8 wa mc8 wc P x8 hT8 (HF.out x8 (below_to hbd hb8)).2.2.2 (by rw [HLN.out.2.2.1]; exact HLN.out.2.2.2); rw [HLN.out.2.2.1] at this; exact this) ?_
                  rintro e x9 ⟨rfl, hb9⟩
                  refine hK.out _ _ hb9 ?_
                  clear hK KK
                  try simp only [Act.put, List.setIfInBounds_toArray, List.set_cons_zero, List.set_cons_succ, List.getElem_toArray, List.getElem_cons_zero, List.getElem_cons_succ]
                  refine Seq.take_lat (i := 10) (v := ?_) rfl (by kernel_rfl) (by kernel_rfl) (by kernel_rfl) (fun _ _ _ h => h) (by rfl) ?_ ?_
                  rotate_left
                  · intro w' hLat; change Below _ _ _ at hLat; go_simp <;> with_reducible rfl
                  try simp only [Act.put, List.setIfInBounds_toArray, List.set_cons_zero, List.set_cons_succ, List.getElem_toArray, List.getElem_cons_zero, List.getElem_cons_succ]
                  refine wpAnyH_done (by kernel_rfl) ?_ _
                  have HX9 : Box (Below x7.heap.size x7 x9) := ⟨below_to HW.out (below_to hbd (below_to hb8 hb9))⟩
                  clear hd hbd hb8 hb9 hT8
                  go_wp2
                  go_roundw
                  case rel => exact ⟨ii + 1, HII.out, by go_num, HX9⟩
                  case measure => simp [intOf]; have := HII.out; omega
                · obtain rfl : ii = cl := by omega
                  have hi1 : decide ((ii : Int) < (ii : Int)) = false := by simp
                  go_wp2
                  go_ret
                  exact ⟨rfl, below_to H7.out.2.2.2.2 HW.out⟩
theorem recordChanges_far (a : Option Addr) (n cap : Nat) (ka : Option Addr) (kl kc : Nat) (short : Bool) (w : World) (hf : ¬ n ≤ 20) (hnm : n ≤ maxLen) :
    Calls Try.prog 4 #[.slice a n cap, .slice ka kl kc, .bool short] w fun e w' => e = .returned (.bool true) ∧ Below w.heap.size w w' := by
  unfold maxLen at hnm
  have hg1 : (20 : Int) < (n : Int) := by omega
  go_enter Try.func4, Try.ntmps4
  go_wp2_with (go_at_call 8; refine (awake_any _).mono ?_; rintro e x1 ⟨rfl, hb⟩; have H1 : Box (Below w.heap.size w x1) := ⟨hb⟩; clear hb)
  go_ret
  exact ⟨rfl, H1.out⟩
theorem recordChanges_walk (a : Option Addr) (cap : Nat) (M : List Im) (ka : Option Addr) (kl kc : Nat) (K : List Bool) (short : Bool) (W : World) (h : Imgs W a M) (hm : M.length ≤ maxLen) (hK : Bools W ka kl K ∧ kl ≤ maxLen) :
    Calls Try.prog 4 #[.slice a M.length cap, .slice ka kl kc, .bool short] W fun e w' => e = .returned (.bool true) ∧ Below W.heap.size W w' := by
  by_cases h1 : M.length ≤ 20
  · by_cases h2 : M.length = 0 ∨ (short = true ∧ 2 ≤ M.length)
    · exact recordChanges_e a cap M ka kl kc K short W h hK.1 h1 hK.2 h2
    · refine recordChanges_o a cap M ka kl kc K short W h hK.1 h1 hK.2 ⟨by omega, fun hs => ?_⟩
      cases Nat.lt_or_ge M.length 2 with
      | inl h3 => exact h3
      | inr h3 => exact absurd (.inr ⟨hs, h3⟩) h2
  · exact recordChanges_far a M.length cap ka kl kc short W h1 hm
end Go.Proofs.Ytgdjdlakndajgaa
