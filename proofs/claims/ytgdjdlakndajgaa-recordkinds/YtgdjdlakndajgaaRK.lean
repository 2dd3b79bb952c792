/-
  RecordKinds: bytes whose head may not be, or of another length, are no record.
-/
import Derived.Test.YtgdjdlakndajgaaR6
import Derived.Test.YtgdjdlakndajgaaRE
namespace Go.Proofs.Ytgdjdlakndajgaa
set_option linter.unusedVariables false
open Go.RowKit Plain

def xr (z o : Int) : Int := bits .xor .u8 z o
def fine (k : Nat) (o : Int) : Bool := decide (o = 0) || (decide (k = 1) && decide (o = 1))
def chk (l : Bool) (k : Nat) (o : Nat) : Bool :=
  let H := num ((bytesOf (hd l) 8).set k (xr (byteAt (hd l) k) (o : Int))) 0 8
  (fine k (o : Int) == (decide (H = 1) || decide (H = 257))) && (!fine k (o : Int) || decide (H = hd (l != decide ((o : Int) = 1)))) && decide (0 ≤ xr (byteAt (hd l) k) (o : Int)) && decide (xr (byteAt (hd l) k) (o : Int) ≤ 255)
theorem chk_all : ([false, true].all fun l => (List.range 8).all fun k => (List.range 256).all fun o => chk l k o) = true := by decide +kernel
theorem chk_at (l : Bool) (k o : Nat) (hk : k < 8) (ho : o < 256) : chk l k o = true := by
  have h := chk_all
  rw [List.all_eq_true] at h
  have h1 := h l (by cases l <;> simp)
  rw [List.all_eq_true] at h1
  have h2 := h1 k (by simpa using hk)
  rw [List.all_eq_true] at h2
  exact h2 o (by simpa using ho)
/-- The bytes with one of the head's turned. -/
def tn (x : (Int × List Int) × Bool) (k : Nat) (o : Int) : List Int := (putP x).set k (xr ((putP x).getD k 0) o)
theorem tn_head (x : (Int × List Int) × Bool) (k : Nat) (o : Int) (hk : k < 8) : num (tn x k o) 0 8 = num ((bytesOf (hd x.2) 8).set k (xr (byteAt (hd x.2) k) o)) 0 8 := by
  have hl : k < (putP x).length := by simp [putP, length_bytesOf]; omega
  refine num_congr _ _ _ _ _ (fun t ht => ?_)
  rw [Nat.zero_add]
  unfold tn
  by_cases e : k = t
  · subst e
    rw [putP_lo x k hk]
    simp [List.getD, hl, length_bytesOf, hk]
  · have h1 := putP_lo x t ht
    have h2 := bytesOf_get (hd x.2) 8 t ht
    simp only [List.getD, List.getElem?_set, if_neg e] at h1 h2 ⊢
    rw [h1, h2]
theorem tn_mid (x : (Int × List Int) × Bool) (k : Nat) (o : Int) (hk : k < 8) (h : N64 x.1.1) : num (tn x k o) 8 8 = x.1.1 := by
  refine num_at _ _ _ (fun t ht => ?_) h
  have h1 := putP_mid x t ht
  unfold tn
  simp only [List.getD, List.getElem?_set, if_neg (show ¬ k = 8 + t by omega)] at h1 ⊢
  exact h1
theorem tn_len (x : (Int × List Int) × Bool) (k : Nat) (o : Int) (h : x.1.2.length = 160) : (tn x k o).length = 176 := by
  unfold tn
  rw [List.length_set, len_putP x h]
theorem tn_fit (x : (Int × List Int) × Bool) (k : Nat) (o : Nat) (hk : k < 8) (ho : o < 256) (h : x.1.2.length = 160) : fitR (tn x k o) ↔ fine k (o : Int) = true := by
  have hc := chk_at x.2 k o hk ho
  simp only [chk, Bool.and_eq_true, beq_iff_eq] at hc
  unfold fitR
  rw [tn_head x k o hk, hc.1.1.1]
  simp [tn_len x k o h]
theorem tn_last (x : (Int × List Int) × Bool) (k : Nat) (o : Nat) (hk : k < 8) (ho : o < 256) (hf : fine k (o : Int) = true) (h : N64 x.1.1) : (getP (tn x k o)).1.1 = x.1.1 ∧ (getP (tn x k o)).2 = (x.2 != decide ((o : Int) = 1)) := by
  have hc := chk_at x.2 k o hk ho
  simp only [chk, Bool.and_eq_true, beq_iff_eq, hf, Bool.not_true, Bool.false_or, decide_eq_true_eq] at hc
  unfold getP
  refine ⟨tn_mid x k o hk h, ?_⟩
  show decide (num (tn x k o) 0 8 = 257) = _
  rw [tn_head x k o hk, hc.1.1.2]
  cases (x.2 != decide ((o : Int) = 1)) <;> rfl
theorem tn_bd (x : (Int × List Int) × Bool) (k o : Nat) (hk : k < 8) (ho : o < 256) : 0 ≤ xr ((putP x).getD k 0) (o : Int) ∧ xr ((putP x).getD k 0) (o : Int) ≤ 255 := by
  have hc := chk_at x.2 k o hk ho
  simp only [chk, Bool.and_eq_true, decide_eq_true_eq] at hc
  rw [putP_lo x k hk]
  exact ⟨hc.1.2, hc.2⟩
theorem byt_tn (x : (Int × List Int) × Bool) (k o : Nat) (hk : k < 8) (ho : o < 256) (h : Byt x.1.2) : Byt (tn x k o) := byt_set _ _ _ (byt_putP x h) (tn_bd x k o hk ho)
/-- Images of one. -/
theorem imgs_one {w : World} {m : Im} (h : Bytes w m.ba m.bl m.bs ∧ N64 m.blk ∧ m.bl ≤ m.bc ∧ m.bc ≤ maxLen) : Imgs (w.alloc (.cells (imc m).toArray 25)) (some ⟨w.heap.size, 0, none⟩) [m] :=
  ⟨fun _ => ⟨_, _, rfl, by simp, fun i hi => range_arr (al_at rfl) _ (fun j v hv => by
    obtain rfl : i = 0 := by simpa using hi
    simpa using hv)⟩, fun m' hm => by
    simp only [List.mem_cons, List.not_mem_nil, or_false] at hm
    subst hm
    exact ⟨h.1.below ((Below.refl _ _).alloc (Nat.le_refl _) _), h.2⟩⟩
theorem ig_one {w w' : World} {m : Im} {v : Value} {X : List Im} (h : Ig w w' false [m] 1 v X) : ∃ g c, ∃ m1 : Im, v = .slice (some ⟨g, 0, none⟩) 1 c ∧ g < w'.heap.size ∧ w'.rangeAt g 0 (imc m1) ∧ pl m1 = (m.blk, padTo m.bs 160) ∧ m1.bl = 160 ∧ OIm w' w.heap.size m1 := by
  have hl := h.len
  match X, hl with
  | [m1], _ =>
    have hp := h.pls
    simp [imgP, szP, pl] at hp
    obtain ⟨a, c, rfl⟩ := own_form2 h.im.row
    have ho := h.im.byt m1 (by simp)
    obtain ⟨g, o, e, hlt, hr⟩ := h.im.imgs.tb (by simp)
    have hro := h.im.row
    rcases hro.2 with ⟨_, h0⟩ | ⟨g', cap', cur, h3, _, hg, _⟩
    · simp at h0
    · simp only [Value.slice.injEq, true_and] at h3
      obtain ⟨h3a, rfl⟩ := h3
      rw [e] at h3a
      simp only [Option.some.injEq, Addr.mk.injEq, and_true] at h3a
      rw [h3a.1] at hlt
      rw [h3a.1, h3a.2] at hr
      rw [e, h3a.1, h3a.2]
      have hr0 := hr 0 (by simp)
      refine ⟨g', c, m1, rfl, hlt, by simpa using hr0, by simp [pl, hp], ?_, ho⟩
      have := ho.own.1
      rw [List.length_map, hp.2, length_padTo] at this
      omega
set_option maxRecDepth 20000 in
set_option maxHeartbeats 2000000 in
theorem recordKinds_core (m0 : Im) (last : Bool) (at' over : Nat) (cut : Bool) (w : World) (hB : Bytes w m0.ba m0.bl m0.bs ∧ N64 m0.blk ∧ m0.bl ≤ m0.bc ∧ m0.bc ≤ maxLen) (hat : at' < 256) (hov : over < 256) :
    Calls Try.prog 6 #[.agg (imc m0).toArray, .bool last, .int .u8 (at' : Int), .int .u8 (over : Int), .bool cut] w fun e w' => e = .returned (.bool true) ∧ Below w.heap.size w w' := by
  obtain ⟨b0, a0, l0, c0, s0⟩ := m0
  simp only at hB
  unfold imc
  obtain ⟨k, hk⟩ : ∃ k : Nat, at' % 8 = k := ⟨_, rfl⟩
  have hk8 : k < 8 := by omega
  obtain ⟨S, hS⟩ : ∃ S, w.heap.size = S := ⟨_, rfl⟩
  obtain ⟨w1, hw1⟩ : ∃ w1, w.alloc (.cells #[.int .u64 b0, .slice a0 l0 c0] 25) = w1 := ⟨_, rfl⟩
  have hb1 : Below w.heap.size w w1 := by rw [← hw1]; exact (Below.refl _ _).alloc (Nat.le_refl _) _
  have r1 : w1.heap[S]? = some (.cells #[.int .u64 b0, .slice a0 l0 c0] 25 (0, 0)) := by rw [← hw1]; exact al_at hS
  have hlt1 := (Array.getElem?_eq_some_iff.1 r1).1
  have HX : Box (∀ x, Below w1.heap.size w1 x → x.cell? ⟨S, 0, none⟩ = some (.int .u64 b0) ∧ x.rangeAt S 0 [.int .u64 b0, .slice a0 l0 c0] ∧ Bytes x a0 l0 s0) := ⟨fun x hx => by
    have r := (hx.block S hlt1).trans r1
    exact ⟨by rw [cell_of_row _ _ _ _ _ _ r]; rfl, range_arr r _ (fun j v hv => by simpa using hv), hB.1.below (below_to hb1 hx)⟩⟩
  have HB1 : Box (Below w.heap.size w w1 ∧ (N64 b0 ∧ l0 ≤ c0 ∧ c0 ≤ maxLen) ∧ Byt s0) := ⟨hb1, hB.2, hB.1.2.1⟩
  obtain ⟨x0, hx0⟩ : ∃ x : (Int × List Int) × Bool, ((b0, padTo s0 160), last) = x := ⟨_, rfl⟩
  clear hb1 r1 hlt1 hB
  go_enter Try.func6, Try.ntmps6
  go_upto_region 1 with fail
  (try simp only [hw1, hS])
  clear hw1 hS
  go_upto_region 4 with (go_at_call 8; refine (awake_any _).mono ?_; rintro e x1 ⟨rfl, hb⟩; have H1 : Box (Below w1.heap.size w1 x1) := ⟨hb⟩; clear hb)
  have HR1 : Box (x1.rangeAt S 0 [.int .u64 b0, .slice a0 l0 c0]) := ⟨(HX.out x1 H1.out).2.1⟩
  have HIM : Box (Calls Try.prog 9 #[.slice (some ⟨x1.heap.size, 0, none⟩) 1 1, .bool false] (x1.alloc (.cells #[.int .u64 b0, .slice a0 l0 c0] 25)) fun e w' => ∃ v X, e = .returned v ∧ Ig (x1.alloc (.cells #[.int .u64 b0, .slice a0 l0 c0] 25)) w' false [⟨b0, a0, l0, c0, s0⟩] 1 v X) := ⟨images_any _ 1 [⟨b0, a0, l0, c0, s0⟩] false _ (imgs_one (m := ⟨b0, a0, l0, c0, s0⟩) ⟨(HX.out x1 H1.out).2.2, HB1.out.2.1⟩) (by simp)⟩
  go_upto_region 5 with (first
    | (refine atLoad 25 ?_; refine wpList_ldMid rfl 25 _ _ rfl Try.underlying25 rfl S 0 rfl [.int .u64 b0, .slice a0 l0 c0] infoIm HR1.out ?_)
    | (go_at_call 9; refine HIM.out.mono ?_; rintro e x2 ⟨v, X, rfl, hI⟩; obtain ⟨g, c, ⟨mb, ma, ml, mc, ms⟩, rfl, hgl, hrg, hpl, hml, hO⟩ := ig_one hI; have H2 : Box (Below w1.heap.size w1 x2 ∧ g < x2.heap.size ∧ x2.rangeAt g 0 (imc ⟨mb, ma, ml, mc, ms⟩) ∧ Bytes x2 ma ml ms ∧ N64 mb ∧ ml = 160 ∧ ((mb, ms), last) = x0) := ⟨below_to H1.out (below_to ((Below.refl _ _).alloc (Nat.le_refl _) _) hI.bel), hgl, hrg, hO.byi.1, hO.num, hml, by rw [← hx0, ← hpl]; rfl⟩; clear hI hgl hrg hpl hml hO))
  clear HIM HR1
  have HPT : Box (Calls Try.prog 10 #[.agg #[.int .u64 mb, .slice ma ml mc, .bool last]] x2 fun e w' => ∃ a c, e = .returned (.tuple #[.slice a 176 c, .int .i64 0]) ∧ w'.ownsRow x2.heap.size 5 1 (.slice a 176 c) 176 ((putP x0).map (Value.int .u8)) ∧ Below x2.heap.size x2 w') := ⟨by
    have := rcput_ok ⟨⟨mb, ma, ml, mc, ms⟩, last⟩ x2 H2.out.2.2.2.1 H2.out.2.2.2.2.1 H2.out.2.2.2.2.2.1
    have e : rpl ⟨⟨mb, ma, ml, mc, ms⟩, last⟩ = x0 := H2.out.2.2.2.2.2.2
    rw [e] at this
    exact this⟩
  have HR2 : Box (x2.rangeAt g 0 [.int .u64 mb, .slice ma ml mc]) := ⟨H2.out.2.2.1⟩
  go_upto_region 8 with (first
    | (refine atIdx 27 ?_; refine wpList_run rfl _ _ (exec_idxT 27 25 Try.underlying27 2 infoIm _ _ rfl g 0 1 c 0 rfl rfl (by decide)) ?_)
    | (refine atLoad 25 ?_; refine wpList_ldMid rfl 25 _ _ rfl Try.underlying25 rfl g 0 rfl [.int .u64 mb, .slice ma ml mc] infoIm HR2.out ?_)
    | (refine atBuild 30 ?_; refine wpList_run rfl _ _ (exec_built 30 [(0, .tmp 30), (1, .tmp 31)] rfl [(0, .agg #[.int .u64 mb, .slice ma ml mc]), (1, .bool last)] rfl _ (built_Rc _ _ _ _ _)) ?_)
    | (go_at_call 10; refine HPT.out.mono ?_; rintro e x3 ⟨a3, c3, rfl, ho, hb⟩; have H3 : Box (x3.ownsRow x2.heap.size 5 1 (.slice a3 176 c3) 176 ((putP x0).map (Value.int .u8)) ∧ Below w1.heap.size w1 x3) := ⟨ho, below_to H2.out.1 hb⟩; clear ho hb))
  have HX0 : Box (x0.1.2.length = 160 ∧ N64 x0.1.1 ∧ Byt x0.1.2 ∧ x0.1.1 = b0 ∧ x0.2 = last ∧ w1.heap.size ≤ x2.heap.size) := ⟨by rw [← hx0]; exact length_padTo _ _, by rw [← hx0]; exact HB1.out.2.1.1, by rw [← hx0]; exact byt_padTo _ _ HB1.out.2.2, by rw [← hx0], by rw [← hx0], H2.out.1.size⟩
  clear HPT HR2 H2 hx0
  obtain ⟨g3, cp, cur, hv3, hg3, hh3, hcs, hcap, hmx, hcell⟩ := own_block H3.out.1 (by omega)
  simp only [Value.slice.injEq, true_and] at hv3
  obtain ⟨rfl, rfl⟩ := hv3
  obtain ⟨x4, hx4⟩ : ∃ x4, x3.setCell ⟨g3, k, none⟩ (.int .u8 (xr ((putP x0).getD k 0) (over : Int))) = x4 := ⟨_, rfl⟩
  have HBy : Box (Bytes x4 (some ⟨g3, 0, none⟩) 176 (tn x0 k over) ∧ Below w1.heap.size w1 x4) := ⟨by rw [← hx4]; exact own_set hh3 hcs hcell (len_putP x0 HX0.out.1) (byt_putP x0 HX0.out.2.2.1) (tn_bd x0 k over hk8 hov) (by omega), by rw [← hx4]; exact below_set H3.out.2 (by have := HX0.out.2.2.2.2.2; omega) _⟩
  have hck := hcell k (by omega)
  have hc3 : x3.cell? ⟨g3, k, none⟩ = some (.int .u8 ((putP x0).getD k 0)) := by rw [cell_of_row _ _ _ _ _ _ hh3]; exact hck
  have hf3 : x3.frozen? ⟨g3, k, none⟩ = false := frozen_of_row x3 g3 k _ 5 hh3
  have hat2 : (at' : Int) % 8 = (k : Int) := by omega
  have hat3 : (at' : Int).tmod 8 = (k : Int) := by rw [Int.tmod_eq_emod_of_nonneg (by omega)]; omega
  unfold xr at hx4
  have HCP : Box (176 ≤ c3 ∧ c3 ≤ maxLen) := ⟨hcap, hmx⟩
  have hcn : ¬ c3 = 1 := by omega
  generalize (putP x0).getD k 0 = zb at hc3 hx4 hck
  clear hcell hh3 hcs hck hcap hmx
  cases cut
  · go_upto_region 13 with fail
    clear hc3 hf3 hat2 hat3 hk hcn hx4
    by_cases h0 : over = 0
    · have HFI : Box (fine k (over : Int) = true) := ⟨by simp [fine, h0]⟩
      have HOV : Box (((over : Int) = 1) ↔ False) := ⟨by simp; omega⟩
      have ho0 : ((over : Int) == 0) = true := by simp; omega
      have ho1 : ((over : Int) == 1) = false := by simp; omega
      clear h0
      cases last
      · skip
        have HG : Box (Calls Try.prog 13 #[.slice (some ⟨g3, 0, none⟩) 176 c3] x4 fun e w' => ∃ r, e = .returned (.tuple #[.agg (rcc r).toArray, .int .i64 0]) ∧ rpl r = getP (tn x0 k over) ∧ r.m.bl = 160 ∧ OIm w' x4.heap.size r.m ∧ Below x4.heap.size x4 w') := ⟨rcget_ok _ c3 _ x4 HBy.out.1 HCP.out.1 ((tn_fit x0 k over hk8 hov HX0.out.1).2 HFI.out)⟩
        have HLA : Box ((getP (tn x0 k over)).1.1 = b0 ∧ (getP (tn x0 k over)).2 = false) := ⟨by rw [(tn_last x0 k over hk8 hov HFI.out HX0.out.2.1).1]; exact HX0.out.2.2.2.1, by rw [(tn_last x0 k over hk8 hov HFI.out HX0.out.2.1).2, HX0.out.2.2.2.2.1]; simp [HOV.out]⟩
        go_upto_region 14 with (first
          | (go_at_call 13; refine HG.out.mono ?_; rintro e x5 ⟨⟨⟨mb5, ma5, ml5, mc5, ms5⟩, rl5⟩, rfl, hp, hl5, ho5, hb5⟩; have H5 : Box (Below w1.heap.size w1 x5) := ⟨below_to HBy.out.2 hb5⟩; have hp1 : mb5 = b0 := (by rw [← HLA.out.1, ← hp]; rfl); have hp2 : rl5 = false := (by rw [← HLA.out.2, ← hp]; rfl); subst hp1; subst hp2; clear hp hl5 ho5 hb5)
          | (refine atAlloc _ ?_; refine wpList_run rfl _ _ (exec_alloc 30 rfl _ zeroRc) ?_)
          | (refine atStore _ ?_; refine wpList_newRow x5 #[.int .u64 0, .slice none 0 0, .bool false] #[.int .u64 mb5, .slice ma5 ml5 mc5, .bool false] infoRc rfl (by simp [Value.oneCell']) rfl _ _ rfl rfl rfl rfl ?_; intro x6 h6 hb6; have c60 : x6.cell? ⟨x5.heap.size, 0, none⟩ = some (.int .u64 mb5) := (by rw [cell_of_row _ _ _ _ _ _ h6]; rfl); have c62 : x6.cell? ⟨x5.heap.size, 2, none⟩ = some (.bool false) := (by rw [cell_of_row _ _ _ _ _ _ h6]; rfl); have H6 : Box (Below w1.heap.size w1 x6) := ⟨below_to H5.out hb6⟩; clear h6 hb6))
        have d0 := (HX.out x6 H6.out).1
        go_wp2
        go_ret
        exact ⟨rfl, below_to HB1.out.1 H6.out⟩
      · skip
        have HG : Box (Calls Try.prog 13 #[.slice (some ⟨g3, 0, none⟩) 176 c3] x4 fun e w' => ∃ r, e = .returned (.tuple #[.agg (rcc r).toArray, .int .i64 0]) ∧ rpl r = getP (tn x0 k over) ∧ r.m.bl = 160 ∧ OIm w' x4.heap.size r.m ∧ Below x4.heap.size x4 w') := ⟨rcget_ok _ c3 _ x4 HBy.out.1 HCP.out.1 ((tn_fit x0 k over hk8 hov HX0.out.1).2 HFI.out)⟩
        have HLA : Box ((getP (tn x0 k over)).1.1 = b0 ∧ (getP (tn x0 k over)).2 = true) := ⟨by rw [(tn_last x0 k over hk8 hov HFI.out HX0.out.2.1).1]; exact HX0.out.2.2.2.1, by rw [(tn_last x0 k over hk8 hov HFI.out HX0.out.2.1).2, HX0.out.2.2.2.2.1]; simp [HOV.out]⟩
        go_upto_region 14 with (first
          | (go_at_call 13; refine HG.out.mono ?_; rintro e x5 ⟨⟨⟨mb5, ma5, ml5, mc5, ms5⟩, rl5⟩, rfl, hp, hl5, ho5, hb5⟩; have H5 : Box (Below w1.heap.size w1 x5) := ⟨below_to HBy.out.2 hb5⟩; have hp1 : mb5 = b0 := (by rw [← HLA.out.1, ← hp]; rfl); have hp2 : rl5 = true := (by rw [← HLA.out.2, ← hp]; rfl); subst hp1; subst hp2; clear hp hl5 ho5 hb5)
          | (refine atAlloc _ ?_; refine wpList_run rfl _ _ (exec_alloc 30 rfl _ zeroRc) ?_)
          | (refine atStore _ ?_; refine wpList_newRow x5 #[.int .u64 0, .slice none 0 0, .bool false] #[.int .u64 mb5, .slice ma5 ml5 mc5, .bool true] infoRc rfl (by simp [Value.oneCell']) rfl _ _ rfl rfl rfl rfl ?_; intro x6 h6 hb6; have c60 : x6.cell? ⟨x5.heap.size, 0, none⟩ = some (.int .u64 mb5) := (by rw [cell_of_row _ _ _ _ _ _ h6]; rfl); have c62 : x6.cell? ⟨x5.heap.size, 2, none⟩ = some (.bool true) := (by rw [cell_of_row _ _ _ _ _ _ h6]; rfl); have H6 : Box (Below w1.heap.size w1 x6) := ⟨below_to H5.out hb6⟩; clear h6 hb6))
        have d0 := (HX.out x6 H6.out).1
        go_wp2
        go_ret
        exact ⟨rfl, below_to HB1.out.1 H6.out⟩
    · have ho0 : ((over : Int) == 0) = false := by simp; omega
      by_cases h1 : k = 1
      · have hk1 : ((k : Int) == 1) = true := by simp; omega
        by_cases h2 : over = 1
        · have HFI : Box (fine k (over : Int) = true) := ⟨by simp [fine, h1, h2]⟩
          have HOV : Box (((over : Int) = 1) ↔ True) := ⟨by simp; omega⟩
          have ho1 : ((over : Int) == 1) = true := by simp; omega
          clear h0 h1 h2
          cases last
          · skip
            have HG : Box (Calls Try.prog 13 #[.slice (some ⟨g3, 0, none⟩) 176 c3] x4 fun e w' => ∃ r, e = .returned (.tuple #[.agg (rcc r).toArray, .int .i64 0]) ∧ rpl r = getP (tn x0 k over) ∧ r.m.bl = 160 ∧ OIm w' x4.heap.size r.m ∧ Below x4.heap.size x4 w') := ⟨rcget_ok _ c3 _ x4 HBy.out.1 HCP.out.1 ((tn_fit x0 k over hk8 hov HX0.out.1).2 HFI.out)⟩
            have HLA : Box ((getP (tn x0 k over)).1.1 = b0 ∧ (getP (tn x0 k over)).2 = true) := ⟨by rw [(tn_last x0 k over hk8 hov HFI.out HX0.out.2.1).1]; exact HX0.out.2.2.2.1, by rw [(tn_last x0 k over hk8 hov HFI.out HX0.out.2.1).2, HX0.out.2.2.2.2.1]; simp [HOV.out]⟩
            go_upto_region 14 with (first
              | (go_at_call 13; refine HG.out.mono ?_; rintro e x5 ⟨⟨⟨mb5, ma5, ml5, mc5, ms5⟩, rl5⟩, rfl, hp, hl5, ho5, hb5⟩; have H5 : Box (Below w1.heap.size w1 x5) := ⟨below_to HBy.out.2 hb5⟩; have hp1 : mb5 = b0 := (by rw [← HLA.out.1, ← hp]; rfl); have hp2 : rl5 = true := (by rw [← HLA.out.2, ← hp]; rfl); subst hp1; subst hp2; clear hp hl5 ho5 hb5)
              | (refine atAlloc _ ?_; refine wpList_run rfl _ _ (exec_alloc 30 rfl _ zeroRc) ?_)
              | (refine atStore _ ?_; refine wpList_newRow x5 #[.int .u64 0, .slice none 0 0, .bool false] #[.int .u64 mb5, .slice ma5 ml5 mc5, .bool true] infoRc rfl (by simp [Value.oneCell']) rfl _ _ rfl rfl rfl rfl ?_; intro x6 h6 hb6; have c60 : x6.cell? ⟨x5.heap.size, 0, none⟩ = some (.int .u64 mb5) := (by rw [cell_of_row _ _ _ _ _ _ h6]; rfl); have c62 : x6.cell? ⟨x5.heap.size, 2, none⟩ = some (.bool true) := (by rw [cell_of_row _ _ _ _ _ _ h6]; rfl); have H6 : Box (Below w1.heap.size w1 x6) := ⟨below_to H5.out hb6⟩; clear h6 hb6))
            have d0 := (HX.out x6 H6.out).1
            go_wp2
            go_ret
            exact ⟨rfl, below_to HB1.out.1 H6.out⟩
          · skip
            have HG : Box (Calls Try.prog 13 #[.slice (some ⟨g3, 0, none⟩) 176 c3] x4 fun e w' => ∃ r, e = .returned (.tuple #[.agg (rcc r).toArray, .int .i64 0]) ∧ rpl r = getP (tn x0 k over) ∧ r.m.bl = 160 ∧ OIm w' x4.heap.size r.m ∧ Below x4.heap.size x4 w') := ⟨rcget_ok _ c3 _ x4 HBy.out.1 HCP.out.1 ((tn_fit x0 k over hk8 hov HX0.out.1).2 HFI.out)⟩
            have HLA : Box ((getP (tn x0 k over)).1.1 = b0 ∧ (getP (tn x0 k over)).2 = false) := ⟨by rw [(tn_last x0 k over hk8 hov HFI.out HX0.out.2.1).1]; exact HX0.out.2.2.2.1, by rw [(tn_last x0 k over hk8 hov HFI.out HX0.out.2.1).2, HX0.out.2.2.2.2.1]; simp [HOV.out]⟩
            go_upto_region 14 with (first
              | (go_at_call 13; refine HG.out.mono ?_; rintro e x5 ⟨⟨⟨mb5, ma5, ml5, mc5, ms5⟩, rl5⟩, rfl, hp, hl5, ho5, hb5⟩; have H5 : Box (Below w1.heap.size w1 x5) := ⟨below_to HBy.out.2 hb5⟩; have hp1 : mb5 = b0 := (by rw [← HLA.out.1, ← hp]; rfl); have hp2 : rl5 = false := (by rw [← HLA.out.2, ← hp]; rfl); subst hp1; subst hp2; clear hp hl5 ho5 hb5)
              | (refine atAlloc _ ?_; refine wpList_run rfl _ _ (exec_alloc 30 rfl _ zeroRc) ?_)
              | (refine atStore _ ?_; refine wpList_newRow x5 #[.int .u64 0, .slice none 0 0, .bool false] #[.int .u64 mb5, .slice ma5 ml5 mc5, .bool false] infoRc rfl (by simp [Value.oneCell']) rfl _ _ rfl rfl rfl rfl ?_; intro x6 h6 hb6; have c60 : x6.cell? ⟨x5.heap.size, 0, none⟩ = some (.int .u64 mb5) := (by rw [cell_of_row _ _ _ _ _ _ h6]; rfl); have c62 : x6.cell? ⟨x5.heap.size, 2, none⟩ = some (.bool false) := (by rw [cell_of_row _ _ _ _ _ _ h6]; rfl); have H6 : Box (Below w1.heap.size w1 x6) := ⟨below_to H5.out hb6⟩; clear h6 hb6))
            have d0 := (HX.out x6 H6.out).1
            go_wp2
            go_ret
            exact ⟨rfl, below_to HB1.out.1 H6.out⟩
        · have HFI : Box (fine k (over : Int) = false) := ⟨by simp [fine]; omega⟩
          have ho1 : ((over : Int) == 1) = false := by simp; omega
          clear h0 h1 h2
          have HG : Box (Calls Try.prog 13 #[.slice (some ⟨g3, 0, none⟩) 176 c3] x4 fun e w' => e = .returned (.tuple #[.agg #[.int .u64 0, .slice none 0 0, .bool false], .int .i64 11]) ∧ Below x4.heap.size x4 w') := ⟨rcget_no _ 176 c3 _ x4 HBy.out.1 (by decide) HCP.out.1 (fun h => by have := (tn_fit x0 k over hk8 hov HX0.out.1).1 h; rw [HFI.out] at this; cases this)⟩
          go_upto_region 14 with (first
            | (go_at_call 13; refine HG.out.mono ?_; rintro e x5 ⟨rfl, hb5⟩; have H5 : Box (Below w1.heap.size w1 x5) := ⟨below_to HBy.out.2 hb5⟩; clear hb5)
            | (refine atAlloc _ ?_; refine wpList_run rfl _ _ (exec_alloc 30 rfl _ zeroRc) ?_)
            | (refine atStore _ ?_; refine wpList_newRow x5 #[.int .u64 0, .slice none 0 0, .bool false] #[.int .u64 0, .slice none 0 0, .bool false] infoRc rfl (by simp [Value.oneCell']) rfl _ _ rfl rfl rfl rfl ?_; intro x6 h6 hb6; have H6 : Box (Below w1.heap.size w1 x6) := ⟨below_to H5.out hb6⟩; clear h6 hb6))
          go_wp2
          go_ret
          exact ⟨rfl, below_to HB1.out.1 H6.out⟩
      · have hk1 : ((k : Int) == 1) = false := by simp; omega
        have HFI : Box (fine k (over : Int) = false) := ⟨by simp [fine]; omega⟩
        clear h0 h1
        have HG : Box (Calls Try.prog 13 #[.slice (some ⟨g3, 0, none⟩) 176 c3] x4 fun e w' => e = .returned (.tuple #[.agg #[.int .u64 0, .slice none 0 0, .bool false], .int .i64 11]) ∧ Below x4.heap.size x4 w') := ⟨rcget_no _ 176 c3 _ x4 HBy.out.1 (by decide) HCP.out.1 (fun h => by have := (tn_fit x0 k over hk8 hov HX0.out.1).1 h; rw [HFI.out] at this; cases this)⟩
        go_upto_region 14 with (first
          | (go_at_call 13; refine HG.out.mono ?_; rintro e x5 ⟨rfl, hb5⟩; have H5 : Box (Below w1.heap.size w1 x5) := ⟨below_to HBy.out.2 hb5⟩; clear hb5)
          | (refine atAlloc _ ?_; refine wpList_run rfl _ _ (exec_alloc 30 rfl _ zeroRc) ?_)
          | (refine atStore _ ?_; refine wpList_newRow x5 #[.int .u64 0, .slice none 0 0, .bool false] #[.int .u64 0, .slice none 0 0, .bool false] infoRc rfl (by simp [Value.oneCell']) rfl _ _ rfl rfl rfl rfl ?_; intro x6 h6 hb6; have H6 : Box (Below w1.heap.size w1 x6) := ⟨below_to H5.out hb6⟩; clear h6 hb6))
        go_wp2
        go_ret
        exact ⟨rfl, below_to HB1.out.1 H6.out⟩
  · have HG : Box (Calls Try.prog 13 #[.slice (some ⟨g3, 1, none⟩) 175 (c3 - 1)] x4 fun e w' => e = .returned (.tuple #[.agg #[.int .u64 0, .slice none 0 0, .bool false], .int .i64 11]) ∧ Below x4.heap.size x4 w') := ⟨by
      obtain ⟨hL, hz, hcl⟩ := HBy.out.1
      obtain ⟨b9, o9, e9, hlt9, hc9⟩ := hcl (by omega)
      simp only [Option.some.injEq, Addr.mk.injEq, and_true] at e9
      obtain ⟨rfl, rfl⟩ := e9
      refine rcget_no _ 175 _ ((tn x0 k over).drop 1) x4 ⟨by rw [List.length_drop, hL], byt_drop _ 1 hz, fun _ => ⟨_, _, rfl, hlt9, fun i hi => ?_⟩⟩ (by decide) (by have := HCP.out.1; omega) (fun h => by have := h.1; rw [List.length_drop, hL] at this; omega)
      have e9 := hc9 (1 + i) (by omega)
      rw [Nat.zero_add] at e9
      rw [e9]
      simp only [List.getD, List.getElem?_drop]⟩
    go_wp2_with (first
      | (go_at_call 13; refine HG.out.mono ?_; rintro e x5 ⟨rfl, hb5⟩; have H5 : Box (Below w1.heap.size w1 x5) := ⟨below_to HBy.out.2 hb5⟩; clear hb5)
      | (refine atAlloc _ ?_; refine wpList_run rfl _ _ (exec_alloc 30 rfl _ zeroRc) ?_)
      | (refine atStore 30 ?_; refine wpList_newRow x5 #[.int .u64 0, .slice none 0 0, .bool false] #[.int .u64 0, .slice none 0 0, .bool false] infoRc rfl (by simp [Value.oneCell']) rfl _ _ rfl rfl rfl rfl ?_; intro x6 h6 hb6; have H6 : Box (Below w1.heap.size w1 x6) := ⟨below_to H5.out hb6⟩; clear h6 hb6))
    go_ret
    exact ⟨rfl, below_to HB1.out.1 H6.out⟩
theorem recordKinds_walk (m0 : Im) (last : Bool) (a2 a3 : Int) (cut : Bool) (W : World) (h0 : Byi W m0) (w2 : (Lit.int .u8 a2).wf = true) (w3 : (Lit.int .u8 a3).wf = true) :
    Calls Try.prog 6 #[.agg (imc m0).toArray, .bool last, .int .u8 a2, .int .u8 a3, .bool cut] W fun e w' => e = .returned (.bool true) ∧ Below W.heap.size W w' := by
  have b2 := bounds_u8 w2
  have b3 := bounds_u8 w3
  obtain ⟨x, rfl⟩ := Int.eq_ofNat_of_zero_le b2.1
  obtain ⟨y, rfl⟩ := Int.eq_ofNat_of_zero_le b3.1
  exact recordKinds_core m0 last x y cut W h0 (by omega) (by omega)
end Go.Proofs.Ytgdjdlakndajgaa
