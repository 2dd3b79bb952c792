/-
  RecordPuts: any record's bytes, and the record of any bytes, are the document's, or refused; there and back.
-/
import Derived.Test.YtgdjdlakndajgaaRA
import Derived.Test.YtgdjdlakndajgaaRE
namespace Go.Proofs.Ytgdjdlakndajgaa
set_option linter.unusedVariables false
open Go.RowKit Plain

theorem putP_getP (L : List Int) (hL : Byt L) (hf : fitR L) : putP (getP L) = L := by
  have hl := hf.1
  have hh : hd (getP L).2 = num L 0 8 := by
    unfold getP hd
    rcases hf.2 with e | e <;> simp [e]
  have b8 : ∀ p, p + 8 ≤ 176 → bytesOf (num L p 8) 8 = (L.drop p).take 8 := fun p hp => by
    refine eq_getD _ _ 8 (length_bytesOf _ _) (by simp; omega) (fun i hi => ?_)
    rw [bytesOf_get _ _ _ hi]
    have e : ((L.drop p).take 8).getD i 0 = L.getD (p + i) 0 := by simp [List.getD, hi, List.getElem?_drop]
    rw [e]
    have key : ∀ k, k ≤ 8 → i < k → byteAt (num L p k) i = L.getD (p + i) 0 := by
      intro k
      induction k with
      | zero => intro _ h; omega
      | succ k ih =>
        intro hk hik
        have hnb := num_bd L p hL k
        have hz := hL (p + k)
        rw [num]
        unfold byteAt
        by_cases e : i = k
        · subst e
          have hp : (0 : Int) < 2 ^ (8 * i) := Int.pow_pos (by omega)
          rw [Int.add_mul_ediv_right _ _ (Int.ne_of_gt hp), Int.ediv_eq_zero_of_lt hnb.1 hnb.2, Int.zero_add]
          omega
        · have hlt : i < k := by omega
          have := ih (by omega) hlt
          unfold byteAt at this
          rw [← this]
          obtain ⟨d, rfl⟩ : ∃ d, k = i + 1 + d := ⟨k - i - 1, by omega⟩
          have e2 : L.getD (p + (i + 1 + d)) 0 * (2 : Int) ^ (8 * (i + 1 + d)) = (L.getD (p + (i + 1 + d)) 0 * 2 ^ (8 * d) * 256) * 2 ^ (8 * i) := by
            rw [show 8 * (i + 1 + d) = 8 * d + 8 + 8 * i by omega, Int.pow_add, Int.pow_add, show (2 : Int) ^ 8 = 256 from rfl, ← Int.mul_assoc, ← Int.mul_assoc]
          have hp : (0 : Int) < 2 ^ (8 * i) := Int.pow_pos (by omega)
          rw [e2, Int.add_mul_ediv_right _ _ (Int.ne_of_gt hp)]
          omega
    exact key 8 (Nat.le_refl _) hi
  unfold putP
  rw [hh]
  have e1 : (getP L).1.1 = num L 8 8 := rfl
  have e2 : (getP L).1.2 = L.drop 16 := rfl
  rw [e1, e2, b8 0 (by omega), b8 8 (by omega), List.drop_zero]
  have e3 : (L.drop 8).take 8 ++ L.drop 16 = L.drop 8 := by
    have := List.take_append_drop 8 (L.drop 8)
    rwa [List.drop_drop] at this
  rw [List.append_assoc, e3, List.take_append_drop]
theorem imgs_two {w : World} {m : Im} (h : Byi w m) : Imgs (w.alloc (.cells (imc m ++ imc m).toArray 25)) (some ⟨w.heap.size, 0, none⟩) [m, m] := by
  refine ⟨fun _ => ⟨_, _, rfl, by simp, fun i hi => range_arr (al_at rfl) _ (fun j v hv => ?_)⟩, fun m' hm => ?_⟩
  · have hj : j < 2 := by
      have hi2 : i = 0 ∨ i = 1 := by simp at hi; omega
      rcases hi2 with rfl | rfl <;> exact (List.getElem?_eq_some_iff.1 hv).1
    have hi2 : i = 0 ∨ i = 1 := by simp at hi; omega
    have hj2 : j = 0 ∨ j = 1 := by omega
    rcases hi2 with rfl | rfl <;> rcases hj2 with rfl | rfl <;> simpa [imc] using hv
  · have : m' = m := by simpa using hm
    subst this
    exact ⟨h.1.below ((Below.refl _ _).alloc (Nat.le_refl _) _), h.2⟩
theorem ig_two {w w' : World} {m : Im} {v : Value} {X : List Im} {short : Bool} (h : Ig w w' short [m, m] 2 v X) : ∃ g c, ∃ m1 : Im, v = .slice (some ⟨g, 0, none⟩) 2 c ∧ g < w'.heap.size ∧ w'.rangeAt g 2 (imc m1) ∧ pl m1 = (m.blk, padTo m.bs (szP short 1)) ∧ m1.bl = szP short 1 ∧ OIm w' w.heap.size m1 := by
  have hl := h.len
  match X, hl with
  | [m0, m1], _ =>
    have hp := h.pls
    simp [imgP, pl] at hp
    obtain ⟨a, c, rfl⟩ := own_form2 h.im.row
    have ho := h.im.byt m1 (by simp)
    obtain ⟨g, o, e, hlt, hr⟩ := h.im.imgs.tb (by simp)
    have hro := h.im.row
    rcases hro.2 with ⟨_, h0⟩ | ⟨g', cap', cur, h3, _, hg, _⟩
    · simp at h0
    · simp only [Value.slice.injEq, true_and] at h3
      obtain ⟨h3a, rfl⟩ := h3
      rw [e] at h3a
      simp only [Option.some.injEq, Addr.mk.injEq, and_true] at h3a
      rw [h3a.1] at hlt
      rw [h3a.1, h3a.2] at hr
      rw [e, h3a.1, h3a.2]
      have hr0 := hr 1 (by simp)
      refine ⟨g', c, m1, rfl, hlt, by simpa using hr0, by simp [pl, hp], ?_, ho⟩
      have := ho.own.1
      rw [List.length_map, hp.2.2, length_padTo] at this
      omega
theorem exec_neT {o : Oper} {ρ : Operand → Value} {w' : World} (x y : Operand) (ty : TypeId) (ho : o.op = .binOp .neq 9 x y ty) (s : ByteArray) (hx : ρ x = .string s) (hy : ρ y = .string s) :
    (execOp ρ o).run Try.prog w' = .ok (.value (.bool false)) w' := by
  unfold execOp
  simp [ho, hx, hy, eqGuard, binOp, Op.stringOp]
theorem exec_eqT {o : Oper} {ρ : Operand → Value} {w' : World} (x y : Operand) (ty : TypeId) (ho : o.op = .binOp .eql 9 x y ty) (s : ByteArray) (hx : ρ x = .string s) (hy : ρ y = .string s) :
    (execOp ρ o).run Try.prog w' = .ok (.value (.bool true)) w' := by
  unfold execOp
  simp [ho, hx, hy, eqGuard, binOp, Op.stringOp]
theorem exec_neR' {o : Oper} {ρ : Operand → Value} {w' : World} (x y : Operand) (ty : TypeId) (ho : o.op = .binOp .neq 39 x y ty) (r : (Int × List Int) × Bool) (A : Array Value) (hA : (rrc r).toArray = A) (hx : ρ x = .agg A) (hy : ρ y = .agg A) :
    (execOp ρ o).run Try.prog w' = .ok (.value (.bool false)) w' := by
  subst hA
  exact exec_neR x y ty ho r.1.1 (strOfNums r.1.2) r.2 hx hy
theorem all_rrc (x : (Int × List Int) × Bool) : (rrc x).toArray.all (·.oneCell') = true := by simp [rrc, Value.oneCell']
/-- A record's cells are its image's, and one more. -/
theorem rrc_zrc : (rrc (rpl zrc)).toArray = #[.int .u64 0, .string ByteArray.empty, .bool false] := by simp [rrc, rpl, pl, zrc, str_nil]
theorem bytes_none (w : World) : Bytes w none 0 [] := ⟨rfl, fun i => by simp, fun h => by omega⟩
set_option maxRecDepth 20000 in
set_option maxHeartbeats 4000000 in
theorem recordPuts_sn (m0 : Im) (last : Bool) (ab : Option Addr) (lb cb : Nat) (Lb : List Int) (w : World) (hB : Byi w m0) (hb : Bytes w ab lb Lb) (hbl : lb ≤ 300) (hbc : lb ≤ cb) (hfit : ¬ fitR Lb) :
    Calls Try.prog 3 #[.agg (imc m0).toArray, .bool last, .bool true, .slice ab lb cb] w fun e w' => e = .returned (.bool true) ∧ Below w.heap.size w w' := by
  obtain ⟨b0, a0, l0, c0, s0⟩ := m0
  unfold imc
  simp only
  obtain ⟨S, hS⟩ : ∃ S, w.heap.size = S := ⟨_, rfl⟩
  obtain ⟨w1, hw1⟩ : ∃ w1, w.alloc (.cells #[.int .u64 b0, .slice a0 l0 c0] 25) = w1 := ⟨_, rfl⟩
  have hb1 : Below w.heap.size w w1 := by rw [← hw1]; exact (Below.refl _ _).alloc (Nat.le_refl _) _
  have r1 : w1.heap[S]? = some (.cells #[.int .u64 b0, .slice a0 l0 c0] 25 (0, 0)) := by rw [← hw1]; exact al_at hS
  have hlt1 := (Array.getElem?_eq_some_iff.1 r1).1
  have HX : Box (∀ x, Below w1.heap.size w1 x → x.rangeAt S 0 [.int .u64 b0, .slice a0 l0 c0] ∧ Byi x ⟨b0, a0, l0, c0, s0⟩ ∧ Bytes x ab lb Lb) := ⟨fun x hx => by
    have r := (hx.block S hlt1).trans r1
    exact ⟨range_arr r _ (fun j v hv => by simpa using hv), ⟨hB.1.below (below_to hb1 hx), hB.2⟩, hb.below (below_to hb1 hx)⟩⟩
  have HB1 : Box (Below w.heap.size w w1 ∧ Byt s0 ∧ Byt Lb ∧ N64 b0 ∧ Lb.length = lb ∧ lb ≤ cb ∧ ¬ fitR Lb) := ⟨hb1, hB.1.2.1, hb.2.1, hB.2.1, hb.1, hbc, hfit⟩
  obtain ⟨x0, hx0⟩ : ∃ x : (Int × List Int) × Bool, ((b0, padTo s0 159), last) = x := ⟨_, rfl⟩
  have HX0 : Box (x0.1.2.length = 159 ∧ N64 x0.1.1 ∧ Byt x0.1.2) := ⟨by rw [← hx0]; exact length_padTo _ _, by rw [← hx0]; exact hB.2.1, by rw [← hx0]; exact byt_padTo _ _ hB.1.2.1⟩
  obtain ⟨AR, HAR⟩ : ∃ A, Box ((rrc x0).toArray = A) := ⟨_, ⟨rfl⟩⟩
  obtain ⟨sb, HSB⟩ : ∃ s, Box (strOfNums Lb = s) := ⟨_, ⟨rfl⟩⟩
  have hlb : lb ≤ 300 := hbl
  clear hb1 r1 hlt1 hB hb hbc hfit hbl
  go_enter Try.func3, Try.ntmps3
  go_upto_region 1 with fail
  (try simp only [hw1, hS])
  clear hw1 hS
  go_upto_region 6 with (go_at_call 8; refine (awake_any _).mono ?_; rintro e x1 ⟨rfl, hb⟩; have H1 : Box (Below w1.heap.size w1 x1) := ⟨hb⟩; clear hb)
  have HR1 : Box (x1.rangeAt S 0 [.int .u64 b0, .slice a0 l0 c0]) := ⟨(HX.out x1 H1.out).1⟩
  have HIM : Box (Calls Try.prog 9 #[.slice (some ⟨x1.heap.size, 0, none⟩) 2 2, .bool true] (x1.alloc (.cells #[.int .u64 b0, .slice a0 l0 c0, .int .u64 b0, .slice a0 l0 c0] 25)) fun e w' => ∃ v X, e = .returned v ∧ Ig (x1.alloc (.cells #[.int .u64 b0, .slice a0 l0 c0, .int .u64 b0, .slice a0 l0 c0] 25)) w' true [⟨b0, a0, l0, c0, s0⟩, ⟨b0, a0, l0, c0, s0⟩] 2 v X) := ⟨images_any _ 2 [⟨b0, a0, l0, c0, s0⟩, ⟨b0, a0, l0, c0, s0⟩] true _ (imgs_two (HX.out x1 H1.out).2.1) (by simp)⟩
  go_upto_region 7 with (first
    | (refine atLoad 25 ?_; refine wpList_ldMid rfl 25 _ _ rfl Try.underlying25 rfl S 0 rfl [.int .u64 b0, .slice a0 l0 c0] infoIm HR1.out ?_)
    | (go_at_call 9; refine HIM.out.mono ?_; rintro e x2 ⟨v, X, rfl, hI⟩; obtain ⟨g, c, ⟨mb, ma, ml, mc, ms⟩, rfl, hgl, hrg, hpl, hml, hO⟩ := ig_two hI; have H2 : Box (Below w1.heap.size w1 x2 ∧ x2.rangeAt g 2 [.int .u64 mb, .slice ma ml mc] ∧ Bytes x2 ma ml ms ∧ N64 mb ∧ ml = 159 ∧ ((mb, ms), last) = x0) := ⟨below_to H1.out (below_to ((Below.refl _ _).alloc (Nat.le_refl _) _) hI.bel), hrg, hO.byi.1, hO.num, hml, by rw [← hx0]; exact congrArg (fun z => (z, last)) hpl⟩; clear hI hgl hrg hpl hml hO))
  clear HIM HR1
  go_upto_region 8 with (first
    | (refine atIdx 27 ?_; refine wpList_run rfl _ _ (exec_idxT 27 25 Try.underlying27 2 infoIm _ _ rfl g 0 2 c 1 rfl rfl (by decide)) ?_)
    | (refine atLoad 25 ?_; refine wpList_ldMid rfl 25 _ _ rfl Try.underlying25 rfl g 2 rfl [.int .u64 mb, .slice ma ml mc] infoIm H2.out.2.1 ?_)
    | (refine atBuild 30 ?_; refine wpList_run rfl _ _ (exec_built 30 [(0, .tmp 37), (1, .tmp 38)] rfl [(0, .agg #[.int .u64 mb, .slice ma ml mc]), (1, .bool last)] rfl _ (built_Rc _ _ _ _ _)) ?_)
    | (refine atAlloc _ ?_; refine wpList_run rfl _ _ (exec_alloc 30 rfl _ zeroRc) ?_)
    | (refine atStore _ ?_; refine wpList_newRow x2 #[.int .u64 0, .slice none 0 0, .bool false] #[.int .u64 mb, .slice ma ml mc, .bool last] infoRc rfl (by simp [Value.oneCell']) rfl _ _ rfl rfl rfl rfl ?_; intro x3 h3 hb3; have H3 : Box (x3.heap[x2.heap.size]? = some (.cells #[.int .u64 mb, .slice ma ml mc, .bool last] 30 (0, 0)) ∧ Below x2.heap.size x2 x3) := ⟨h3, hb3⟩; clear h3 hb3))
  obtain ⟨Rb, hRb⟩ : ∃ R, x2.heap.size = R := ⟨_, rfl⟩
  simp only [hRb]
  have HRR : Box (∀ x, Below x3.heap.size x3 x → x.rangeAt Rb 0 [.int .u64 mb, .slice ma ml mc, .bool last] ∧ Bytes x ma ml ms ∧ Below w1.heap.size w1 x) := ⟨fun x hx => by
    have h3 := H3.out
    rw [hRb] at h3
    have r := (hx.block Rb (Array.getElem?_eq_some_iff.1 h3.1).1).trans h3.1
    exact ⟨range_arr r _ (fun j v hv => by simpa using hv), (H2.out.2.2.1).below (below_to H3.out.2 hx), below_to H2.out.1 (below_to H3.out.2 hx)⟩⟩
  have HRO : Box (∀ x, Below x3.heap.size x3 x → Calls Try.prog 12 #[.agg #[.int .u64 mb, .slice ma ml mc, .bool last]] x fun e w' => e = .returned (.agg AR) ∧ Below x.heap.size x w') := ⟨fun x hx => by
    have := recordOf_any ⟨⟨mb, ma, ml, mc, ms⟩, last⟩ x (HRR.out x hx).2.1
    have e : rpl ⟨⟨mb, ma, ml, mc, ms⟩, last⟩ = x0 := H2.out.2.2.2.2.2
    rw [e, HAR.out] at this
    exact this⟩
  have HR3 : Box (x3.rangeAt Rb 0 [.int .u64 mb, .slice ma ml mc, .bool last]) := ⟨(HRR.out x3 (Below.refl _ _)).1⟩
  clear hRb hx0
  have HPT : Box (Calls Try.prog 10 #[.agg #[.int .u64 mb, .slice ma ml mc, .bool last]] x3 fun e w' => e = .returned (.tuple #[.slice none 0 0, .int .i64 1]) ∧ Below x3.heap.size x3 w') := ⟨rcput_bad ⟨⟨mb, ma, ml, mc, ms⟩, last⟩ (by show ((ml : Int) == 160) = false; rw [H2.out.2.2.2.2.1]; rfl) x3⟩
  have HRP : Box (∀ x, Calls Try.prog 11 #[.agg AR] x fun e w' => e = .returned (.tuple #[.string ByteArray.empty, .int .i64 1]) ∧ Below x.heap.size x w') := ⟨fun x => by rw [← HAR.out]; exact rrput_bad x0 (by rw [HX0.out.1]; decide) x⟩
  obtain ⟨sc, HSC⟩ : ∃ s, Box (strOfNums [] = s ∧ ByteArray.empty = s) := ⟨_, ⟨str_nil, rfl⟩⟩
  rw [HSC.out.2] at HRP
  go_upto_region 9 with (first
    | (refine atLoad 30 ?_; refine wpList_ldMid rfl 30 _ _ rfl Try.underlying30 rfl Rb 0 rfl [.int .u64 mb, .slice ma ml mc, .bool last] infoRc HR3.out ?_)
    | (go_at_call 10; refine HPT.out.mono ?_; rintro e x4 ⟨rfl, hb⟩; have H4 : Box (Below x3.heap.size x3 x4 ∧ ∀ x, Below x4.heap.size x4 x → Bytes x none 0 []) := ⟨hb, fun x hx => bytes_none x⟩; clear hb))
  have HR4 : Box (x4.rangeAt Rb 0 [.int .u64 mb, .slice ma ml mc, .bool last]) := ⟨(HRR.out x4 H4.out.1).1⟩
  clear HR3 HPT
  go_upto_region 10 with (first
    | (refine atLoad 30 ?_; refine wpList_ldMid rfl 30 _ _ rfl Try.underlying30 rfl Rb 0 rfl [.int .u64 mb, .slice ma ml mc, .bool last] infoRc HR4.out ?_)
    | (go_at_call 12; refine (HRO.out x4 H4.out.1).mono ?_; rintro e x5 ⟨rfl, hb⟩; have H5 : Box (Below x4.heap.size x4 x5) := ⟨hb⟩; clear hb)
    | (go_at_call 11; refine (HRP.out x5).mono ?_; rintro e x6 ⟨rfl, hb⟩; have H6 : Box (Below x4.heap.size x4 x6) := ⟨below_to H5.out hb⟩; clear hb))
  clear HR4 HRP H5
  have HGB : Box (∀ x, Bytes x ab lb Lb → Calls Try.prog 13 #[.slice ab lb cb] x fun e w' => e = .returned (.tuple #[.agg #[.int .u64 0, .slice none 0 0, .bool false], .int .i64 11]) ∧ Below x.heap.size x w') := ⟨fun x hx => rcget_no ab lb cb Lb x hx (by unfold maxLen; omega) HB1.out.2.2.2.2.2.1 HB1.out.2.2.2.2.2.2⟩
  have HB6 : Box (Bytes x6 ab lb Lb) := ⟨(HX.out x6 (HRR.out x6 (below_to H4.out.1 H6.out)).2.2).2.2⟩
  go_upto_region 11 with (first
    | (go_at_call 13; refine (HGB.out x6 HB6.out).mono ?_; rintro e x7 ⟨rfl, hb⟩; have H7 : Box (Below x4.heap.size x4 x7) := ⟨below_to H6.out hb⟩; clear hb)
    | (refine atAlloc _ ?_; refine wpList_run rfl _ _ (exec_alloc 30 rfl _ zeroRc) ?_)
    | (refine atStore _ ?_; refine wpList_newRow x7 #[.int .u64 0, .slice none 0 0, .bool false] #[.int .u64 0, .slice none 0 0, .bool false] infoRc rfl (by simp [Value.oneCell']) rfl _ _ rfl rfl rfl rfl ?_; intro x8 h8 hb8; have H8 : Box (x8.heap[x7.heap.size]? = some (.cells #[.int .u64 0, .slice none 0 0, .bool false] 30 (0, 0)) ∧ Below x7.heap.size x7 x8) := ⟨h8, hb8⟩; clear h8 hb8))
  obtain ⟨Y, hY⟩ : ∃ R, x7.heap.size = R := ⟨_, rfl⟩
  simp only [hY]
  have HYY : Box (∀ x, Below x8.heap.size x8 x → x.rangeAt Y 0 #[.int .u64 0, .slice none 0 0, .bool false].toList ∧ Below x4.heap.size x4 x ∧ Below x7.heap.size x7 x) := ⟨fun x hx => by
    have h3 := H8.out
    rw [hY] at h3
    have r := (hx.block Y (Array.getElem?_eq_some_iff.1 h3.1).1).trans h3.1
    exact ⟨range_arr r _ (fun j v hv => by simpa using hv), below_to H7.out (below_to H8.out.2 hx), below_to H8.out.2 hx⟩⟩
  have HBB : Box (∀ x, Below x8.heap.size x8 x → Bytes x ab lb Lb) := ⟨fun x hx => (HX.out x (HRR.out x (below_to H4.out.1 (HYY.out x hx).2.1)).2.2).2.2⟩
  clear hY HB6
  obtain ⟨AY, HAY⟩ : ∃ A, Box ((rrc (rpl zrc)).toArray = A) := ⟨_, ⟨rfl⟩⟩
  have HRG : Box (∀ x, Calls Try.prog 14 #[.string sb] x fun e w' => e = .returned (.tuple #[.agg AY, .int .i64 11]) ∧ Below x.heap.size x w') := ⟨fun x => by rw [← HAY.out, ← HSB.out, rrc_zrc]; exact rrget_no Lb HB1.out.2.2.1 (by rw [HB1.out.2.2.2.2.1]; omega) HB1.out.2.2.2.2.2.2 x⟩
  have HYO : Box (∀ x, Below x8.heap.size x8 x → Calls Try.prog 12 #[.agg #[.int .u64 0, .slice none 0 0, .bool false]] x fun e w' => e = .returned (.agg AY) ∧ Below x.heap.size x w') := ⟨fun x hx => by
    have := recordOf_any zrc x (bytes_none x)
    rw [HAY.out] at this
    exact this⟩
  have HAS : Box (AY.size = 3 ∧ AY.all (·.oneCell') = true) := ⟨by rw [← HAY.out]; rfl, by rw [← HAY.out]; exact all_rrc _⟩
  have HCv : Box (∀ o : Oper, ∀ a : Act, o.op = .convert 23 9 (.tmp 57) → a.eval (.tmp 57) = .slice ab lb cb → (execOp a.eval o).run Try.prog x8 = .ok (.value (.string sb)) x8) := ⟨fun o a h1 h2 => by rw [← HSB.out]; exact exec_conv (.tmp 57) h1 h2 (HBB.out x8 (Below.refl _ _))⟩
  go_upto_region 12 with (first
    | (refine atConv _ _ ?_; refine wpList_run rfl _ _ (HCv.out _ _ rfl rfl) ?_)
    | (go_at_call 14; refine (HRG.out x8).mono ?_; rintro e x9 ⟨rfl, hb⟩; have H9 : Box (Below x8.heap.size x8 x9) := ⟨hb⟩; clear hb)
    | (refine atAlloc _ ?_; refine wpList_run rfl _ _ (exec_alloc 39 rfl _ zeroRr) ?_)
    | (refine atStore _ ?_; refine wpList_newRow x9 #[.int .u64 0, .string ByteArray.empty, .bool false] AY (by rw [HAS.out.1]; exact infoRr) (by rw [HAS.out.1]; rfl) HAS.out.2 rfl _ _ rfl rfl rfl rfl ?_; intro xa ha hba; have HA1 : Box (xa.heap[x9.heap.size]? = some (.cells AY 39 (0, 0)) ∧ Below x9.heap.size x9 xa) := ⟨ha, hba⟩; clear ha hba))
  obtain ⟨Z, hZ⟩ : ∃ R, x9.heap.size = R := ⟨_, rfl⟩
  simp only [hZ]
  have HZZ : Box (∀ x, Below xa.heap.size xa x → x.rangeAt Z 0 AY.toList ∧ Below x8.heap.size x8 x) := ⟨fun x hx => by
    have h3 := HA1.out
    rw [hZ] at h3
    have r := (hx.block Z (Array.getElem?_eq_some_iff.1 h3.1).1).trans h3.1
    exact ⟨range_arr r _ (fun j v hv => by simpa using hv), below_to H9.out (below_to HA1.out.2 hx)⟩⟩
  have HF : Box (∀ x, Below xa.heap.size xa x → x.rangeAt Rb 0 [.int .u64 mb, .slice ma ml mc, .bool last] ∧ x.rangeAt Y 0 #[.int .u64 0, .slice none 0 0, .bool false].toList ∧ x.rangeAt Z 0 AY.toList ∧ Bytes x none 0 [] ∧ Bytes x ab lb Lb ∧ Below x3.heap.size x3 x ∧ Below x8.heap.size x8 x ∧ Below x4.heap.size x4 x) := ⟨fun x hx => by
    have h1 := HZZ.out x hx
    have h2 := HYY.out x h1.2
    have h3 := below_to H4.out.1 h2.2.1
    exact ⟨(HRR.out x h3).1, h2.1, h1.1, H4.out.2 x h2.2.1, HBB.out x h1.2, h3, h1.2, h2.2.1⟩⟩
  have HW : Box (Below w.heap.size w x3) := ⟨below_to HB1.out.1 (HRR.out x3 (Below.refl _ _)).2.2⟩
  clear hZ HCv HRG
  go_upto_region 12 with fail
  refine Seq.begin_any (by kernel_rfl) (fun wd hd => ?_)
  have hbd : Below xa.heap.size xa wd := hd.mono (Nat.le_refl _)
  refine Seq.take_lat (i := 0) (v := ?_) rfl (by kernel_rfl) (by kernel_rfl) (by kernel_rfl) (fun _ _ _ h => h) (by rfl) ?_ ?_
  rotate_left
  · intro w' hLat; change Below _ _ _ at hLat; go_simp <;> with_reducible rfl
  try simp only [Act.put, List.setIfInBounds_toArray, List.set_cons_zero, List.set_cons_succ, List.getElem_toArray, List.getElem_cons_zero]
  refine Seq.take_lat (i := 1) (v := .string sc) rfl (by kernel_rfl) (by kernel_rfl) (by kernel_rfl) (fun _ _ _ h => h) (by rfl) (fun w' hLat => by rw [← HSC.out.1]; exact exec_conv (.tmp 62) rfl rfl (HF.out w' (below_to hbd hLat)).2.2.2.1) ?_
  try simp only [Act.put, List.setIfInBounds_toArray, List.set_cons_zero, List.set_cons_succ, List.getElem_toArray, List.getElem_cons_zero, List.getElem_cons_succ]
  refine Seq.take_lat (i := 2) (v := ?_) rfl (by kernel_rfl) (by kernel_rfl) (by kernel_rfl) (fun _ _ _ h => h) (by rfl) ?_ ?_
  rotate_left
  · intro w' hLat; change Below _ _ _ at hLat; go_simp <;> with_reducible rfl
  try simp only [Act.put, List.setIfInBounds_toArray, List.set_cons_zero, List.set_cons_succ, List.getElem_toArray, List.getElem_cons_zero, List.getElem_cons_succ]
  refine Seq.take_lat (i := 3) (v := .bool false) rfl (by kernel_rfl) (by kernel_rfl) (by kernel_rfl) (fun _ _ _ h => h) (by rfl) (fun w' hLat => exec_neT _ _ _ rfl sc rfl rfl) ?_
  try simp only [Act.put, List.setIfInBounds_toArray, List.set_cons_zero, List.set_cons_succ, List.getElem_toArray, List.getElem_cons_zero, List.getElem_cons_succ]
  refine Seq.take_lat (i := 4) (v := ?_) rfl (by kernel_rfl) (by kernel_rfl) (by kernel_rfl) (fun _ _ _ h => h) (by rfl) ?_ ?_
  rotate_left
  · intro w' hLat; change Below _ _ _ at hLat; go_simp <;> with_reducible rfl
  try simp only [Act.put, List.setIfInBounds_toArray, List.set_cons_zero, List.set_cons_succ, List.getElem_toArray, List.getElem_cons_zero, List.getElem_cons_succ]
  refine Seq.take_lat (i := 5) (v := ?_) rfl (by kernel_rfl) (by kernel_rfl) (by kernel_rfl) (fun _ _ _ h => h) (by rfl) ?_ ?_
  rotate_left
  · intro w' hLat; change Below _ _ _ at hLat; go_simp <;> with_reducible rfl
  try simp only [Act.put, List.setIfInBounds_toArray, List.set_cons_zero, List.set_cons_succ, List.getElem_toArray, List.getElem_cons_zero, List.getElem_cons_succ]
  refine Seq.take_lat (i := 6) (v := ?_) rfl (by kernel_rfl) (by kernel_rfl) (by kernel_rfl) (fun _ _ _ h => h) (by rfl) ?_ ?_
  rotate_left
  · intro w' hLat; change Below _ _ _ at hLat; go_simp <;> with_reducible rfl
  try simp only [Act.put, List.setIfInBounds_toArray, List.set_cons_zero, List.set_cons_succ, List.getElem_toArray, List.getElem_cons_zero, List.getElem_cons_succ]
  refine Seq.take_lat (i := 7) (v := ?_) rfl (by kernel_rfl) (by kernel_rfl) (by kernel_rfl) (fun _ _ _ h => h) (by rfl) ?_ ?_
  rotate_left
  · intro w' hLat; change Below _ _ _ at hLat; go_simp <;> with_reducible rfl
  try simp only [Act.put, List.setIfInBounds_toArray, List.set_cons_zero, List.set_cons_succ, List.getElem_toArray, List.getElem_cons_zero, List.getElem_cons_succ]
  refine Seq.take_lat (i := 8) (v := ?_) rfl (by kernel_rfl) (by kernel_rfl) (by kernel_rfl) (fun _ _ _ h => h) (by rfl) ?_ ?_
  rotate_left
  · intro w' hLat; change Below _ _ _ at hLat; go_simp <;> with_reducible rfl
  try simp only [Act.put, List.setIfInBounds_toArray, List.set_cons_zero, List.set_cons_succ, List.getElem_toArray, List.getElem_cons_zero, List.getElem_cons_succ]
  refine Seq.take_lat (i := 9) (v := ?_) rfl (by kernel_rfl) (by kernel_rfl) (by kernel_rfl) (fun _ _ _ h => h) (by rfl) ?_ ?_
  rotate_left
  · intro w' hLat; change Below _ _ _ at hLat; go_simp <;> with_reducible rfl
  try simp only [Act.put, List.setIfInBounds_toArray, List.set_cons_zero, List.set_cons_succ, List.getElem_toArray, List.getElem_cons_zero, List.getElem_cons_succ]
  refine Seq.take_lat (i := 10) (v := .agg #[.int .u64 0, .slice none 0 0, .bool false]) rfl (by kernel_rfl) (by kernel_rfl) (by kernel_rfl) (fun _ _ _ h => h) (by rfl) (fun w' hLat => exec_load_mid 30 _ _ rfl Try.underlying30 rfl Y 0 rfl #[.int .u64 0, .slice none 0 0, .bool false].toList infoRc (HF.out w' (below_to hbd hLat)).2.1) ?_
  try simp only [Act.put, List.setIfInBounds_toArray, List.set_cons_zero, List.set_cons_succ, List.getElem_toArray, List.getElem_cons_zero, List.getElem_cons_succ]
  refine Seq.take_lat (i := 12) (v := .agg AY) rfl (by kernel_rfl) (by kernel_rfl) (by kernel_rfl) (fun _ _ _ h => h) (by rfl) (fun w' hLat => exec_load_mid 39 _ _ rfl Try.underlying39 rfl Z 0 rfl AY.toList (by rw [Array.length_toList, HAS.out.1]; exact infoRr) (HF.out w' (below_to hbd hLat)).2.2.1) ?_
  try simp only [Act.put, List.setIfInBounds_toArray, List.set_cons_zero, List.set_cons_succ, List.getElem_toArray, List.getElem_cons_zero, List.getElem_cons_succ]
  refine Seq.only_lat (i := 11) rfl (by kernel_rfl) (fun KK hK => ?_)
  rw [if_pos (by rfl)]
  go_simp
  refine Calls.mono (HYO.out wd (HF.out wd hbd).2.2.2.2.2.2.1) ?_
  rintro e xb ⟨rfl, hb⟩
  have HXB : Box (Below xa.heap.size xa xb) := ⟨below_to hbd hb⟩
  refine hK.out _ _ hb ?_
  clear hK KK
  try simp only [Act.put, List.setIfInBounds_toArray, List.set_cons_zero, List.set_cons_succ, List.getElem_toArray, List.getElem_cons_zero, List.getElem_cons_succ]
  refine Seq.take_lat (i := 13) (v := .bool false) rfl (by kernel_rfl) (by kernel_rfl) (by kernel_rfl) (fun _ _ _ h => h) (by rfl) (fun w' hLat => exec_neR' _ _ _ rfl (rpl zrc) AY HAY.out rfl rfl) ?_
  try simp only [Act.put, List.setIfInBounds_toArray, List.set_cons_zero, List.set_cons_succ, List.getElem_toArray, List.getElem_cons_zero, List.getElem_cons_succ]
  refine Seq.take_lat (i := 14) (v := ?_) rfl (by kernel_rfl) (by kernel_rfl) (by kernel_rfl) (fun _ _ _ h => h) (by rfl) ?_ ?_
  rotate_left
  · intro w' hLat; change Below _ _ _ at hLat; go_simp <;> with_reducible rfl
  try simp only [Act.put, List.setIfInBounds_toArray, List.set_cons_zero, List.set_cons_succ, List.getElem_toArray, List.getElem_cons_zero, List.getElem_cons_succ]
  refine Seq.take_lat (i := 15) (v := ?_) rfl (by kernel_rfl) (by kernel_rfl) (by kernel_rfl) (fun _ _ _ h => h) (by rfl) ?_ ?_
  rotate_left
  · intro w' hLat; change Below _ _ _ at hLat; go_simp <;> with_reducible rfl
  try simp only [Act.put, List.setIfInBounds_toArray, List.set_cons_zero, List.set_cons_succ, List.getElem_toArray, List.getElem_cons_zero, List.getElem_cons_succ]
  refine Seq.take_lat (i := 16) (v := ?_) rfl (by kernel_rfl) (by kernel_rfl) (by kernel_rfl) (fun _ _ _ h => h) (by rfl) ?_ ?_
  rotate_left
  · intro w' hLat; change Below _ _ _ at hLat; go_simp <;> with_reducible rfl
  try simp only [Act.put, List.setIfInBounds_toArray, List.set_cons_zero, List.set_cons_succ, List.getElem_toArray, List.getElem_cons_zero, List.getElem_cons_succ]
  refine Seq.take_lat (i := 17) (v := ?_) rfl (by kernel_rfl) (by kernel_rfl) (by kernel_rfl) (fun _ _ _ h => h) (by rfl) ?_ ?_
  rotate_left
  · intro w' hLat; change Below _ _ _ at hLat; go_simp <;> with_reducible rfl
  try simp only [Act.put, List.setIfInBounds_toArray, List.set_cons_zero, List.set_cons_succ, List.getElem_toArray, List.getElem_cons_zero, List.getElem_cons_succ]
  refine Seq.take_lat (i := 18) (v := ?_) rfl (by kernel_rfl) (by kernel_rfl) (by kernel_rfl) (fun _ _ _ h => h) (by rfl) ?_ ?_
  rotate_left
  · intro w' hLat; change Below _ _ _ at hLat; go_simp <;> with_reducible rfl
  try simp only [Act.put, List.setIfInBounds_toArray, List.set_cons_zero, List.set_cons_succ, List.getElem_toArray, List.getElem_cons_zero, List.getElem_cons_succ]
  refine Seq.take_lat (i := 19) (v := ?_) rfl (by kernel_rfl) (by kernel_rfl) (by kernel_rfl) (fun _ _ _ h => h) (by rfl) ?_ ?_
  rotate_left
  · intro w' hLat; change Below _ _ _ at hLat; go_simp <;> with_reducible rfl
  try simp only [Act.put, List.setIfInBounds_toArray, List.set_cons_zero, List.set_cons_succ, List.getElem_toArray, List.getElem_cons_zero, List.getElem_cons_succ]
  refine wpAnyH_done (by kernel_rfl) ?_ _
  clear hd hbd hb
  go_wp2
  go_ret
  exact ⟨rfl, below_to HW.out (HF.out xb HXB.out).2.2.2.2.2.1⟩
set_option maxRecDepth 20000 in
set_option maxHeartbeats 4000000 in
theorem recordPuts_sf (m0 : Im) (last : Bool) (ab : Option Addr) (lb cb : Nat) (Lb : List Int) (w : World) (hB : Byi w m0) (hb : Bytes w ab lb Lb) (hbl : lb ≤ 300) (hbc : lb ≤ cb) (hfit : fitR Lb) :
    Calls Try.prog 3 #[.agg (imc m0).toArray, .bool last, .bool true, .slice ab lb cb] w fun e w' => e = .returned (.bool true) ∧ Below w.heap.size w w' := by
  obtain ⟨b0, a0, l0, c0, s0⟩ := m0
  unfold imc
  simp only
  obtain ⟨S, hS⟩ : ∃ S, w.heap.size = S := ⟨_, rfl⟩
  obtain ⟨w1, hw1⟩ : ∃ w1, w.alloc (.cells #[.int .u64 b0, .slice a0 l0 c0] 25) = w1 := ⟨_, rfl⟩
  have hb1 : Below w.heap.size w w1 := by rw [← hw1]; exact (Below.refl _ _).alloc (Nat.le_refl _) _
  have r1 : w1.heap[S]? = some (.cells #[.int .u64 b0, .slice a0 l0 c0] 25 (0, 0)) := by rw [← hw1]; exact al_at hS
  have hlt1 := (Array.getElem?_eq_some_iff.1 r1).1
  have HX : Box (∀ x, Below w1.heap.size w1 x → x.rangeAt S 0 [.int .u64 b0, .slice a0 l0 c0] ∧ Byi x ⟨b0, a0, l0, c0, s0⟩ ∧ Bytes x ab lb Lb) := ⟨fun x hx => by
    have r := (hx.block S hlt1).trans r1
    exact ⟨range_arr r _ (fun j v hv => by simpa using hv), ⟨hB.1.below (below_to hb1 hx), hB.2⟩, hb.below (below_to hb1 hx)⟩⟩
  have HB1 : Box (Below w.heap.size w w1 ∧ Byt s0 ∧ Byt Lb ∧ N64 b0 ∧ Lb.length = lb ∧ lb ≤ cb ∧ fitR Lb) := ⟨hb1, hB.1.2.1, hb.2.1, hB.2.1, hb.1, hbc, hfit⟩
  obtain ⟨x0, hx0⟩ : ∃ x : (Int × List Int) × Bool, ((b0, padTo s0 159), last) = x := ⟨_, rfl⟩
  have HX0 : Box (x0.1.2.length = 159 ∧ N64 x0.1.1 ∧ Byt x0.1.2) := ⟨by rw [← hx0]; exact length_padTo _ _, by rw [← hx0]; exact hB.2.1, by rw [← hx0]; exact byt_padTo _ _ hB.1.2.1⟩
  obtain ⟨AR, HAR⟩ : ∃ A, Box ((rrc x0).toArray = A) := ⟨_, ⟨rfl⟩⟩
  obtain ⟨sb, HSB⟩ : ∃ s, Box (strOfNums Lb = s) := ⟨_, ⟨rfl⟩⟩
  have hlb : lb ≤ 300 := hbl
  clear hb1 r1 hlt1 hB hb hbc hfit hbl
  go_enter Try.func3, Try.ntmps3
  go_upto_region 1 with fail
  (try simp only [hw1, hS])
  clear hw1 hS
  go_upto_region 6 with (go_at_call 8; refine (awake_any _).mono ?_; rintro e x1 ⟨rfl, hb⟩; have H1 : Box (Below w1.heap.size w1 x1) := ⟨hb⟩; clear hb)
  have HR1 : Box (x1.rangeAt S 0 [.int .u64 b0, .slice a0 l0 c0]) := ⟨(HX.out x1 H1.out).1⟩
  have HIM : Box (Calls Try.prog 9 #[.slice (some ⟨x1.heap.size, 0, none⟩) 2 2, .bool true] (x1.alloc (.cells #[.int .u64 b0, .slice a0 l0 c0, .int .u64 b0, .slice a0 l0 c0] 25)) fun e w' => ∃ v X, e = .returned v ∧ Ig (x1.alloc (.cells #[.int .u64 b0, .slice a0 l0 c0, .int .u64 b0, .slice a0 l0 c0] 25)) w' true [⟨b0, a0, l0, c0, s0⟩, ⟨b0, a0, l0, c0, s0⟩] 2 v X) := ⟨images_any _ 2 [⟨b0, a0, l0, c0, s0⟩, ⟨b0, a0, l0, c0, s0⟩] true _ (imgs_two (HX.out x1 H1.out).2.1) (by simp)⟩
  go_upto_region 7 with (first
    | (refine atLoad 25 ?_; refine wpList_ldMid rfl 25 _ _ rfl Try.underlying25 rfl S 0 rfl [.int .u64 b0, .slice a0 l0 c0] infoIm HR1.out ?_)
    | (go_at_call 9; refine HIM.out.mono ?_; rintro e x2 ⟨v, X, rfl, hI⟩; obtain ⟨g, c, ⟨mb, ma, ml, mc, ms⟩, rfl, hgl, hrg, hpl, hml, hO⟩ := ig_two hI; have H2 : Box (Below w1.heap.size w1 x2 ∧ x2.rangeAt g 2 [.int .u64 mb, .slice ma ml mc] ∧ Bytes x2 ma ml ms ∧ N64 mb ∧ ml = 159 ∧ ((mb, ms), last) = x0) := ⟨below_to H1.out (below_to ((Below.refl _ _).alloc (Nat.le_refl _) _) hI.bel), hrg, hO.byi.1, hO.num, hml, by rw [← hx0]; exact congrArg (fun z => (z, last)) hpl⟩; clear hI hgl hrg hpl hml hO))
  clear HIM HR1
  go_upto_region 8 with (first
    | (refine atIdx 27 ?_; refine wpList_run rfl _ _ (exec_idxT 27 25 Try.underlying27 2 infoIm _ _ rfl g 0 2 c 1 rfl rfl (by decide)) ?_)
    | (refine atLoad 25 ?_; refine wpList_ldMid rfl 25 _ _ rfl Try.underlying25 rfl g 2 rfl [.int .u64 mb, .slice ma ml mc] infoIm H2.out.2.1 ?_)
    | (refine atBuild 30 ?_; refine wpList_run rfl _ _ (exec_built 30 [(0, .tmp 37), (1, .tmp 38)] rfl [(0, .agg #[.int .u64 mb, .slice ma ml mc]), (1, .bool last)] rfl _ (built_Rc _ _ _ _ _)) ?_)
    | (refine atAlloc _ ?_; refine wpList_run rfl _ _ (exec_alloc 30 rfl _ zeroRc) ?_)
    | (refine atStore _ ?_; refine wpList_newRow x2 #[.int .u64 0, .slice none 0 0, .bool false] #[.int .u64 mb, .slice ma ml mc, .bool last] infoRc rfl (by simp [Value.oneCell']) rfl _ _ rfl rfl rfl rfl ?_; intro x3 h3 hb3; have H3 : Box (x3.heap[x2.heap.size]? = some (.cells #[.int .u64 mb, .slice ma ml mc, .bool last] 30 (0, 0)) ∧ Below x2.heap.size x2 x3) := ⟨h3, hb3⟩; clear h3 hb3))
  obtain ⟨Rb, hRb⟩ : ∃ R, x2.heap.size = R := ⟨_, rfl⟩
  simp only [hRb]
  have HRR : Box (∀ x, Below x3.heap.size x3 x → x.rangeAt Rb 0 [.int .u64 mb, .slice ma ml mc, .bool last] ∧ Bytes x ma ml ms ∧ Below w1.heap.size w1 x) := ⟨fun x hx => by
    have h3 := H3.out
    rw [hRb] at h3
    have r := (hx.block Rb (Array.getElem?_eq_some_iff.1 h3.1).1).trans h3.1
    exact ⟨range_arr r _ (fun j v hv => by simpa using hv), (H2.out.2.2.1).below (below_to H3.out.2 hx), below_to H2.out.1 (below_to H3.out.2 hx)⟩⟩
  have HRO : Box (∀ x, Below x3.heap.size x3 x → Calls Try.prog 12 #[.agg #[.int .u64 mb, .slice ma ml mc, .bool last]] x fun e w' => e = .returned (.agg AR) ∧ Below x.heap.size x w') := ⟨fun x hx => by
    have := recordOf_any ⟨⟨mb, ma, ml, mc, ms⟩, last⟩ x (HRR.out x hx).2.1
    have e : rpl ⟨⟨mb, ma, ml, mc, ms⟩, last⟩ = x0 := H2.out.2.2.2.2.2
    rw [e, HAR.out] at this
    exact this⟩
  have HR3 : Box (x3.rangeAt Rb 0 [.int .u64 mb, .slice ma ml mc, .bool last]) := ⟨(HRR.out x3 (Below.refl _ _)).1⟩
  clear hRb hx0
  have HPT : Box (Calls Try.prog 10 #[.agg #[.int .u64 mb, .slice ma ml mc, .bool last]] x3 fun e w' => e = .returned (.tuple #[.slice none 0 0, .int .i64 1]) ∧ Below x3.heap.size x3 w') := ⟨rcput_bad ⟨⟨mb, ma, ml, mc, ms⟩, last⟩ (by show ((ml : Int) == 160) = false; rw [H2.out.2.2.2.2.1]; rfl) x3⟩
  have HRP : Box (∀ x, Calls Try.prog 11 #[.agg AR] x fun e w' => e = .returned (.tuple #[.string ByteArray.empty, .int .i64 1]) ∧ Below x.heap.size x w') := ⟨fun x => by rw [← HAR.out]; exact rrput_bad x0 (by rw [HX0.out.1]; decide) x⟩
  obtain ⟨sc, HSC⟩ : ∃ s, Box (strOfNums [] = s ∧ ByteArray.empty = s) := ⟨_, ⟨str_nil, rfl⟩⟩
  rw [HSC.out.2] at HRP
  go_upto_region 9 with (first
    | (refine atLoad 30 ?_; refine wpList_ldMid rfl 30 _ _ rfl Try.underlying30 rfl Rb 0 rfl [.int .u64 mb, .slice ma ml mc, .bool last] infoRc HR3.out ?_)
    | (go_at_call 10; refine HPT.out.mono ?_; rintro e x4 ⟨rfl, hb⟩; have H4 : Box (Below x3.heap.size x3 x4 ∧ ∀ x, Below x4.heap.size x4 x → Bytes x none 0 []) := ⟨hb, fun x hx => bytes_none x⟩; clear hb))
  have HR4 : Box (x4.rangeAt Rb 0 [.int .u64 mb, .slice ma ml mc, .bool last]) := ⟨(HRR.out x4 H4.out.1).1⟩
  clear HR3 HPT
  go_upto_region 10 with (first
    | (refine atLoad 30 ?_; refine wpList_ldMid rfl 30 _ _ rfl Try.underlying30 rfl Rb 0 rfl [.int .u64 mb, .slice ma ml mc, .bool last] infoRc HR4.out ?_)
    | (go_at_call 12; refine (HRO.out x4 H4.out.1).mono ?_; rintro e x5 ⟨rfl, hb⟩; have H5 : Box (Below x4.heap.size x4 x5) := ⟨hb⟩; clear hb)
    | (go_at_call 11; refine (HRP.out x5).mono ?_; rintro e x6 ⟨rfl, hb⟩; have H6 : Box (Below x4.heap.size x4 x6) := ⟨below_to H5.out hb⟩; clear hb))
  clear HR4 HRP H5
  have HGB : Box (∀ x, Bytes x ab lb Lb → Calls Try.prog 13 #[.slice ab lb cb] x fun e w' => ∃ r, e = .returned (.tuple #[.agg (rcc r).toArray, .int .i64 0]) ∧ rpl r = getP Lb ∧ r.m.bl = 160 ∧ OIm w' x.heap.size r.m ∧ Below x.heap.size x w') := ⟨fun x hx => by
    have e : lb = 176 := by rw [← HB1.out.2.2.2.2.1]; exact HB1.out.2.2.2.2.2.2.1
    have hc := HB1.out.2.2.2.2.2.1
    rw [e] at hx hc ⊢
    exact rcget_ok ab cb Lb x hx hc HB1.out.2.2.2.2.2.2⟩
  have HB6 : Box (Bytes x6 ab lb Lb) := ⟨(HX.out x6 (HRR.out x6 (below_to H4.out.1 H6.out)).2.2).2.2⟩
  go_upto_region 11 with (first
    | (go_at_call 13; refine (HGB.out x6 HB6.out).mono ?_; rintro e x7 ⟨⟨⟨yb, ya, yl, yc, ys⟩, yf⟩, rfl, hp, hl, ho, hb⟩; have H7 : Box (Below x4.heap.size x4 x7 ∧ ((yb, ys), yf) = getP Lb ∧ yl = 160 ∧ Bytes x7 ya yl ys ∧ N64 yb) := ⟨below_to H6.out hb, hp, hl, ho.byi.1, ho.num⟩; clear hp hl ho hb)
    | (refine atAlloc _ ?_; refine wpList_run rfl _ _ (exec_alloc 30 rfl _ zeroRc) ?_)
    | (refine atStore _ ?_; refine wpList_newRow x7 #[.int .u64 0, .slice none 0 0, .bool false] #[.int .u64 yb, .slice ya yl yc, .bool yf] infoRc rfl (by simp [Value.oneCell']) rfl _ _ rfl rfl rfl rfl ?_; intro x8 h8 hb8; have H8 : Box (x8.heap[x7.heap.size]? = some (.cells #[.int .u64 yb, .slice ya yl yc, .bool yf] 30 (0, 0)) ∧ Below x7.heap.size x7 x8) := ⟨h8, hb8⟩; clear h8 hb8))
  obtain ⟨Y, hY⟩ : ∃ R, x7.heap.size = R := ⟨_, rfl⟩
  simp only [hY]
  have HYY : Box (∀ x, Below x8.heap.size x8 x → x.rangeAt Y 0 #[.int .u64 yb, .slice ya yl yc, .bool yf].toList ∧ Below x4.heap.size x4 x ∧ Below x7.heap.size x7 x) := ⟨fun x hx => by
    have h3 := H8.out
    rw [hY] at h3
    have r := (hx.block Y (Array.getElem?_eq_some_iff.1 h3.1).1).trans h3.1
    exact ⟨range_arr r _ (fun j v hv => by simpa using hv), below_to H7.out.1 (below_to H8.out.2 hx), below_to H8.out.2 hx⟩⟩
  have HBB : Box (∀ x, Below x8.heap.size x8 x → Bytes x ab lb Lb) := ⟨fun x hx => (HX.out x (HRR.out x (below_to H4.out.1 (HYY.out x hx).2.1)).2.2).2.2⟩
  clear hY HB6
  obtain ⟨AY, HAY⟩ : ∃ A, Box ((rrc (getP Lb)).toArray = A) := ⟨_, ⟨rfl⟩⟩
  have HRG : Box (∀ x, Calls Try.prog 14 #[.string sb] x fun e w' => e = .returned (.tuple #[.agg AY, .int .i64 0]) ∧ Below x.heap.size x w') := ⟨fun x => by rw [← HAY.out, ← HSB.out]; exact rrget_ok Lb HB1.out.2.2.1 HB1.out.2.2.2.2.2.2 x⟩
  have HYO : Box (∀ x, Below x8.heap.size x8 x → Calls Try.prog 12 #[.agg #[.int .u64 yb, .slice ya yl yc, .bool yf]] x fun e w' => e = .returned (.agg AY) ∧ Below x.heap.size x w') := ⟨fun x hx => by
    have := recordOf_any ⟨⟨yb, ya, yl, yc, ys⟩, yf⟩ x (H7.out.2.2.2.1.below (HYY.out x hx).2.2)
    have e : rpl ⟨⟨yb, ya, yl, yc, ys⟩, yf⟩ = getP Lb := H7.out.2.1
    rw [e, HAY.out] at this
    exact this⟩
  have HAS : Box (AY.size = 3 ∧ AY.all (·.oneCell') = true) := ⟨by rw [← HAY.out]; rfl, by rw [← HAY.out]; exact all_rrc _⟩
  have HCv : Box (∀ o : Oper, ∀ a : Act, o.op = .convert 23 9 (.tmp 57) → a.eval (.tmp 57) = .slice ab lb cb → (execOp a.eval o).run Try.prog x8 = .ok (.value (.string sb)) x8) := ⟨fun o a h1 h2 => by rw [← HSB.out]; exact exec_conv (.tmp 57) h1 h2 (HBB.out x8 (Below.refl _ _))⟩
  go_upto_region 12 with (first
    | (refine atConv _ _ ?_; refine wpList_run rfl _ _ (HCv.out _ _ rfl rfl) ?_)
    | (go_at_call 14; refine (HRG.out x8).mono ?_; rintro e x9 ⟨rfl, hb⟩; have H9 : Box (Below x8.heap.size x8 x9) := ⟨hb⟩; clear hb)
    | (refine atAlloc _ ?_; refine wpList_run rfl _ _ (exec_alloc 39 rfl _ zeroRr) ?_)
    | (refine atStore _ ?_; refine wpList_newRow x9 #[.int .u64 0, .string ByteArray.empty, .bool false] AY (by rw [HAS.out.1]; exact infoRr) (by rw [HAS.out.1]; rfl) HAS.out.2 rfl _ _ rfl rfl rfl rfl ?_; intro xa ha hba; have HA1 : Box (xa.heap[x9.heap.size]? = some (.cells AY 39 (0, 0)) ∧ Below x9.heap.size x9 xa) := ⟨ha, hba⟩; clear ha hba))
  obtain ⟨Z, hZ⟩ : ∃ R, x9.heap.size = R := ⟨_, rfl⟩
  simp only [hZ]
  have HZZ : Box (∀ x, Below xa.heap.size xa x → x.rangeAt Z 0 AY.toList ∧ Below x8.heap.size x8 x) := ⟨fun x hx => by
    have h3 := HA1.out
    rw [hZ] at h3
    have r := (hx.block Z (Array.getElem?_eq_some_iff.1 h3.1).1).trans h3.1
    exact ⟨range_arr r _ (fun j v hv => by simpa using hv), below_to H9.out (below_to HA1.out.2 hx)⟩⟩
  have HF : Box (∀ x, Below xa.heap.size xa x → x.rangeAt Rb 0 [.int .u64 mb, .slice ma ml mc, .bool last] ∧ x.rangeAt Y 0 #[.int .u64 yb, .slice ya yl yc, .bool yf].toList ∧ x.rangeAt Z 0 AY.toList ∧ Bytes x none 0 [] ∧ Bytes x ab lb Lb ∧ Below x3.heap.size x3 x ∧ Below x8.heap.size x8 x ∧ Below x4.heap.size x4 x) := ⟨fun x hx => by
    have h1 := HZZ.out x hx
    have h2 := HYY.out x h1.2
    have h3 := below_to H4.out.1 h2.2.1
    exact ⟨(HRR.out x h3).1, h2.1, h1.1, H4.out.2 x h2.2.1, HBB.out x h1.2, h3, h1.2, h2.2.1⟩⟩
  have HW : Box (Below w.heap.size w x3) := ⟨below_to HB1.out.1 (HRR.out x3 (Below.refl _ _)).2.2⟩
  clear hZ HCv HRG
  go_upto_region 12 with fail
  refine Seq.begin_any (by kernel_rfl) (fun wd hd => ?_)
  have hbd : Below xa.heap.size xa wd := hd.mono (Nat.le_refl _)
  refine Seq.take_lat (i := 0) (v := ?_) rfl (by kernel_rfl) (by kernel_rfl) (by kernel_rfl) (fun _ _ _ h => h) (by rfl) ?_ ?_
  rotate_left
  · intro w' hLat; change Below _ _ _ at hLat; go_simp <;> with_reducible rfl
  try simp only [Act.put, List.setIfInBounds_toArray, List.set_cons_zero, List.set_cons_succ, List.getElem_toArray, List.getElem_cons_zero]
  refine Seq.take_lat (i := 1) (v := .string sc) rfl (by kernel_rfl) (by kernel_rfl) (by kernel_rfl) (fun _ _ _ h => h) (by rfl) (fun w' hLat => by rw [← HSC.out.1]; exact exec_conv (.tmp 62) rfl rfl (HF.out w' (below_to hbd hLat)).2.2.2.1) ?_
  try simp only [Act.put, List.setIfInBounds_toArray, List.set_cons_zero, List.set_cons_succ, List.getElem_toArray, List.getElem_cons_zero, List.getElem_cons_succ]
  refine Seq.take_lat (i := 2) (v := ?_) rfl (by kernel_rfl) (by kernel_rfl) (by kernel_rfl) (fun _ _ _ h => h) (by rfl) ?_ ?_
  rotate_left
  · intro w' hLat; change Below _ _ _ at hLat; go_simp <;> with_reducible rfl
  try simp only [Act.put, List.setIfInBounds_toArray, List.set_cons_zero, List.set_cons_succ, List.getElem_toArray, List.getElem_cons_zero, List.getElem_cons_succ]
  refine Seq.take_lat (i := 3) (v := .bool false) rfl (by kernel_rfl) (by kernel_rfl) (by kernel_rfl) (fun _ _ _ h => h) (by rfl) (fun w' hLat => exec_neT _ _ _ rfl sc rfl rfl) ?_
  try simp only [Act.put, List.setIfInBounds_toArray, List.set_cons_zero, List.set_cons_succ, List.getElem_toArray, List.getElem_cons_zero, List.getElem_cons_succ]
  refine Seq.take_lat (i := 4) (v := ?_) rfl (by kernel_rfl) (by kernel_rfl) (by kernel_rfl) (fun _ _ _ h => h) (by rfl) ?_ ?_
  rotate_left
  · intro w' hLat; change Below _ _ _ at hLat; go_simp <;> with_reducible rfl
  try simp only [Act.put, List.setIfInBounds_toArray, List.set_cons_zero, List.set_cons_succ, List.getElem_toArray, List.getElem_cons_zero, List.getElem_cons_succ]
  refine Seq.take_lat (i := 5) (v := ?_) rfl (by kernel_rfl) (by kernel_rfl) (by kernel_rfl) (fun _ _ _ h => h) (by rfl) ?_ ?_
  rotate_left
  · intro w' hLat; change Below _ _ _ at hLat; go_simp <;> with_reducible rfl
  try simp only [Act.put, List.setIfInBounds_toArray, List.set_cons_zero, List.set_cons_succ, List.getElem_toArray, List.getElem_cons_zero, List.getElem_cons_succ]
  refine Seq.take_lat (i := 6) (v := ?_) rfl (by kernel_rfl) (by kernel_rfl) (by kernel_rfl) (fun _ _ _ h => h) (by rfl) ?_ ?_
  rotate_left
  · intro w' hLat; change Below _ _ _ at hLat; go_simp <;> with_reducible rfl
  try simp only [Act.put, List.setIfInBounds_toArray, List.set_cons_zero, List.set_cons_succ, List.getElem_toArray, List.getElem_cons_zero, List.getElem_cons_succ]
  refine Seq.take_lat (i := 7) (v := ?_) rfl (by kernel_rfl) (by kernel_rfl) (by kernel_rfl) (fun _ _ _ h => h) (by rfl) ?_ ?_
  rotate_left
  · intro w' hLat; change Below _ _ _ at hLat; go_simp <;> with_reducible rfl
  try simp only [Act.put, List.setIfInBounds_toArray, List.set_cons_zero, List.set_cons_succ, List.getElem_toArray, List.getElem_cons_zero, List.getElem_cons_succ]
  refine Seq.take_lat (i := 8) (v := ?_) rfl (by kernel_rfl) (by kernel_rfl) (by kernel_rfl) (fun _ _ _ h => h) (by rfl) ?_ ?_
  rotate_left
  · intro w' hLat; change Below _ _ _ at hLat; go_simp <;> with_reducible rfl
  try simp only [Act.put, List.setIfInBounds_toArray, List.set_cons_zero, List.set_cons_succ, List.getElem_toArray, List.getElem_cons_zero, List.getElem_cons_succ]
  refine Seq.take_lat (i := 9) (v := ?_) rfl (by kernel_rfl) (by kernel_rfl) (by kernel_rfl) (fun _ _ _ h => h) (by rfl) ?_ ?_
  rotate_left
  · intro w' hLat; change Below _ _ _ at hLat; go_simp <;> with_reducible rfl
  try simp only [Act.put, List.setIfInBounds_toArray, List.set_cons_zero, List.set_cons_succ, List.getElem_toArray, List.getElem_cons_zero, List.getElem_cons_succ]
  refine Seq.take_lat (i := 10) (v := .agg #[.int .u64 yb, .slice ya yl yc, .bool yf]) rfl (by kernel_rfl) (by kernel_rfl) (by kernel_rfl) (fun _ _ _ h => h) (by rfl) (fun w' hLat => exec_load_mid 30 _ _ rfl Try.underlying30 rfl Y 0 rfl #[.int .u64 yb, .slice ya yl yc, .bool yf].toList infoRc (HF.out w' (below_to hbd hLat)).2.1) ?_
  try simp only [Act.put, List.setIfInBounds_toArray, List.set_cons_zero, List.set_cons_succ, List.getElem_toArray, List.getElem_cons_zero, List.getElem_cons_succ]
  refine Seq.take_lat (i := 12) (v := .agg AY) rfl (by kernel_rfl) (by kernel_rfl) (by kernel_rfl) (fun _ _ _ h => h) (by rfl) (fun w' hLat => exec_load_mid 39 _ _ rfl Try.underlying39 rfl Z 0 rfl AY.toList (by rw [Array.length_toList, HAS.out.1]; exact infoRr) (HF.out w' (below_to hbd hLat)).2.2.1) ?_
  try simp only [Act.put, List.setIfInBounds_toArray, List.set_cons_zero, List.set_cons_succ, List.getElem_toArray, List.getElem_cons_zero, List.getElem_cons_succ]
  refine Seq.only_lat (i := 11) rfl (by kernel_rfl) (fun KK hK => ?_)
  rw [if_pos (by rfl)]
  go_simp
  refine Calls.mono (HYO.out wd (HF.out wd hbd).2.2.2.2.2.2.1) ?_
  rintro e xb ⟨rfl, hb⟩
  have HXB : Box (Below xa.heap.size xa xb) := ⟨below_to hbd hb⟩
  refine hK.out _ _ hb ?_
  clear hK KK
  try simp only [Act.put, List.setIfInBounds_toArray, List.set_cons_zero, List.set_cons_succ, List.getElem_toArray, List.getElem_cons_zero, List.getElem_cons_succ]
  refine Seq.take_lat (i := 13) (v := .bool false) rfl (by kernel_rfl) (by kernel_rfl) (by kernel_rfl) (fun _ _ _ h => h) (by rfl) (fun w' hLat => exec_neR' _ _ _ rfl (getP Lb) AY HAY.out rfl rfl) ?_
  try simp only [Act.put, List.setIfInBounds_toArray, List.set_cons_zero, List.set_cons_succ, List.getElem_toArray, List.getElem_cons_zero, List.getElem_cons_succ]
  refine Seq.take_lat (i := 14) (v := ?_) rfl (by kernel_rfl) (by kernel_rfl) (by kernel_rfl) (fun _ _ _ h => h) (by rfl) ?_ ?_
  rotate_left
  · intro w' hLat; change Below _ _ _ at hLat; go_simp <;> with_reducible rfl
  try simp only [Act.put, List.setIfInBounds_toArray, List.set_cons_zero, List.set_cons_succ, List.getElem_toArray, List.getElem_cons_zero, List.getElem_cons_succ]
  refine Seq.take_lat (i := 15) (v := ?_) rfl (by kernel_rfl) (by kernel_rfl) (by kernel_rfl) (fun _ _ _ h => h) (by rfl) ?_ ?_
  rotate_left
  · intro w' hLat; change Below _ _ _ at hLat; go_simp <;> with_reducible rfl
  try simp only [Act.put, List.setIfInBounds_toArray, List.set_cons_zero, List.set_cons_succ, List.getElem_toArray, List.getElem_cons_zero, List.getElem_cons_succ]
  refine Seq.take_lat (i := 16) (v := ?_) rfl (by kernel_rfl) (by kernel_rfl) (by kernel_rfl) (fun _ _ _ h => h) (by rfl) ?_ ?_
  rotate_left
  · intro w' hLat; change Below _ _ _ at hLat; go_simp <;> with_reducible rfl
  try simp only [Act.put, List.setIfInBounds_toArray, List.set_cons_zero, List.set_cons_succ, List.getElem_toArray, List.getElem_cons_zero, List.getElem_cons_succ]
  refine Seq.take_lat (i := 17) (v := ?_) rfl (by kernel_rfl) (by kernel_rfl) (by kernel_rfl) (fun _ _ _ h => h) (by rfl) ?_ ?_
  rotate_left
  · intro w' hLat; change Below _ _ _ at hLat; go_simp <;> with_reducible rfl
  try simp only [Act.put, List.setIfInBounds_toArray, List.set_cons_zero, List.set_cons_succ, List.getElem_toArray, List.getElem_cons_zero, List.getElem_cons_succ]
  refine Seq.take_lat (i := 18) (v := ?_) rfl (by kernel_rfl) (by kernel_rfl) (by kernel_rfl) (fun _ _ _ h => h) (by rfl) ?_ ?_
  rotate_left
  · intro w' hLat; change Below _ _ _ at hLat; go_simp <;> with_reducible rfl
  try simp only [Act.put, List.setIfInBounds_toArray, List.set_cons_zero, List.set_cons_succ, List.getElem_toArray, List.getElem_cons_zero, List.getElem_cons_succ]
  refine Seq.take_lat (i := 19) (v := ?_) rfl (by kernel_rfl) (by kernel_rfl) (by kernel_rfl) (fun _ _ _ h => h) (by rfl) ?_ ?_
  rotate_left
  · intro w' hLat; change Below _ _ _ at hLat; go_simp <;> with_reducible rfl
  try simp only [Act.put, List.setIfInBounds_toArray, List.set_cons_zero, List.set_cons_succ, List.getElem_toArray, List.getElem_cons_zero, List.getElem_cons_succ]
  refine wpAnyH_done (by kernel_rfl) ?_ _
  clear hd hbd hb
  have HPY : Box (Calls Try.prog 10 #[.agg #[.int .u64 yb, .slice ya yl yc, .bool yf]] xb fun e w' => ∃ a c, e = .returned (.tuple #[.slice a 176 c, .int .i64 0]) ∧ w'.ownsRow xb.heap.size 5 1 (.slice a 176 c) 176 (Lb.map (Value.int .u8)) ∧ Below xb.heap.size xb w') := ⟨by
    have h8 := (HF.out xb HXB.out).2.2.2.2.2.2.1
    have := rcput_ok ⟨⟨yb, ya, yl, yc, ys⟩, yf⟩ xb (H7.out.2.2.2.1.below (HYY.out xb h8).2.2) H7.out.2.2.2.2 H7.out.2.2.1
    have e : rpl ⟨⟨yb, ya, yl, yc, ys⟩, yf⟩ = getP Lb := H7.out.2.1
    rw [e, putP_getP Lb HB1.out.2.2.1 HB1.out.2.2.2.2.2.2] at this
    exact this⟩
  have HRY : Box (xb.rangeAt Y 0 [.int .u64 yb, .slice ya yl yc, .bool yf]) := ⟨(HF.out xb HXB.out).2.1⟩
  go_upto_region 21 with (first
    | (refine atLoad 30 ?_; refine wpList_ldMid rfl 30 _ _ rfl Try.underlying30 rfl Y 0 rfl [.int .u64 yb, .slice ya yl yc, .bool yf] infoRc HRY.out ?_)
    | (go_at_call 10; refine HPY.out.mono ?_; rintro e xg ⟨ka, kc, rfl, ho, hb⟩; have HG1 : Box (Below xa.heap.size xa xg ∧ Bytes xg ka 176 Lb) := ⟨below_to HXB.out hb, own_bytes ho HB1.out.2.2.1⟩; clear ho hb))
  have HCk : Box (∀ o : Oper, ∀ a : Act, o.op = .convert 23 9 (.tmp 108) → a.eval (.tmp 108) = .slice ka 176 kc → (execOp a.eval o).run Try.prog xg = .ok (.value (.string sb)) xg) := ⟨fun o a h1 h2 => by rw [← HSB.out]; exact exec_conv (.tmp 108) h1 h2 HG1.out.2⟩
  have HCl : Box (∀ o : Oper, ∀ a : Act, o.op = .convert 23 9 (.tmp 110) → a.eval (.tmp 110) = .slice ab lb cb → (execOp a.eval o).run Try.prog xg = .ok (.value (.string sb)) xg) := ⟨fun o a h1 h2 => by rw [← HSB.out]; exact exec_conv (.tmp 110) h1 h2 (HF.out xg HG1.out.1).2.2.2.2.1⟩
  clear HPY HRY
  go_wp2_with (first
    | (refine atConv _ _ ?_; first | (refine wpList_runG (by rfl) _ _ (HCk.out _ _ rfl rfl) ?_) | (refine wpList_runG (by rfl) _ _ (HCl.out _ _ rfl rfl) ?_))
    | (refine atBin .eql 9 ?_; refine wpList_runG (by rfl) _ _ (exec_eqT _ _ _ rfl sb rfl rfl) ?_))
  go_ret
  exact ⟨rfl, below_to HW.out (HF.out xg HG1.out.1).2.2.2.2.2.1⟩
set_option maxRecDepth 20000 in
set_option maxHeartbeats 4000000 in
theorem recordPuts_ln (m0 : Im) (last : Bool) (ab : Option Addr) (lb cb : Nat) (Lb : List Int) (w : World) (hB : Byi w m0) (hb : Bytes w ab lb Lb) (hbl : lb ≤ 300) (hbc : lb ≤ cb) (hfit : ¬ fitR Lb) :
    Calls Try.prog 3 #[.agg (imc m0).toArray, .bool last, .bool false, .slice ab lb cb] w fun e w' => e = .returned (.bool true) ∧ Below w.heap.size w w' := by
  obtain ⟨b0, a0, l0, c0, s0⟩ := m0
  unfold imc
  simp only
  obtain ⟨S, hS⟩ : ∃ S, w.heap.size = S := ⟨_, rfl⟩
  obtain ⟨w1, hw1⟩ : ∃ w1, w.alloc (.cells #[.int .u64 b0, .slice a0 l0 c0] 25) = w1 := ⟨_, rfl⟩
  have hb1 : Below w.heap.size w w1 := by rw [← hw1]; exact (Below.refl _ _).alloc (Nat.le_refl _) _
  have r1 : w1.heap[S]? = some (.cells #[.int .u64 b0, .slice a0 l0 c0] 25 (0, 0)) := by rw [← hw1]; exact al_at hS
  have hlt1 := (Array.getElem?_eq_some_iff.1 r1).1
  have HX : Box (∀ x, Below w1.heap.size w1 x → x.rangeAt S 0 [.int .u64 b0, .slice a0 l0 c0] ∧ Byi x ⟨b0, a0, l0, c0, s0⟩ ∧ Bytes x ab lb Lb) := ⟨fun x hx => by
    have r := (hx.block S hlt1).trans r1
    exact ⟨range_arr r _ (fun j v hv => by simpa using hv), ⟨hB.1.below (below_to hb1 hx), hB.2⟩, hb.below (below_to hb1 hx)⟩⟩
  have HB1 : Box (Below w.heap.size w w1 ∧ Byt s0 ∧ Byt Lb ∧ N64 b0 ∧ Lb.length = lb ∧ lb ≤ cb ∧ ¬ fitR Lb) := ⟨hb1, hB.1.2.1, hb.2.1, hB.2.1, hb.1, hbc, hfit⟩
  obtain ⟨x0, hx0⟩ : ∃ x : (Int × List Int) × Bool, ((b0, padTo s0 160), last) = x := ⟨_, rfl⟩
  have HX0 : Box (x0.1.2.length = 160 ∧ N64 x0.1.1 ∧ Byt x0.1.2) := ⟨by rw [← hx0]; exact length_padTo _ _, by rw [← hx0]; exact hB.2.1, by rw [← hx0]; exact byt_padTo _ _ hB.1.2.1⟩
  obtain ⟨AR, HAR⟩ : ∃ A, Box ((rrc x0).toArray = A) := ⟨_, ⟨rfl⟩⟩
  obtain ⟨sb, HSB⟩ : ∃ s, Box (strOfNums Lb = s) := ⟨_, ⟨rfl⟩⟩
  have hlb : lb ≤ 300 := hbl
  clear hb1 r1 hlt1 hB hb hbc hfit hbl
  go_enter Try.func3, Try.ntmps3
  go_upto_region 1 with fail
  (try simp only [hw1, hS])
  clear hw1 hS
  go_upto_region 6 with (go_at_call 8; refine (awake_any _).mono ?_; rintro e x1 ⟨rfl, hb⟩; have H1 : Box (Below w1.heap.size w1 x1) := ⟨hb⟩; clear hb)
  have HR1 : Box (x1.rangeAt S 0 [.int .u64 b0, .slice a0 l0 c0]) := ⟨(HX.out x1 H1.out).1⟩
  have HIM : Box (Calls Try.prog 9 #[.slice (some ⟨x1.heap.size, 0, none⟩) 2 2, .bool false] (x1.alloc (.cells #[.int .u64 b0, .slice a0 l0 c0, .int .u64 b0, .slice a0 l0 c0] 25)) fun e w' => ∃ v X, e = .returned v ∧ Ig (x1.alloc (.cells #[.int .u64 b0, .slice a0 l0 c0, .int .u64 b0, .slice a0 l0 c0] 25)) w' false [⟨b0, a0, l0, c0, s0⟩, ⟨b0, a0, l0, c0, s0⟩] 2 v X) := ⟨images_any _ 2 [⟨b0, a0, l0, c0, s0⟩, ⟨b0, a0, l0, c0, s0⟩] false _ (imgs_two (HX.out x1 H1.out).2.1) (by simp)⟩
  go_upto_region 7 with (first
    | (refine atLoad 25 ?_; refine wpList_ldMid rfl 25 _ _ rfl Try.underlying25 rfl S 0 rfl [.int .u64 b0, .slice a0 l0 c0] infoIm HR1.out ?_)
    | (go_at_call 9; refine HIM.out.mono ?_; rintro e x2 ⟨v, X, rfl, hI⟩; obtain ⟨g, c, ⟨mb, ma, ml, mc, ms⟩, rfl, hgl, hrg, hpl, hml, hO⟩ := ig_two hI; have H2 : Box (Below w1.heap.size w1 x2 ∧ x2.rangeAt g 2 [.int .u64 mb, .slice ma ml mc] ∧ Bytes x2 ma ml ms ∧ N64 mb ∧ ml = 160 ∧ ((mb, ms), last) = x0) := ⟨below_to H1.out (below_to ((Below.refl _ _).alloc (Nat.le_refl _) _) hI.bel), hrg, hO.byi.1, hO.num, hml, by rw [← hx0]; exact congrArg (fun z => (z, last)) hpl⟩; clear hI hgl hrg hpl hml hO))
  clear HIM HR1
  go_upto_region 8 with (first
    | (refine atIdx 27 ?_; refine wpList_run rfl _ _ (exec_idxT 27 25 Try.underlying27 2 infoIm _ _ rfl g 0 2 c 1 rfl rfl (by decide)) ?_)
    | (refine atLoad 25 ?_; refine wpList_ldMid rfl 25 _ _ rfl Try.underlying25 rfl g 2 rfl [.int .u64 mb, .slice ma ml mc] infoIm H2.out.2.1 ?_)
    | (refine atBuild 30 ?_; refine wpList_run rfl _ _ (exec_built 30 [(0, .tmp 37), (1, .tmp 38)] rfl [(0, .agg #[.int .u64 mb, .slice ma ml mc]), (1, .bool last)] rfl _ (built_Rc _ _ _ _ _)) ?_)
    | (refine atAlloc _ ?_; refine wpList_run rfl _ _ (exec_alloc 30 rfl _ zeroRc) ?_)
    | (refine atStore _ ?_; refine wpList_newRow x2 #[.int .u64 0, .slice none 0 0, .bool false] #[.int .u64 mb, .slice ma ml mc, .bool last] infoRc rfl (by simp [Value.oneCell']) rfl _ _ rfl rfl rfl rfl ?_; intro x3 h3 hb3; have H3 : Box (x3.heap[x2.heap.size]? = some (.cells #[.int .u64 mb, .slice ma ml mc, .bool last] 30 (0, 0)) ∧ Below x2.heap.size x2 x3) := ⟨h3, hb3⟩; clear h3 hb3))
  obtain ⟨Rb, hRb⟩ : ∃ R, x2.heap.size = R := ⟨_, rfl⟩
  simp only [hRb]
  have HRR : Box (∀ x, Below x3.heap.size x3 x → x.rangeAt Rb 0 [.int .u64 mb, .slice ma ml mc, .bool last] ∧ Bytes x ma ml ms ∧ Below w1.heap.size w1 x) := ⟨fun x hx => by
    have h3 := H3.out
    rw [hRb] at h3
    have r := (hx.block Rb (Array.getElem?_eq_some_iff.1 h3.1).1).trans h3.1
    exact ⟨range_arr r _ (fun j v hv => by simpa using hv), (H2.out.2.2.1).below (below_to H3.out.2 hx), below_to H2.out.1 (below_to H3.out.2 hx)⟩⟩
  have HRO : Box (∀ x, Below x3.heap.size x3 x → Calls Try.prog 12 #[.agg #[.int .u64 mb, .slice ma ml mc, .bool last]] x fun e w' => e = .returned (.agg AR) ∧ Below x.heap.size x w') := ⟨fun x hx => by
    have := recordOf_any ⟨⟨mb, ma, ml, mc, ms⟩, last⟩ x (HRR.out x hx).2.1
    have e : rpl ⟨⟨mb, ma, ml, mc, ms⟩, last⟩ = x0 := H2.out.2.2.2.2.2
    rw [e, HAR.out] at this
    exact this⟩
  have HR3 : Box (x3.rangeAt Rb 0 [.int .u64 mb, .slice ma ml mc, .bool last]) := ⟨(HRR.out x3 (Below.refl _ _)).1⟩
  clear hRb hx0
  have HPT : Box (Calls Try.prog 10 #[.agg #[.int .u64 mb, .slice ma ml mc, .bool last]] x3 fun e w' => ∃ a c, e = .returned (.tuple #[.slice a 176 c, .int .i64 0]) ∧ w'.ownsRow x3.heap.size 5 1 (.slice a 176 c) 176 ((putP x0).map (Value.int .u8)) ∧ Below x3.heap.size x3 w') := ⟨by
    have := rcput_ok ⟨⟨mb, ma, ml, mc, ms⟩, last⟩ x3 (HRR.out x3 (Below.refl _ _)).2.1 H2.out.2.2.2.1 H2.out.2.2.2.2.1
    have e : rpl ⟨⟨mb, ma, ml, mc, ms⟩, last⟩ = x0 := H2.out.2.2.2.2.2
    rw [e] at this
    exact this⟩
  obtain ⟨sc, HSC⟩ : ∃ s, Box (strOfNums (putP x0) = s) := ⟨_, ⟨rfl⟩⟩
  have HRP : Box (∀ x, Calls Try.prog 11 #[.agg AR] x fun e w' => e = .returned (.tuple #[.string sc, .int .i64 0]) ∧ Below x.heap.size x w') := ⟨fun x => by rw [← HAR.out, ← HSC.out]; exact rrput_ok x0 HX0.out.1 HX0.out.2.1 x⟩
  go_upto_region 9 with (first
    | (refine atLoad 30 ?_; refine wpList_ldMid rfl 30 _ _ rfl Try.underlying30 rfl Rb 0 rfl [.int .u64 mb, .slice ma ml mc, .bool last] infoRc HR3.out ?_)
    | (go_at_call 10; refine HPT.out.mono ?_; rintro e x4 ⟨ca, cc, rfl, ho, hb⟩; have H4 : Box (Below x3.heap.size x3 x4 ∧ (∀ x, Below x4.heap.size x4 x → Bytes x ca 176 (putP x0)) ∧ 176 ≤ cc) := ⟨hb, fun x hx => (own_bytes ho (byt_putP _ HX0.out.2.2)).below hx, (own_cap ho).1⟩; clear ho hb))
  have HR4 : Box (x4.rangeAt Rb 0 [.int .u64 mb, .slice ma ml mc, .bool last]) := ⟨(HRR.out x4 H4.out.1).1⟩
  clear HR3 HPT
  go_upto_region 10 with (first
    | (refine atLoad 30 ?_; refine wpList_ldMid rfl 30 _ _ rfl Try.underlying30 rfl Rb 0 rfl [.int .u64 mb, .slice ma ml mc, .bool last] infoRc HR4.out ?_)
    | (go_at_call 12; refine (HRO.out x4 H4.out.1).mono ?_; rintro e x5 ⟨rfl, hb⟩; have H5 : Box (Below x4.heap.size x4 x5) := ⟨hb⟩; clear hb)
    | (go_at_call 11; refine (HRP.out x5).mono ?_; rintro e x6 ⟨rfl, hb⟩; have H6 : Box (Below x4.heap.size x4 x6) := ⟨below_to H5.out hb⟩; clear hb))
  clear HR4 HRP H5
  have HGB : Box (∀ x, Bytes x ab lb Lb → Calls Try.prog 13 #[.slice ab lb cb] x fun e w' => e = .returned (.tuple #[.agg #[.int .u64 0, .slice none 0 0, .bool false], .int .i64 11]) ∧ Below x.heap.size x w') := ⟨fun x hx => rcget_no ab lb cb Lb x hx (by unfold maxLen; omega) HB1.out.2.2.2.2.2.1 HB1.out.2.2.2.2.2.2⟩
  have HB6 : Box (Bytes x6 ab lb Lb) := ⟨(HX.out x6 (HRR.out x6 (below_to H4.out.1 H6.out)).2.2).2.2⟩
  go_upto_region 11 with (first
    | (go_at_call 13; refine (HGB.out x6 HB6.out).mono ?_; rintro e x7 ⟨rfl, hb⟩; have H7 : Box (Below x4.heap.size x4 x7) := ⟨below_to H6.out hb⟩; clear hb)
    | (refine atAlloc _ ?_; refine wpList_run rfl _ _ (exec_alloc 30 rfl _ zeroRc) ?_)
    | (refine atStore _ ?_; refine wpList_newRow x7 #[.int .u64 0, .slice none 0 0, .bool false] #[.int .u64 0, .slice none 0 0, .bool false] infoRc rfl (by simp [Value.oneCell']) rfl _ _ rfl rfl rfl rfl ?_; intro x8 h8 hb8; have H8 : Box (x8.heap[x7.heap.size]? = some (.cells #[.int .u64 0, .slice none 0 0, .bool false] 30 (0, 0)) ∧ Below x7.heap.size x7 x8) := ⟨h8, hb8⟩; clear h8 hb8))
  obtain ⟨Y, hY⟩ : ∃ R, x7.heap.size = R := ⟨_, rfl⟩
  simp only [hY]
  have HYY : Box (∀ x, Below x8.heap.size x8 x → x.rangeAt Y 0 #[.int .u64 0, .slice none 0 0, .bool false].toList ∧ Below x4.heap.size x4 x ∧ Below x7.heap.size x7 x) := ⟨fun x hx => by
    have h3 := H8.out
    rw [hY] at h3
    have r := (hx.block Y (Array.getElem?_eq_some_iff.1 h3.1).1).trans h3.1
    exact ⟨range_arr r _ (fun j v hv => by simpa using hv), below_to H7.out (below_to H8.out.2 hx), below_to H8.out.2 hx⟩⟩
  have HBB : Box (∀ x, Below x8.heap.size x8 x → Bytes x ab lb Lb) := ⟨fun x hx => (HX.out x (HRR.out x (below_to H4.out.1 (HYY.out x hx).2.1)).2.2).2.2⟩
  clear hY HB6
  obtain ⟨AY, HAY⟩ : ∃ A, Box ((rrc (rpl zrc)).toArray = A) := ⟨_, ⟨rfl⟩⟩
  have HRG : Box (∀ x, Calls Try.prog 14 #[.string sb] x fun e w' => e = .returned (.tuple #[.agg AY, .int .i64 11]) ∧ Below x.heap.size x w') := ⟨fun x => by rw [← HAY.out, ← HSB.out, rrc_zrc]; exact rrget_no Lb HB1.out.2.2.1 (by rw [HB1.out.2.2.2.2.1]; omega) HB1.out.2.2.2.2.2.2 x⟩
  have HYO : Box (∀ x, Below x8.heap.size x8 x → Calls Try.prog 12 #[.agg #[.int .u64 0, .slice none 0 0, .bool false]] x fun e w' => e = .returned (.agg AY) ∧ Below x.heap.size x w') := ⟨fun x hx => by
    have := recordOf_any zrc x (bytes_none x)
    rw [HAY.out] at this
    exact this⟩
  have HAS : Box (AY.size = 3 ∧ AY.all (·.oneCell') = true) := ⟨by rw [← HAY.out]; rfl, by rw [← HAY.out]; exact all_rrc _⟩
  have HCv : Box (∀ o : Oper, ∀ a : Act, o.op = .convert 23 9 (.tmp 57) → a.eval (.tmp 57) = .slice ab lb cb → (execOp a.eval o).run Try.prog x8 = .ok (.value (.string sb)) x8) := ⟨fun o a h1 h2 => by rw [← HSB.out]; exact exec_conv (.tmp 57) h1 h2 (HBB.out x8 (Below.refl _ _))⟩
  go_upto_region 12 with (first
    | (refine atConv _ _ ?_; refine wpList_run rfl _ _ (HCv.out _ _ rfl rfl) ?_)
    | (go_at_call 14; refine (HRG.out x8).mono ?_; rintro e x9 ⟨rfl, hb⟩; have H9 : Box (Below x8.heap.size x8 x9) := ⟨hb⟩; clear hb)
    | (refine atAlloc _ ?_; refine wpList_run rfl _ _ (exec_alloc 39 rfl _ zeroRr) ?_)
    | (refine atStore _ ?_; refine wpList_newRow x9 #[.int .u64 0, .string ByteArray.empty, .bool false] AY (by rw [HAS.out.1]; exact infoRr) (by rw [HAS.out.1]; rfl) HAS.out.2 rfl _ _ rfl rfl rfl rfl ?_; intro xa ha hba; have HA1 : Box (xa.heap[x9.heap.size]? = some (.cells AY 39 (0, 0)) ∧ Below x9.heap.size x9 xa) := ⟨ha, hba⟩; clear ha hba))
  obtain ⟨Z, hZ⟩ : ∃ R, x9.heap.size = R := ⟨_, rfl⟩
  simp only [hZ]
  have HZZ : Box (∀ x, Below xa.heap.size xa x → x.rangeAt Z 0 AY.toList ∧ Below x8.heap.size x8 x) := ⟨fun x hx => by
    have h3 := HA1.out
    rw [hZ] at h3
    have r := (hx.block Z (Array.getElem?_eq_some_iff.1 h3.1).1).trans h3.1
    exact ⟨range_arr r _ (fun j v hv => by simpa using hv), below_to H9.out (below_to HA1.out.2 hx)⟩⟩
  have HF : Box (∀ x, Below xa.heap.size xa x → x.rangeAt Rb 0 [.int .u64 mb, .slice ma ml mc, .bool last] ∧ x.rangeAt Y 0 #[.int .u64 0, .slice none 0 0, .bool false].toList ∧ x.rangeAt Z 0 AY.toList ∧ Bytes x ca 176 (putP x0) ∧ Bytes x ab lb Lb ∧ Below x3.heap.size x3 x ∧ Below x8.heap.size x8 x ∧ Below x4.heap.size x4 x) := ⟨fun x hx => by
    have h1 := HZZ.out x hx
    have h2 := HYY.out x h1.2
    have h3 := below_to H4.out.1 h2.2.1
    exact ⟨(HRR.out x h3).1, h2.1, h1.1, H4.out.2.1 x h2.2.1, HBB.out x h1.2, h3, h1.2, h2.2.1⟩⟩
  have HW : Box (Below w.heap.size w x3) := ⟨below_to HB1.out.1 (HRR.out x3 (Below.refl _ _)).2.2⟩
  clear hZ HCv HRG
  go_upto_region 12 with fail
  refine Seq.begin_any (by kernel_rfl) (fun wd hd => ?_)
  have hbd : Below xa.heap.size xa wd := hd.mono (Nat.le_refl _)
  refine Seq.take_lat (i := 0) (v := ?_) rfl (by kernel_rfl) (by kernel_rfl) (by kernel_rfl) (fun _ _ _ h => h) (by rfl) ?_ ?_
  rotate_left
  · intro w' hLat; change Below _ _ _ at hLat; go_simp <;> with_reducible rfl
  try simp only [Act.put, List.setIfInBounds_toArray, List.set_cons_zero, List.set_cons_succ, List.getElem_toArray, List.getElem_cons_zero]
  refine Seq.take_lat (i := 1) (v := .string sc) rfl (by kernel_rfl) (by kernel_rfl) (by kernel_rfl) (fun _ _ _ h => h) (by rfl) (fun w' hLat => by rw [← HSC.out]; exact exec_conv (.tmp 62) rfl rfl (HF.out w' (below_to hbd hLat)).2.2.2.1) ?_
  try simp only [Act.put, List.setIfInBounds_toArray, List.set_cons_zero, List.set_cons_succ, List.getElem_toArray, List.getElem_cons_zero, List.getElem_cons_succ]
  refine Seq.take_lat (i := 2) (v := ?_) rfl (by kernel_rfl) (by kernel_rfl) (by kernel_rfl) (fun _ _ _ h => h) (by rfl) ?_ ?_
  rotate_left
  · intro w' hLat; change Below _ _ _ at hLat; go_simp <;> with_reducible rfl
  try simp only [Act.put, List.setIfInBounds_toArray, List.set_cons_zero, List.set_cons_succ, List.getElem_toArray, List.getElem_cons_zero, List.getElem_cons_succ]
  refine Seq.take_lat (i := 3) (v := .bool false) rfl (by kernel_rfl) (by kernel_rfl) (by kernel_rfl) (fun _ _ _ h => h) (by rfl) (fun w' hLat => exec_neT _ _ _ rfl sc rfl rfl) ?_
  try simp only [Act.put, List.setIfInBounds_toArray, List.set_cons_zero, List.set_cons_succ, List.getElem_toArray, List.getElem_cons_zero, List.getElem_cons_succ]
  refine Seq.take_lat (i := 4) (v := ?_) rfl (by kernel_rfl) (by kernel_rfl) (by kernel_rfl) (fun _ _ _ h => h) (by rfl) ?_ ?_
  rotate_left
  · intro w' hLat; change Below _ _ _ at hLat; go_simp <;> with_reducible rfl
  try simp only [Act.put, List.setIfInBounds_toArray, List.set_cons_zero, List.set_cons_succ, List.getElem_toArray, List.getElem_cons_zero, List.getElem_cons_succ]
  refine Seq.take_lat (i := 5) (v := ?_) rfl (by kernel_rfl) (by kernel_rfl) (by kernel_rfl) (fun _ _ _ h => h) (by rfl) ?_ ?_
  rotate_left
  · intro w' hLat; change Below _ _ _ at hLat; go_simp <;> with_reducible rfl
  try simp only [Act.put, List.setIfInBounds_toArray, List.set_cons_zero, List.set_cons_succ, List.getElem_toArray, List.getElem_cons_zero, List.getElem_cons_succ]
  refine Seq.take_lat (i := 6) (v := ?_) rfl (by kernel_rfl) (by kernel_rfl) (by kernel_rfl) (fun _ _ _ h => h) (by rfl) ?_ ?_
  rotate_left
  · intro w' hLat; change Below _ _ _ at hLat; go_simp <;> with_reducible rfl
  try simp only [Act.put, List.setIfInBounds_toArray, List.set_cons_zero, List.set_cons_succ, List.getElem_toArray, List.getElem_cons_zero, List.getElem_cons_succ]
  refine Seq.take_lat (i := 7) (v := ?_) rfl (by kernel_rfl) (by kernel_rfl) (by kernel_rfl) (fun _ _ _ h => h) (by rfl) ?_ ?_
  rotate_left
  · intro w' hLat; change Below _ _ _ at hLat; go_simp <;> with_reducible rfl
  try simp only [Act.put, List.setIfInBounds_toArray, List.set_cons_zero, List.set_cons_succ, List.getElem_toArray, List.getElem_cons_zero, List.getElem_cons_succ]
  refine Seq.take_lat (i := 8) (v := ?_) rfl (by kernel_rfl) (by kernel_rfl) (by kernel_rfl) (fun _ _ _ h => h) (by rfl) ?_ ?_
  rotate_left
  · intro w' hLat; change Below _ _ _ at hLat; go_simp <;> with_reducible rfl
  try simp only [Act.put, List.setIfInBounds_toArray, List.set_cons_zero, List.set_cons_succ, List.getElem_toArray, List.getElem_cons_zero, List.getElem_cons_succ]
  refine Seq.take_lat (i := 9) (v := ?_) rfl (by kernel_rfl) (by kernel_rfl) (by kernel_rfl) (fun _ _ _ h => h) (by rfl) ?_ ?_
  rotate_left
  · intro w' hLat; change Below _ _ _ at hLat; go_simp <;> with_reducible rfl
  try simp only [Act.put, List.setIfInBounds_toArray, List.set_cons_zero, List.set_cons_succ, List.getElem_toArray, List.getElem_cons_zero, List.getElem_cons_succ]
  refine Seq.take_lat (i := 10) (v := .agg #[.int .u64 0, .slice none 0 0, .bool false]) rfl (by kernel_rfl) (by kernel_rfl) (by kernel_rfl) (fun _ _ _ h => h) (by rfl) (fun w' hLat => exec_load_mid 30 _ _ rfl Try.underlying30 rfl Y 0 rfl #[.int .u64 0, .slice none 0 0, .bool false].toList infoRc (HF.out w' (below_to hbd hLat)).2.1) ?_
  try simp only [Act.put, List.setIfInBounds_toArray, List.set_cons_zero, List.set_cons_succ, List.getElem_toArray, List.getElem_cons_zero, List.getElem_cons_succ]
  refine Seq.take_lat (i := 12) (v := .agg AY) rfl (by kernel_rfl) (by kernel_rfl) (by kernel_rfl) (fun _ _ _ h => h) (by rfl) (fun w' hLat => exec_load_mid 39 _ _ rfl Try.underlying39 rfl Z 0 rfl AY.toList (by rw [Array.length_toList, HAS.out.1]; exact infoRr) (HF.out w' (below_to hbd hLat)).2.2.1) ?_
  try simp only [Act.put, List.setIfInBounds_toArray, List.set_cons_zero, List.set_cons_succ, List.getElem_toArray, List.getElem_cons_zero, List.getElem_cons_succ]
  refine Seq.only_lat (i := 11) rfl (by kernel_rfl) (fun KK hK => ?_)
  rw [if_pos (by rfl)]
  go_simp
  refine Calls.mono (HYO.out wd (HF.out wd hbd).2.2.2.2.2.2.1) ?_
  rintro e xb ⟨rfl, hb⟩
  have HXB : Box (Below xa.heap.size xa xb) := ⟨below_to hbd hb⟩
  refine hK.out _ _ hb ?_
  clear hK KK
  try simp only [Act.put, List.setIfInBounds_toArray, List.set_cons_zero, List.set_cons_succ, List.getElem_toArray, List.getElem_cons_zero, List.getElem_cons_succ]
  refine Seq.take_lat (i := 13) (v := .bool false) rfl (by kernel_rfl) (by kernel_rfl) (by kernel_rfl) (fun _ _ _ h => h) (by rfl) (fun w' hLat => exec_neR' _ _ _ rfl (rpl zrc) AY HAY.out rfl rfl) ?_
  try simp only [Act.put, List.setIfInBounds_toArray, List.set_cons_zero, List.set_cons_succ, List.getElem_toArray, List.getElem_cons_zero, List.getElem_cons_succ]
  refine Seq.take_lat (i := 14) (v := ?_) rfl (by kernel_rfl) (by kernel_rfl) (by kernel_rfl) (fun _ _ _ h => h) (by rfl) ?_ ?_
  rotate_left
  · intro w' hLat; change Below _ _ _ at hLat; go_simp <;> with_reducible rfl
  try simp only [Act.put, List.setIfInBounds_toArray, List.set_cons_zero, List.set_cons_succ, List.getElem_toArray, List.getElem_cons_zero, List.getElem_cons_succ]
  refine Seq.take_lat (i := 15) (v := ?_) rfl (by kernel_rfl) (by kernel_rfl) (by kernel_rfl) (fun _ _ _ h => h) (by rfl) ?_ ?_
  rotate_left
  · intro w' hLat; change Below _ _ _ at hLat; go_simp <;> with_reducible rfl
  try simp only [Act.put, List.setIfInBounds_toArray, List.set_cons_zero, List.set_cons_succ, List.getElem_toArray, List.getElem_cons_zero, List.getElem_cons_succ]
  refine Seq.take_lat (i := 16) (v := ?_) rfl (by kernel_rfl) (by kernel_rfl) (by kernel_rfl) (fun _ _ _ h => h) (by rfl) ?_ ?_
  rotate_left
  · intro w' hLat; change Below _ _ _ at hLat; go_simp <;> with_reducible rfl
  try simp only [Act.put, List.setIfInBounds_toArray, List.set_cons_zero, List.set_cons_succ, List.getElem_toArray, List.getElem_cons_zero, List.getElem_cons_succ]
  refine Seq.take_lat (i := 17) (v := ?_) rfl (by kernel_rfl) (by kernel_rfl) (by kernel_rfl) (fun _ _ _ h => h) (by rfl) ?_ ?_
  rotate_left
  · intro w' hLat; change Below _ _ _ at hLat; go_simp <;> with_reducible rfl
  try simp only [Act.put, List.setIfInBounds_toArray, List.set_cons_zero, List.set_cons_succ, List.getElem_toArray, List.getElem_cons_zero, List.getElem_cons_succ]
  refine Seq.take_lat (i := 18) (v := ?_) rfl (by kernel_rfl) (by kernel_rfl) (by kernel_rfl) (fun _ _ _ h => h) (by rfl) ?_ ?_
  rotate_left
  · intro w' hLat; change Below _ _ _ at hLat; go_simp <;> with_reducible rfl
  try simp only [Act.put, List.setIfInBounds_toArray, List.set_cons_zero, List.set_cons_succ, List.getElem_toArray, List.getElem_cons_zero, List.getElem_cons_succ]
  refine Seq.take_lat (i := 19) (v := ?_) rfl (by kernel_rfl) (by kernel_rfl) (by kernel_rfl) (fun _ _ _ h => h) (by rfl) ?_ ?_
  rotate_left
  · intro w' hLat; change Below _ _ _ at hLat; go_simp <;> with_reducible rfl
  try simp only [Act.put, List.setIfInBounds_toArray, List.set_cons_zero, List.set_cons_succ, List.getElem_toArray, List.getElem_cons_zero, List.getElem_cons_succ]
  refine wpAnyH_done (by kernel_rfl) ?_ _
  clear hd hbd hb
  have HGC : Box (Calls Try.prog 13 #[.slice ca 176 cc] xb fun e w' => ∃ r, e = .returned (.tuple #[.agg (rcc r).toArray, .int .i64 0]) ∧ rpl r = x0 ∧ r.m.bl = 160 ∧ OIm w' xb.heap.size r.m ∧ Below xb.heap.size xb w') := ⟨by
    have := rcget_ok ca cc (putP x0) xb (HF.out xb HXB.out).2.2.2.1 H4.out.2.2 (fit_putP x0 HX0.out.1)
    rw [getP_putP x0 HX0.out.2.1] at this
    exact this⟩
  go_upto_region 16 with (first
    | (go_at_call 13; refine HGC.out.mono ?_; rintro e xc ⟨⟨⟨ub, ua, ul, uc, us⟩, uf⟩, rfl, hp, hl, ho, hb⟩; have HC1 : Box (Below xa.heap.size xa xc ∧ ((ub, us), uf) = x0 ∧ Bytes xc ua ul us) := ⟨below_to HXB.out hb, hp, ho.byi.1⟩; clear hp hl ho hb)
    | (refine atAlloc _ ?_; refine wpList_run rfl _ _ (exec_alloc 30 rfl _ zeroRc) ?_)
    | (refine atStore _ ?_; refine wpList_newRow xc #[.int .u64 0, .slice none 0 0, .bool false] #[.int .u64 ub, .slice ua ul uc, .bool uf] infoRc rfl (by simp [Value.oneCell']) rfl _ _ rfl rfl rfl rfl ?_; intro xd h8 hb8; have HD1 : Box (xd.heap[xc.heap.size]? = some (.cells #[.int .u64 ub, .slice ua ul uc, .bool uf] 30 (0, 0)) ∧ Below xc.heap.size xc xd) := ⟨h8, hb8⟩; clear h8 hb8))
  obtain ⟨U, hU⟩ : ∃ R, xc.heap.size = R := ⟨_, rfl⟩
  simp only [hU]
  have HUU : Box (∀ x, Below xd.heap.size xd x → x.rangeAt U 0 [.int .u64 ub, .slice ua ul uc, .bool uf] ∧ Below xa.heap.size xa x ∧ Bytes x ua ul us) := ⟨fun x hx => by
    have h3 := HD1.out
    rw [hU] at h3
    have r := (hx.block U (Array.getElem?_eq_some_iff.1 h3.1).1).trans h3.1
    exact ⟨range_arr r _ (fun j v hv => by simpa using hv), below_to HC1.out.1 (below_to HD1.out.2 hx), HC1.out.2.2.below (below_to HD1.out.2 hx)⟩⟩
  have HUO : Box (∀ x, Below xd.heap.size xd x → Calls Try.prog 12 #[.agg #[.int .u64 ub, .slice ua ul uc, .bool uf]] x fun e w' => e = .returned (.agg AR) ∧ Below x.heap.size x w') := ⟨fun x hx => by
    have := recordOf_any ⟨⟨ub, ua, ul, uc, us⟩, uf⟩ x (HUU.out x hx).2.2
    have e : rpl ⟨⟨ub, ua, ul, uc, us⟩, uf⟩ = x0 := HC1.out.2.1
    rw [e, HAR.out] at this
    exact this⟩
  clear hU HGC
  refine Seq.begin_any (by kernel_rfl) (fun wd hd => ?_)
  have hbd : Below xd.heap.size xd wd := hd.mono (Nat.le_refl _)
  refine Seq.take_lat (i := 0) (v := ?_) rfl (by kernel_rfl) (by kernel_rfl) (by kernel_rfl) (fun _ _ _ h => h) (by rfl) ?_ ?_
  rotate_left
  · intro w' hLat; change Below _ _ _ at hLat; go_simp <;> with_reducible rfl
  try simp only [Act.put, List.setIfInBounds_toArray, List.set_cons_zero, List.set_cons_succ, List.getElem_toArray, List.getElem_cons_zero]
  refine Seq.take_lat (i := 1) (v := ?_) rfl (by kernel_rfl) (by kernel_rfl) (by kernel_rfl) (fun _ _ _ h => h) (by rfl) ?_ ?_
  rotate_left
  · intro w' hLat; change Below _ _ _ at hLat; go_simp <;> with_reducible rfl
  try simp only [Act.put, List.setIfInBounds_toArray, List.set_cons_zero, List.set_cons_succ, List.getElem_toArray, List.getElem_cons_zero, List.getElem_cons_succ]
  refine Seq.take_lat (i := 2) (v := ?_) rfl (by kernel_rfl) (by kernel_rfl) (by kernel_rfl) (fun _ _ _ h => h) (by rfl) ?_ ?_
  rotate_left
  · intro w' hLat; change Below _ _ _ at hLat; go_simp <;> with_reducible rfl
  try simp only [Act.put, List.setIfInBounds_toArray, List.set_cons_zero, List.set_cons_succ, List.getElem_toArray, List.getElem_cons_zero, List.getElem_cons_succ]
  refine Seq.take_lat (i := 3) (v := .agg #[.int .u64 ub, .slice ua ul uc, .bool uf]) rfl (by kernel_rfl) (by kernel_rfl) (by kernel_rfl) (fun _ _ _ h => h) (by rfl) (fun w' hLat => exec_load_mid 30 _ _ rfl Try.underlying30 rfl U 0 rfl [.int .u64 ub, .slice ua ul uc, .bool uf] infoRc (HUU.out w' (below_to hbd hLat)).1) ?_
  try simp only [Act.put, List.setIfInBounds_toArray, List.set_cons_zero, List.set_cons_succ, List.getElem_toArray, List.getElem_cons_zero, List.getElem_cons_succ]
  refine Seq.take_lat (i := 5) (v := .agg #[.int .u64 mb, .slice ma ml mc, .bool last]) rfl (by kernel_rfl) (by kernel_rfl) (by kernel_rfl) (fun _ _ _ h => h) (by rfl) (fun w' hLat => exec_load_mid 30 _ _ rfl Try.underlying30 rfl Rb 0 rfl [.int .u64 mb, .slice ma ml mc, .bool last] infoRc (HF.out w' (HUU.out w' (below_to hbd hLat)).2.1).1) ?_
  try simp only [Act.put, List.setIfInBounds_toArray, List.set_cons_zero, List.set_cons_succ, List.getElem_toArray, List.getElem_cons_zero, List.getElem_cons_succ]
  refine Seq.only_lat (i := 4) rfl (by kernel_rfl) (fun KK hK => ?_)
  rw [if_pos (by rfl)]
  go_simp
  refine Calls.mono (HUO.out wd hbd) ?_
  rintro e xe ⟨rfl, hb⟩
  have HXE : Box (Below xd.heap.size xd xe) := ⟨below_to hbd hb⟩
  refine hK.out _ _ hb ?_
  clear hK KK
  try simp only [Act.put, List.setIfInBounds_toArray, List.set_cons_zero, List.set_cons_succ, List.getElem_toArray, List.getElem_cons_zero, List.getElem_cons_succ]
  refine Seq.only_lat (i := 6) rfl (by kernel_rfl) (fun KK hK => ?_)
  rw [if_pos (by rfl)]
  go_simp
  refine Calls.mono (HRO.out xe (HF.out xe (HUU.out xe HXE.out).2.1).2.2.2.2.2.1) ?_
  rintro e xf ⟨rfl, hb2⟩
  have HXF : Box (Below xa.heap.size xa xf) := ⟨(HUU.out xf (below_to HXE.out hb2)).2.1⟩
  refine hK.out _ _ hb2 ?_
  clear hK KK
  try simp only [Act.put, List.setIfInBounds_toArray, List.set_cons_zero, List.set_cons_succ, List.getElem_toArray, List.getElem_cons_zero, List.getElem_cons_succ]
  refine Seq.take_lat (i := 7) (v := .bool false) rfl (by kernel_rfl) (by kernel_rfl) (by kernel_rfl) (fun _ _ _ h => h) (by rfl) (fun w' hLat => exec_neR' _ _ _ rfl x0 AR HAR.out rfl rfl) ?_
  try simp only [Act.put, List.setIfInBounds_toArray, List.set_cons_zero, List.set_cons_succ, List.getElem_toArray, List.getElem_cons_zero, List.getElem_cons_succ]
  refine Seq.take_lat (i := 8) (v := ?_) rfl (by kernel_rfl) (by kernel_rfl) (by kernel_rfl) (fun _ _ _ h => h) (by rfl) ?_ ?_
  rotate_left
  · intro w' hLat; change Below _ _ _ at hLat; go_simp <;> with_reducible rfl
  try simp only [Act.put, List.setIfInBounds_toArray, List.set_cons_zero, List.set_cons_succ, List.getElem_toArray, List.getElem_cons_zero, List.getElem_cons_succ]
  refine wpAnyH_done (by kernel_rfl) ?_ _
  clear hd hbd hb hb2
  go_wp2
  go_ret
  exact ⟨rfl, below_to HW.out (HF.out xf HXF.out).2.2.2.2.2.1⟩
set_option maxRecDepth 20000 in
set_option maxHeartbeats 4000000 in
theorem recordPuts_lf (m0 : Im) (last : Bool) (ab : Option Addr) (lb cb : Nat) (Lb : List Int) (w : World) (hB : Byi w m0) (hb : Bytes w ab lb Lb) (hbl : lb ≤ 300) (hbc : lb ≤ cb) (hfit : fitR Lb) :
    Calls Try.prog 3 #[.agg (imc m0).toArray, .bool last, .bool false, .slice ab lb cb] w fun e w' => e = .returned (.bool true) ∧ Below w.heap.size w w' := by
  obtain ⟨b0, a0, l0, c0, s0⟩ := m0
  unfold imc
  simp only
  obtain ⟨S, hS⟩ : ∃ S, w.heap.size = S := ⟨_, rfl⟩
  obtain ⟨w1, hw1⟩ : ∃ w1, w.alloc (.cells #[.int .u64 b0, .slice a0 l0 c0] 25) = w1 := ⟨_, rfl⟩
  have hb1 : Below w.heap.size w w1 := by rw [← hw1]; exact (Below.refl _ _).alloc (Nat.le_refl _) _
  have r1 : w1.heap[S]? = some (.cells #[.int .u64 b0, .slice a0 l0 c0] 25 (0, 0)) := by rw [← hw1]; exact al_at hS
  have hlt1 := (Array.getElem?_eq_some_iff.1 r1).1
  have HX : Box (∀ x, Below w1.heap.size w1 x → x.rangeAt S 0 [.int .u64 b0, .slice a0 l0 c0] ∧ Byi x ⟨b0, a0, l0, c0, s0⟩ ∧ Bytes x ab lb Lb) := ⟨fun x hx => by
    have r := (hx.block S hlt1).trans r1
    exact ⟨range_arr r _ (fun j v hv => by simpa using hv), ⟨hB.1.below (below_to hb1 hx), hB.2⟩, hb.below (below_to hb1 hx)⟩⟩
  have HB1 : Box (Below w.heap.size w w1 ∧ Byt s0 ∧ Byt Lb ∧ N64 b0 ∧ Lb.length = lb ∧ lb ≤ cb ∧ fitR Lb) := ⟨hb1, hB.1.2.1, hb.2.1, hB.2.1, hb.1, hbc, hfit⟩
  obtain ⟨x0, hx0⟩ : ∃ x : (Int × List Int) × Bool, ((b0, padTo s0 160), last) = x := ⟨_, rfl⟩
  have HX0 : Box (x0.1.2.length = 160 ∧ N64 x0.1.1 ∧ Byt x0.1.2) := ⟨by rw [← hx0]; exact length_padTo _ _, by rw [← hx0]; exact hB.2.1, by rw [← hx0]; exact byt_padTo _ _ hB.1.2.1⟩
  obtain ⟨AR, HAR⟩ : ∃ A, Box ((rrc x0).toArray = A) := ⟨_, ⟨rfl⟩⟩
  obtain ⟨sb, HSB⟩ : ∃ s, Box (strOfNums Lb = s) := ⟨_, ⟨rfl⟩⟩
  have hlb : lb ≤ 300 := hbl
  clear hb1 r1 hlt1 hB hb hbc hfit hbl
  go_enter Try.func3, Try.ntmps3
  go_upto_region 1 with fail
  (try simp only [hw1, hS])
  clear hw1 hS
  go_upto_region 6 with (go_at_call 8; refine (awake_any _).mono ?_; rintro e x1 ⟨rfl, hb⟩; have H1 : Box (Below w1.heap.size w1 x1) := ⟨hb⟩; clear hb)
  have HR1 : Box (x1.rangeAt S 0 [.int .u64 b0, .slice a0 l0 c0]) := ⟨(HX.out x1 H1.out).1⟩
  have HIM : Box (Calls Try.prog 9 #[.slice (some ⟨x1.heap.size, 0, none⟩) 2 2, .bool false] (x1.alloc (.cells #[.int .u64 b0, .slice a0 l0 c0, .int .u64 b0, .slice a0 l0 c0] 25)) fun e w' => ∃ v X, e = .returned v ∧ Ig (x1.alloc (.cells #[.int .u64 b0, .slice a0 l0 c0, .int .u64 b0, .slice a0 l0 c0] 25)) w' false [⟨b0, a0, l0, c0, s0⟩, ⟨b0, a0, l0, c0, s0⟩] 2 v X) := ⟨images_any _ 2 [⟨b0, a0, l0, c0, s0⟩, ⟨b0, a0, l0, c0, s0⟩] false _ (imgs_two (HX.out x1 H1.out).2.1) (by simp)⟩
  go_upto_region 7 with (first
    | (refine atLoad 25 ?_; refine wpList_ldMid rfl 25 _ _ rfl Try.underlying25 rfl S 0 rfl [.int .u64 b0, .slice a0 l0 c0] infoIm HR1.out ?_)
    | (go_at_call 9; refine HIM.out.mono ?_; rintro e x2 ⟨v, X, rfl, hI⟩; obtain ⟨g, c, ⟨mb, ma, ml, mc, ms⟩, rfl, hgl, hrg, hpl, hml, hO⟩ := ig_two hI; have H2 : Box (Below w1.heap.size w1 x2 ∧ x2.rangeAt g 2 [.int .u64 mb, .slice ma ml mc] ∧ Bytes x2 ma ml ms ∧ N64 mb ∧ ml = 160 ∧ ((mb, ms), last) = x0) := ⟨below_to H1.out (below_to ((Below.refl _ _).alloc (Nat.le_refl _) _) hI.bel), hrg, hO.byi.1, hO.num, hml, by rw [← hx0]; exact congrArg (fun z => (z, last)) hpl⟩; clear hI hgl hrg hpl hml hO))
  clear HIM HR1
  go_upto_region 8 with (first
    | (refine atIdx 27 ?_; refine wpList_run rfl _ _ (exec_idxT 27 25 Try.underlying27 2 infoIm _ _ rfl g 0 2 c 1 rfl rfl (by decide)) ?_)
    | (refine atLoad 25 ?_; refine wpList_ldMid rfl 25 _ _ rfl Try.underlying25 rfl g 2 rfl [.int .u64 mb, .slice ma ml mc] infoIm H2.out.2.1 ?_)
    | (refine atBuild 30 ?_; refine wpList_run rfl _ _ (exec_built 30 [(0, .tmp 37), (1, .tmp 38)] rfl [(0, .agg #[.int .u64 mb, .slice ma ml mc]), (1, .bool last)] rfl _ (built_Rc _ _ _ _ _)) ?_)
    | (refine atAlloc _ ?_; refine wpList_run rfl _ _ (exec_alloc 30 rfl _ zeroRc) ?_)
    | (refine atStore _ ?_; refine wpList_newRow x2 #[.int .u64 0, .slice none 0 0, .bool false] #[.int .u64 mb, .slice ma ml mc, .bool last] infoRc rfl (by simp [Value.oneCell']) rfl _ _ rfl rfl rfl rfl ?_; intro x3 h3 hb3; have H3 : Box (x3.heap[x2.heap.size]? = some (.cells #[.int .u64 mb, .slice ma ml mc, .bool last] 30 (0, 0)) ∧ Below x2.heap.size x2 x3) := ⟨h3, hb3⟩; clear h3 hb3))
  obtain ⟨Rb, hRb⟩ : ∃ R, x2.heap.size = R := ⟨_, rfl⟩
  simp only [hRb]
  have HRR : Box (∀ x, Below x3.heap.size x3 x → x.rangeAt Rb 0 [.int .u64 mb, .slice ma ml mc, .bool last] ∧ Bytes x ma ml ms ∧ Below w1.heap.size w1 x) := ⟨fun x hx => by
    have h3 := H3.out
    rw [hRb] at h3
    have r := (hx.block Rb (Array.getElem?_eq_some_iff.1 h3.1).1).trans h3.1
    exact ⟨range_arr r _ (fun j v hv => by simpa using hv), (H2.out.2.2.1).below (below_to H3.out.2 hx), below_to H2.out.1 (below_to H3.out.2 hx)⟩⟩
  have HRO : Box (∀ x, Below x3.heap.size x3 x → Calls Try.prog 12 #[.agg #[.int .u64 mb, .slice ma ml mc, .bool last]] x fun e w' => e = .returned (.agg AR) ∧ Below x.heap.size x w') := ⟨fun x hx => by
    have := recordOf_any ⟨⟨mb, ma, ml, mc, ms⟩, last⟩ x (HRR.out x hx).2.1
    have e : rpl ⟨⟨mb, ma, ml, mc, ms⟩, last⟩ = x0 := H2.out.2.2.2.2.2
    rw [e, HAR.out] at this
    exact this⟩
  have HR3 : Box (x3.rangeAt Rb 0 [.int .u64 mb, .slice ma ml mc, .bool last]) := ⟨(HRR.out x3 (Below.refl _ _)).1⟩
  clear hRb hx0
  have HPT : Box (Calls Try.prog 10 #[.agg #[.int .u64 mb, .slice ma ml mc, .bool last]] x3 fun e w' => ∃ a c, e = .returned (.tuple #[.slice a 176 c, .int .i64 0]) ∧ w'.ownsRow x3.heap.size 5 1 (.slice a 176 c) 176 ((putP x0).map (Value.int .u8)) ∧ Below x3.heap.size x3 w') := ⟨by
    have := rcput_ok ⟨⟨mb, ma, ml, mc, ms⟩, last⟩ x3 (HRR.out x3 (Below.refl _ _)).2.1 H2.out.2.2.2.1 H2.out.2.2.2.2.1
    have e : rpl ⟨⟨mb, ma, ml, mc, ms⟩, last⟩ = x0 := H2.out.2.2.2.2.2
    rw [e] at this
    exact this⟩
  obtain ⟨sc, HSC⟩ : ∃ s, Box (strOfNums (putP x0) = s) := ⟨_, ⟨rfl⟩⟩
  have HRP : Box (∀ x, Calls Try.prog 11 #[.agg AR] x fun e w' => e = .returned (.tuple #[.string sc, .int .i64 0]) ∧ Below x.heap.size x w') := ⟨fun x => by rw [← HAR.out, ← HSC.out]; exact rrput_ok x0 HX0.out.1 HX0.out.2.1 x⟩
  go_upto_region 9 with (first
    | (refine atLoad 30 ?_; refine wpList_ldMid rfl 30 _ _ rfl Try.underlying30 rfl Rb 0 rfl [.int .u64 mb, .slice ma ml mc, .bool last] infoRc HR3.out ?_)
    | (go_at_call 10; refine HPT.out.mono ?_; rintro e x4 ⟨ca, cc, rfl, ho, hb⟩; have H4 : Box (Below x3.heap.size x3 x4 ∧ (∀ x, Below x4.heap.size x4 x → Bytes x ca 176 (putP x0)) ∧ 176 ≤ cc) := ⟨hb, fun x hx => (own_bytes ho (byt_putP _ HX0.out.2.2)).below hx, (own_cap ho).1⟩; clear ho hb))
  have HR4 : Box (x4.rangeAt Rb 0 [.int .u64 mb, .slice ma ml mc, .bool last]) := ⟨(HRR.out x4 H4.out.1).1⟩
  clear HR3 HPT
  go_upto_region 10 with (first
    | (refine atLoad 30 ?_; refine wpList_ldMid rfl 30 _ _ rfl Try.underlying30 rfl Rb 0 rfl [.int .u64 mb, .slice ma ml mc, .bool last] infoRc HR4.out ?_)
    | (go_at_call 12; refine (HRO.out x4 H4.out.1).mono ?_; rintro e x5 ⟨rfl, hb⟩; have H5 : Box (Below x4.heap.size x4 x5) := ⟨hb⟩; clear hb)
    | (go_at_call 11; refine (HRP.out x5).mono ?_; rintro e x6 ⟨rfl, hb⟩; have H6 : Box (Below x4.heap.size x4 x6) := ⟨below_to H5.out hb⟩; clear hb))
  clear HR4 HRP H5
  have HGB : Box (∀ x, Bytes x ab lb Lb → Calls Try.prog 13 #[.slice ab lb cb] x fun e w' => ∃ r, e = .returned (.tuple #[.agg (rcc r).toArray, .int .i64 0]) ∧ rpl r = getP Lb ∧ r.m.bl = 160 ∧ OIm w' x.heap.size r.m ∧ Below x.heap.size x w') := ⟨fun x hx => by
    have e : lb = 176 := by rw [← HB1.out.2.2.2.2.1]; exact HB1.out.2.2.2.2.2.2.1
    have hc := HB1.out.2.2.2.2.2.1
    rw [e] at hx hc ⊢
    exact rcget_ok ab cb Lb x hx hc HB1.out.2.2.2.2.2.2⟩
  have HB6 : Box (Bytes x6 ab lb Lb) := ⟨(HX.out x6 (HRR.out x6 (below_to H4.out.1 H6.out)).2.2).2.2⟩
  go_upto_region 11 with (first
    | (go_at_call 13; refine (HGB.out x6 HB6.out).mono ?_; rintro e x7 ⟨⟨⟨yb, ya, yl, yc, ys⟩, yf⟩, rfl, hp, hl, ho, hb⟩; have H7 : Box (Below x4.heap.size x4 x7 ∧ ((yb, ys), yf) = getP Lb ∧ yl = 160 ∧ Bytes x7 ya yl ys ∧ N64 yb) := ⟨below_to H6.out hb, hp, hl, ho.byi.1, ho.num⟩; clear hp hl ho hb)
    | (refine atAlloc _ ?_; refine wpList_run rfl _ _ (exec_alloc 30 rfl _ zeroRc) ?_)
    | (refine atStore _ ?_; refine wpList_newRow x7 #[.int .u64 0, .slice none 0 0, .bool false] #[.int .u64 yb, .slice ya yl yc, .bool yf] infoRc rfl (by simp [Value.oneCell']) rfl _ _ rfl rfl rfl rfl ?_; intro x8 h8 hb8; have H8 : Box (x8.heap[x7.heap.size]? = some (.cells #[.int .u64 yb, .slice ya yl yc, .bool yf] 30 (0, 0)) ∧ Below x7.heap.size x7 x8) := ⟨h8, hb8⟩; clear h8 hb8))
  obtain ⟨Y, hY⟩ : ∃ R, x7.heap.size = R := ⟨_, rfl⟩
  simp only [hY]
  have HYY : Box (∀ x, Below x8.heap.size x8 x → x.rangeAt Y 0 #[.int .u64 yb, .slice ya yl yc, .bool yf].toList ∧ Below x4.heap.size x4 x ∧ Below x7.heap.size x7 x) := ⟨fun x hx => by
    have h3 := H8.out
    rw [hY] at h3
    have r := (hx.block Y (Array.getElem?_eq_some_iff.1 h3.1).1).trans h3.1
    exact ⟨range_arr r _ (fun j v hv => by simpa using hv), below_to H7.out.1 (below_to H8.out.2 hx), below_to H8.out.2 hx⟩⟩
  have HBB : Box (∀ x, Below x8.heap.size x8 x → Bytes x ab lb Lb) := ⟨fun x hx => (HX.out x (HRR.out x (below_to H4.out.1 (HYY.out x hx).2.1)).2.2).2.2⟩
  clear hY HB6
  obtain ⟨AY, HAY⟩ : ∃ A, Box ((rrc (getP Lb)).toArray = A) := ⟨_, ⟨rfl⟩⟩
  have HRG : Box (∀ x, Calls Try.prog 14 #[.string sb] x fun e w' => e = .returned (.tuple #[.agg AY, .int .i64 0]) ∧ Below x.heap.size x w') := ⟨fun x => by rw [← HAY.out, ← HSB.out]; exact rrget_ok Lb HB1.out.2.2.1 HB1.out.2.2.2.2.2.2 x⟩
  have HYO : Box (∀ x, Below x8.heap.size x8 x → Calls Try.prog 12 #[.agg #[.int .u64 yb, .slice ya yl yc, .bool yf]] x fun e w' => e = .returned (.agg AY) ∧ Below x.heap.size x w') := ⟨fun x hx => by
    have := recordOf_any ⟨⟨yb, ya, yl, yc, ys⟩, yf⟩ x (H7.out.2.2.2.1.below (HYY.out x hx).2.2)
    have e : rpl ⟨⟨yb, ya, yl, yc, ys⟩, yf⟩ = getP Lb := H7.out.2.1
    rw [e, HAY.out] at this
    exact this⟩
  have HAS : Box (AY.size = 3 ∧ AY.all (·.oneCell') = true) := ⟨by rw [← HAY.out]; rfl, by rw [← HAY.out]; exact all_rrc _⟩
  have HCv : Box (∀ o : Oper, ∀ a : Act, o.op = .convert 23 9 (.tmp 57) → a.eval (.tmp 57) = .slice ab lb cb → (execOp a.eval o).run Try.prog x8 = .ok (.value (.string sb)) x8) := ⟨fun o a h1 h2 => by rw [← HSB.out]; exact exec_conv (.tmp 57) h1 h2 (HBB.out x8 (Below.refl _ _))⟩
  go_upto_region 12 with (first
    | (refine atConv _ _ ?_; refine wpList_run rfl _ _ (HCv.out _ _ rfl rfl) ?_)
    | (go_at_call 14; refine (HRG.out x8).mono ?_; rintro e x9 ⟨rfl, hb⟩; have H9 : Box (Below x8.heap.size x8 x9) := ⟨hb⟩; clear hb)
    | (refine atAlloc _ ?_; refine wpList_run rfl _ _ (exec_alloc 39 rfl _ zeroRr) ?_)
    | (refine atStore _ ?_; refine wpList_newRow x9 #[.int .u64 0, .string ByteArray.empty, .bool false] AY (by rw [HAS.out.1]; exact infoRr) (by rw [HAS.out.1]; rfl) HAS.out.2 rfl _ _ rfl rfl rfl rfl ?_; intro xa ha hba; have HA1 : Box (xa.heap[x9.heap.size]? = some (.cells AY 39 (0, 0)) ∧ Below x9.heap.size x9 xa) := ⟨ha, hba⟩; clear ha hba))
  obtain ⟨Z, hZ⟩ : ∃ R, x9.heap.size = R := ⟨_, rfl⟩
  simp only [hZ]
  have HZZ : Box (∀ x, Below xa.heap.size xa x → x.rangeAt Z 0 AY.toList ∧ Below x8.heap.size x8 x) := ⟨fun x hx => by
    have h3 := HA1.out
    rw [hZ] at h3
    have r := (hx.block Z (Array.getElem?_eq_some_iff.1 h3.1).1).trans h3.1
    exact ⟨range_arr r _ (fun j v hv => by simpa using hv), below_to H9.out (below_to HA1.out.2 hx)⟩⟩
  have HF : Box (∀ x, Below xa.heap.size xa x → x.rangeAt Rb 0 [.int .u64 mb, .slice ma ml mc, .bool last] ∧ x.rangeAt Y 0 #[.int .u64 yb, .slice ya yl yc, .bool yf].toList ∧ x.rangeAt Z 0 AY.toList ∧ Bytes x ca 176 (putP x0) ∧ Bytes x ab lb Lb ∧ Below x3.heap.size x3 x ∧ Below x8.heap.size x8 x ∧ Below x4.heap.size x4 x) := ⟨fun x hx => by
    have h1 := HZZ.out x hx
    have h2 := HYY.out x h1.2
    have h3 := below_to H4.out.1 h2.2.1
    exact ⟨(HRR.out x h3).1, h2.1, h1.1, H4.out.2.1 x h2.2.1, HBB.out x h1.2, h3, h1.2, h2.2.1⟩⟩
  have HW : Box (Below w.heap.size w x3) := ⟨below_to HB1.out.1 (HRR.out x3 (Below.refl _ _)).2.2⟩
  clear hZ HCv HRG
  go_upto_region 12 with fail
  refine Seq.begin_any (by kernel_rfl) (fun wd hd => ?_)
  have hbd : Below xa.heap.size xa wd := hd.mono (Nat.le_refl _)
  refine Seq.take_lat (i := 0) (v := ?_) rfl (by kernel_rfl) (by kernel_rfl) (by kernel_rfl) (fun _ _ _ h => h) (by rfl) ?_ ?_
  rotate_left
  · intro w' hLat; change Below _ _ _ at hLat; go_simp <;> with_reducible rfl
  try simp only [Act.put, List.setIfInBounds_toArray, List.set_cons_zero, List.set_cons_succ, List.getElem_toArray, List.getElem_cons_zero]
  refine Seq.take_lat (i := 1) (v := .string sc) rfl (by kernel_rfl) (by kernel_rfl) (by kernel_rfl) (fun _ _ _ h => h) (by rfl) (fun w' hLat => by rw [← HSC.out]; exact exec_conv (.tmp 62) rfl rfl (HF.out w' (below_to hbd hLat)).2.2.2.1) ?_
  try simp only [Act.put, List.setIfInBounds_toArray, List.set_cons_zero, List.set_cons_succ, List.getElem_toArray, List.getElem_cons_zero, List.getElem_cons_succ]
  refine Seq.take_lat (i := 2) (v := ?_) rfl (by kernel_rfl) (by kernel_rfl) (by kernel_rfl) (fun _ _ _ h => h) (by rfl) ?_ ?_
  rotate_left
  · intro w' hLat; change Below _ _ _ at hLat; go_simp <;> with_reducible rfl
  try simp only [Act.put, List.setIfInBounds_toArray, List.set_cons_zero, List.set_cons_succ, List.getElem_toArray, List.getElem_cons_zero, List.getElem_cons_succ]
  refine Seq.take_lat (i := 3) (v := .bool false) rfl (by kernel_rfl) (by kernel_rfl) (by kernel_rfl) (fun _ _ _ h => h) (by rfl) (fun w' hLat => exec_neT _ _ _ rfl sc rfl rfl) ?_
  try simp only [Act.put, List.setIfInBounds_toArray, List.set_cons_zero, List.set_cons_succ, List.getElem_toArray, List.getElem_cons_zero, List.getElem_cons_succ]
  refine Seq.take_lat (i := 4) (v := ?_) rfl (by kernel_rfl) (by kernel_rfl) (by kernel_rfl) (fun _ _ _ h => h) (by rfl) ?_ ?_
  rotate_left
  · intro w' hLat; change Below _ _ _ at hLat; go_simp <;> with_reducible rfl
  try simp only [Act.put, List.setIfInBounds_toArray, List.set_cons_zero, List.set_cons_succ, List.getElem_toArray, List.getElem_cons_zero, List.getElem_cons_succ]
  refine Seq.take_lat (i := 5) (v := ?_) rfl (by kernel_rfl) (by kernel_rfl) (by kernel_rfl) (fun _ _ _ h => h) (by rfl) ?_ ?_
  rotate_left
  · intro w' hLat; change Below _ _ _ at hLat; go_simp <;> with_reducible rfl
  try simp only [Act.put, List.setIfInBounds_toArray, List.set_cons_zero, List.set_cons_succ, List.getElem_toArray, List.getElem_cons_zero, List.getElem_cons_succ]
  refine Seq.take_lat (i := 6) (v := ?_) rfl (by kernel_rfl) (by kernel_rfl) (by kernel_rfl) (fun _ _ _ h => h) (by rfl) ?_ ?_
  rotate_left
  · intro w' hLat; change Below _ _ _ at hLat; go_simp <;> with_reducible rfl
  try simp only [Act.put, List.setIfInBounds_toArray, List.set_cons_zero, List.set_cons_succ, List.getElem_toArray, List.getElem_cons_zero, List.getElem_cons_succ]
  refine Seq.take_lat (i := 7) (v := ?_) rfl (by kernel_rfl) (by kernel_rfl) (by kernel_rfl) (fun _ _ _ h => h) (by rfl) ?_ ?_
  rotate_left
  · intro w' hLat; change Below _ _ _ at hLat; go_simp <;> with_reducible rfl
  try simp only [Act.put, List.setIfInBounds_toArray, List.set_cons_zero, List.set_cons_succ, List.getElem_toArray, List.getElem_cons_zero, List.getElem_cons_succ]
  refine Seq.take_lat (i := 8) (v := ?_) rfl (by kernel_rfl) (by kernel_rfl) (by kernel_rfl) (fun _ _ _ h => h) (by rfl) ?_ ?_
  rotate_left
  · intro w' hLat; change Below _ _ _ at hLat; go_simp <;> with_reducible rfl
  try simp only [Act.put, List.setIfInBounds_toArray, List.set_cons_zero, List.set_cons_succ, List.getElem_toArray, List.getElem_cons_zero, List.getElem_cons_succ]
  refine Seq.take_lat (i := 9) (v := ?_) rfl (by kernel_rfl) (by kernel_rfl) (by kernel_rfl) (fun _ _ _ h => h) (by rfl) ?_ ?_
  rotate_left
  · intro w' hLat; change Below _ _ _ at hLat; go_simp <;> with_reducible rfl
  try simp only [Act.put, List.setIfInBounds_toArray, List.set_cons_zero, List.set_cons_succ, List.getElem_toArray, List.getElem_cons_zero, List.getElem_cons_succ]
  refine Seq.take_lat (i := 10) (v := .agg #[.int .u64 yb, .slice ya yl yc, .bool yf]) rfl (by kernel_rfl) (by kernel_rfl) (by kernel_rfl) (fun _ _ _ h => h) (by rfl) (fun w' hLat => exec_load_mid 30 _ _ rfl Try.underlying30 rfl Y 0 rfl #[.int .u64 yb, .slice ya yl yc, .bool yf].toList infoRc (HF.out w' (below_to hbd hLat)).2.1) ?_
  try simp only [Act.put, List.setIfInBounds_toArray, List.set_cons_zero, List.set_cons_succ, List.getElem_toArray, List.getElem_cons_zero, List.getElem_cons_succ]
  refine Seq.take_lat (i := 12) (v := .agg AY) rfl (by kernel_rfl) (by kernel_rfl) (by kernel_rfl) (fun _ _ _ h => h) (by rfl) (fun w' hLat => exec_load_mid 39 _ _ rfl Try.underlying39 rfl Z 0 rfl AY.toList (by rw [Array.length_toList, HAS.out.1]; exact infoRr) (HF.out w' (below_to hbd hLat)).2.2.1) ?_
  try simp only [Act.put, List.setIfInBounds_toArray, List.set_cons_zero, List.set_cons_succ, List.getElem_toArray, List.getElem_cons_zero, List.getElem_cons_succ]
  refine Seq.only_lat (i := 11) rfl (by kernel_rfl) (fun KK hK => ?_)
  rw [if_pos (by rfl)]
  go_simp
  refine Calls.mono (HYO.out wd (HF.out wd hbd).2.2.2.2.2.2.1) ?_
  rintro e xb ⟨rfl, hb⟩
  have HXB : Box (Below xa.heap.size xa xb) := ⟨below_to hbd hb⟩
  refine hK.out _ _ hb ?_
  clear hK KK
  try simp only [Act.put, List.setIfInBounds_toArray, List.set_cons_zero, List.set_cons_succ, List.getElem_toArray, List.getElem_cons_zero, List.getElem_cons_succ]
  refine Seq.take_lat (i := 13) (v := .bool false) rfl (by kernel_rfl) (by kernel_rfl) (by kernel_rfl) (fun _ _ _ h => h) (by rfl) (fun w' hLat => exec_neR' _ _ _ rfl (getP Lb) AY HAY.out rfl rfl) ?_
  try simp only [Act.put, List.setIfInBounds_toArray, List.set_cons_zero, List.set_cons_succ, List.getElem_toArray, List.getElem_cons_zero, List.getElem_cons_succ]
  refine Seq.take_lat (i := 14) (v := ?_) rfl (by kernel_rfl) (by kernel_rfl) (by kernel_rfl) (fun _ _ _ h => h) (by rfl) ?_ ?_
  rotate_left
  · intro w' hLat; change Below _ _ _ at hLat; go_simp <;> with_reducible rfl
  try simp only [Act.put, List.setIfInBounds_toArray, List.set_cons_zero, List.set_cons_succ, List.getElem_toArray, List.getElem_cons_zero, List.getElem_cons_succ]
  refine Seq.take_lat (i := 15) (v := ?_) rfl (by kernel_rfl) (by kernel_rfl) (by kernel_rfl) (fun _ _ _ h => h) (by rfl) ?_ ?_
  rotate_left
  · intro w' hLat; change Below _ _ _ at hLat; go_simp <;> with_reducible rfl
  try simp only [Act.put, List.setIfInBounds_toArray, List.set_cons_zero, List.set_cons_succ, List.getElem_toArray, List.getElem_cons_zero, List.getElem_cons_succ]
  refine Seq.take_lat (i := 16) (v := ?_) rfl (by kernel_rfl) (by kernel_rfl) (by kernel_rfl) (fun _ _ _ h => h) (by rfl) ?_ ?_
  rotate_left
  · intro w' hLat; change Below _ _ _ at hLat; go_simp <;> with_reducible rfl
  try simp only [Act.put, List.setIfInBounds_toArray, List.set_cons_zero, List.set_cons_succ, List.getElem_toArray, List.getElem_cons_zero, List.getElem_cons_succ]
  refine Seq.take_lat (i := 17) (v := ?_) rfl (by kernel_rfl) (by kernel_rfl) (by kernel_rfl) (fun _ _ _ h => h) (by rfl) ?_ ?_
  rotate_left
  · intro w' hLat; change Below _ _ _ at hLat; go_simp <;> with_reducible rfl
  try simp only [Act.put, List.setIfInBounds_toArray, List.set_cons_zero, List.set_cons_succ, List.getElem_toArray, List.getElem_cons_zero, List.getElem_cons_succ]
  refine Seq.take_lat (i := 18) (v := ?_) rfl (by kernel_rfl) (by kernel_rfl) (by kernel_rfl) (fun _ _ _ h => h) (by rfl) ?_ ?_
  rotate_left
  · intro w' hLat; change Below _ _ _ at hLat; go_simp <;> with_reducible rfl
  try simp only [Act.put, List.setIfInBounds_toArray, List.set_cons_zero, List.set_cons_succ, List.getElem_toArray, List.getElem_cons_zero, List.getElem_cons_succ]
  refine Seq.take_lat (i := 19) (v := ?_) rfl (by kernel_rfl) (by kernel_rfl) (by kernel_rfl) (fun _ _ _ h => h) (by rfl) ?_ ?_
  rotate_left
  · intro w' hLat; change Below _ _ _ at hLat; go_simp <;> with_reducible rfl
  try simp only [Act.put, List.setIfInBounds_toArray, List.set_cons_zero, List.set_cons_succ, List.getElem_toArray, List.getElem_cons_zero, List.getElem_cons_succ]
  refine wpAnyH_done (by kernel_rfl) ?_ _
  clear hd hbd hb
  have HGC : Box (Calls Try.prog 13 #[.slice ca 176 cc] xb fun e w' => ∃ r, e = .returned (.tuple #[.agg (rcc r).toArray, .int .i64 0]) ∧ rpl r = x0 ∧ r.m.bl = 160 ∧ OIm w' xb.heap.size r.m ∧ Below xb.heap.size xb w') := ⟨by
    have := rcget_ok ca cc (putP x0) xb (HF.out xb HXB.out).2.2.2.1 H4.out.2.2 (fit_putP x0 HX0.out.1)
    rw [getP_putP x0 HX0.out.2.1] at this
    exact this⟩
  go_upto_region 16 with (first
    | (go_at_call 13; refine HGC.out.mono ?_; rintro e xc ⟨⟨⟨ub, ua, ul, uc, us⟩, uf⟩, rfl, hp, hl, ho, hb⟩; have HC1 : Box (Below xa.heap.size xa xc ∧ ((ub, us), uf) = x0 ∧ Bytes xc ua ul us) := ⟨below_to HXB.out hb, hp, ho.byi.1⟩; clear hp hl ho hb)
    | (refine atAlloc _ ?_; refine wpList_run rfl _ _ (exec_alloc 30 rfl _ zeroRc) ?_)
    | (refine atStore _ ?_; refine wpList_newRow xc #[.int .u64 0, .slice none 0 0, .bool false] #[.int .u64 ub, .slice ua ul uc, .bool uf] infoRc rfl (by simp [Value.oneCell']) rfl _ _ rfl rfl rfl rfl ?_; intro xd h8 hb8; have HD1 : Box (xd.heap[xc.heap.size]? = some (.cells #[.int .u64 ub, .slice ua ul uc, .bool uf] 30 (0, 0)) ∧ Below xc.heap.size xc xd) := ⟨h8, hb8⟩; clear h8 hb8))
  obtain ⟨U, hU⟩ : ∃ R, xc.heap.size = R := ⟨_, rfl⟩
  simp only [hU]
  have HUU : Box (∀ x, Below xd.heap.size xd x → x.rangeAt U 0 [.int .u64 ub, .slice ua ul uc, .bool uf] ∧ Below xa.heap.size xa x ∧ Bytes x ua ul us) := ⟨fun x hx => by
    have h3 := HD1.out
    rw [hU] at h3
    have r := (hx.block U (Array.getElem?_eq_some_iff.1 h3.1).1).trans h3.1
    exact ⟨range_arr r _ (fun j v hv => by simpa using hv), below_to HC1.out.1 (below_to HD1.out.2 hx), HC1.out.2.2.below (below_to HD1.out.2 hx)⟩⟩
  have HUO : Box (∀ x, Below xd.heap.size xd x → Calls Try.prog 12 #[.agg #[.int .u64 ub, .slice ua ul uc, .bool uf]] x fun e w' => e = .returned (.agg AR) ∧ Below x.heap.size x w') := ⟨fun x hx => by
    have := recordOf_any ⟨⟨ub, ua, ul, uc, us⟩, uf⟩ x (HUU.out x hx).2.2
    have e : rpl ⟨⟨ub, ua, ul, uc, us⟩, uf⟩ = x0 := HC1.out.2.1
    rw [e, HAR.out] at this
    exact this⟩
  clear hU HGC
  refine Seq.begin_any (by kernel_rfl) (fun wd hd => ?_)
  have hbd : Below xd.heap.size xd wd := hd.mono (Nat.le_refl _)
  refine Seq.take_lat (i := 0) (v := ?_) rfl (by kernel_rfl) (by kernel_rfl) (by kernel_rfl) (fun _ _ _ h => h) (by rfl) ?_ ?_
  rotate_left
  · intro w' hLat; change Below _ _ _ at hLat; go_simp <;> with_reducible rfl
  try simp only [Act.put, List.setIfInBounds_toArray, List.set_cons_zero, List.set_cons_succ, List.getElem_toArray, List.getElem_cons_zero]
  refine Seq.take_lat (i := 1) (v := ?_) rfl (by kernel_rfl) (by kernel_rfl) (by kernel_rfl) (fun _ _ _ h => h) (by rfl) ?_ ?_
  rotate_left
  · intro w' hLat; change Below _ _ _ at hLat; go_simp <;> with_reducible rfl
  try simp only [Act.put, List.setIfInBounds_toArray, List.set_cons_zero, List.set_cons_succ, List.getElem_toArray, List.getElem_cons_zero, List.getElem_cons_succ]
  refine Seq.take_lat (i := 2) (v := ?_) rfl (by kernel_rfl) (by kernel_rfl) (by kernel_rfl) (fun _ _ _ h => h) (by rfl) ?_ ?_
  rotate_left
  · intro w' hLat; change Below _ _ _ at hLat; go_simp <;> with_reducible rfl
  try simp only [Act.put, List.setIfInBounds_toArray, List.set_cons_zero, List.set_cons_succ, List.getElem_toArray, List.getElem_cons_zero, List.getElem_cons_succ]
  refine Seq.take_lat (i := 3) (v := .agg #[.int .u64 ub, .slice ua ul uc, .bool uf]) rfl (by kernel_rfl) (by kernel_rfl) (by kernel_rfl) (fun _ _ _ h => h) (by rfl) (fun w' hLat => exec_load_mid 30 _ _ rfl Try.underlying30 rfl U 0 rfl [.int .u64 ub, .slice ua ul uc, .bool uf] infoRc (HUU.out w' (below_to hbd hLat)).1) ?_
  try simp only [Act.put, List.setIfInBounds_toArray, List.set_cons_zero, List.set_cons_succ, List.getElem_toArray, List.getElem_cons_zero, List.getElem_cons_succ]
  refine Seq.take_lat (i := 5) (v := .agg #[.int .u64 mb, .slice ma ml mc, .bool last]) rfl (by kernel_rfl) (by kernel_rfl) (by kernel_rfl) (fun _ _ _ h => h) (by rfl) (fun w' hLat => exec_load_mid 30 _ _ rfl Try.underlying30 rfl Rb 0 rfl [.int .u64 mb, .slice ma ml mc, .bool last] infoRc (HF.out w' (HUU.out w' (below_to hbd hLat)).2.1).1) ?_
  try simp only [Act.put, List.setIfInBounds_toArray, List.set_cons_zero, List.set_cons_succ, List.getElem_toArray, List.getElem_cons_zero, List.getElem_cons_succ]
  refine Seq.only_lat (i := 4) rfl (by kernel_rfl) (fun KK hK => ?_)
  rw [if_pos (by rfl)]
  go_simp
  refine Calls.mono (HUO.out wd hbd) ?_
  rintro e xe ⟨rfl, hb⟩
  have HXE : Box (Below xd.heap.size xd xe) := ⟨below_to hbd hb⟩
  refine hK.out _ _ hb ?_
  clear hK KK
  try simp only [Act.put, List.setIfInBounds_toArray, List.set_cons_zero, List.set_cons_succ, List.getElem_toArray, List.getElem_cons_zero, List.getElem_cons_succ]
  refine Seq.only_lat (i := 6) rfl (by kernel_rfl) (fun KK hK => ?_)
  rw [if_pos (by rfl)]
  go_simp
  refine Calls.mono (HRO.out xe (HF.out xe (HUU.out xe HXE.out).2.1).2.2.2.2.2.1) ?_
  rintro e xf ⟨rfl, hb2⟩
  have HXF : Box (Below xa.heap.size xa xf) := ⟨(HUU.out xf (below_to HXE.out hb2)).2.1⟩
  refine hK.out _ _ hb2 ?_
  clear hK KK
  try simp only [Act.put, List.setIfInBounds_toArray, List.set_cons_zero, List.set_cons_succ, List.getElem_toArray, List.getElem_cons_zero, List.getElem_cons_succ]
  refine Seq.take_lat (i := 7) (v := .bool false) rfl (by kernel_rfl) (by kernel_rfl) (by kernel_rfl) (fun _ _ _ h => h) (by rfl) (fun w' hLat => exec_neR' _ _ _ rfl x0 AR HAR.out rfl rfl) ?_
  try simp only [Act.put, List.setIfInBounds_toArray, List.set_cons_zero, List.set_cons_succ, List.getElem_toArray, List.getElem_cons_zero, List.getElem_cons_succ]
  refine Seq.take_lat (i := 8) (v := ?_) rfl (by kernel_rfl) (by kernel_rfl) (by kernel_rfl) (fun _ _ _ h => h) (by rfl) ?_ ?_
  rotate_left
  · intro w' hLat; change Below _ _ _ at hLat; go_simp <;> with_reducible rfl
  try simp only [Act.put, List.setIfInBounds_toArray, List.set_cons_zero, List.set_cons_succ, List.getElem_toArray, List.getElem_cons_zero, List.getElem_cons_succ]
  refine wpAnyH_done (by kernel_rfl) ?_ _
  clear hd hbd hb hb2
  have HPY : Box (Calls Try.prog 10 #[.agg #[.int .u64 yb, .slice ya yl yc, .bool yf]] xf fun e w' => ∃ a c, e = .returned (.tuple #[.slice a 176 c, .int .i64 0]) ∧ w'.ownsRow xf.heap.size 5 1 (.slice a 176 c) 176 (Lb.map (Value.int .u8)) ∧ Below xf.heap.size xf w') := ⟨by
    have h8 := (HF.out xf HXF.out).2.2.2.2.2.2.1
    have := rcput_ok ⟨⟨yb, ya, yl, yc, ys⟩, yf⟩ xf (H7.out.2.2.2.1.below (HYY.out xf h8).2.2) H7.out.2.2.2.2 H7.out.2.2.1
    have e : rpl ⟨⟨yb, ya, yl, yc, ys⟩, yf⟩ = getP Lb := H7.out.2.1
    rw [e, putP_getP Lb HB1.out.2.2.1 HB1.out.2.2.2.2.2.2] at this
    exact this⟩
  have HRY : Box (xf.rangeAt Y 0 [.int .u64 yb, .slice ya yl yc, .bool yf]) := ⟨(HF.out xf HXF.out).2.1⟩
  go_upto_region 21 with (first
    | (refine atLoad 30 ?_; refine wpList_ldMid rfl 30 _ _ rfl Try.underlying30 rfl Y 0 rfl [.int .u64 yb, .slice ya yl yc, .bool yf] infoRc HRY.out ?_)
    | (go_at_call 10; refine HPY.out.mono ?_; rintro e xg ⟨ka, kc, rfl, ho, hb⟩; have HG1 : Box (Below xa.heap.size xa xg ∧ Bytes xg ka 176 Lb) := ⟨below_to HXF.out hb, own_bytes ho HB1.out.2.2.1⟩; clear ho hb))
  have HCk : Box (∀ o : Oper, ∀ a : Act, o.op = .convert 23 9 (.tmp 108) → a.eval (.tmp 108) = .slice ka 176 kc → (execOp a.eval o).run Try.prog xg = .ok (.value (.string sb)) xg) := ⟨fun o a h1 h2 => by rw [← HSB.out]; exact exec_conv (.tmp 108) h1 h2 HG1.out.2⟩
  have HCl : Box (∀ o : Oper, ∀ a : Act, o.op = .convert 23 9 (.tmp 110) → a.eval (.tmp 110) = .slice ab lb cb → (execOp a.eval o).run Try.prog xg = .ok (.value (.string sb)) xg) := ⟨fun o a h1 h2 => by rw [← HSB.out]; exact exec_conv (.tmp 110) h1 h2 (HF.out xg HG1.out.1).2.2.2.2.1⟩
  clear HPY HRY
  go_wp2_with (first
    | (refine atConv _ _ ?_; first | (refine wpList_runG (by rfl) _ _ (HCk.out _ _ rfl rfl) ?_) | (refine wpList_runG (by rfl) _ _ (HCl.out _ _ rfl rfl) ?_))
    | (refine atBin .eql 9 ?_; refine wpList_runG (by rfl) _ _ (exec_eqT _ _ _ rfl sb rfl rfl) ?_))
  go_ret
  exact ⟨rfl, below_to HW.out (HF.out xg HG1.out.1).2.2.2.2.2.1⟩
set_option maxHeartbeats 1000000 in
theorem recordPuts_far (m0 : Im) (last short : Bool) (ab : Option Addr) (lb cb : Nat) (w : World) (hbl : ¬ lb ≤ 300) (hm : lb ≤ maxLen) :
    Calls Try.prog 3 #[.agg (imc m0).toArray, .bool last, .bool short, .slice ab lb cb] w fun e w' => e = .returned (.bool true) ∧ Below w.heap.size w w' := by
  unfold maxLen at hm
  obtain ⟨w1, hw1⟩ : ∃ w1, w.alloc (.cells (imc m0).toArray 25) = w1 := ⟨_, rfl⟩
  have HB1 : Box (Below w.heap.size w w1) := ⟨by rw [← hw1]; exact (Below.refl _ _).alloc (Nat.le_refl _) _⟩
  have hgt : (300 : Int) < (lb : Int) := by omega
  go_enter Try.func3, Try.ntmps3
  go_upto_region 1 with fail
  (try simp only [hw1])
  clear hw1
  go_wp2_with (go_at_call 8; refine (awake_any _).mono ?_; rintro e x1 ⟨rfl, hb⟩; have H1 : Box (Below w1.heap.size w1 x1) := ⟨hb⟩; clear hb)
  go_ret
  exact ⟨rfl, below_to HB1.out H1.out⟩
theorem recordPuts_walk (m0 : Im) (last short : Bool) (ab : Option Addr) (lb cb : Nat) (zs : List Int) (W : World) (h0 : Byi W m0) (w3 : IsRow .u8 W ab lb cb zs) :
    Calls Try.prog 3 #[.agg (imc m0).toArray, .bool last, .bool short, .slice ab lb cb] W fun e w' => e = .returned (.bool true) ∧ Below W.heap.size W w' := by
  obtain ⟨hb, hc, _⟩ := w3.pc
  by_cases hl : lb ≤ 300
  · by_cases hf : fitR (zs.take lb)
    · cases short
      · exact recordPuts_lf m0 last ab lb cb _ W h0 hb hl hc hf
      · exact recordPuts_sf m0 last ab lb cb _ W h0 hb hl hc hf
    · cases short
      · exact recordPuts_ln m0 last ab lb cb _ W h0 hb hl hc hf
      · exact recordPuts_sn m0 last ab lb cb _ W h0 hb hl hc hf
  · exact recordPuts_far m0 last short ab lb cb W hl w3.len
end Go.Proofs.Ytgdjdlakndajgaa
