/-
  JournalSeals: what is written to the ring is what the document says, place by place, sealed by the key.
-/
import Derived.Test.YtcggbnggmglphaaDoorQ42
namespace Go.Proofs.YtcggbnggmglphaaDoor
set_option maxRecDepth 100000
set_option linter.unusedVariables false
open Go.RowKit Plain
set_option maxHeartbeats 16000000 in
theorem journalSeals_core (K : List Int) (hK : K.length = 32 ∧ Byt K) (a : Option Addr) (ca : Nat) (M : List Im) (st nx : Nat) (hst : st < 256) (hnx : nx < 65536) (w : World) (hT : Dig.Tabs w) (hT2 : Seal.Tab w) (hM : Imgs w a M) (hmM : M.length ≤ 9223372036854775807) :
    Calls Tryd.prog 3 #[.agg (u8s K), .slice a M.length ca, .int .u8 (st : Int), .int .u16 (nx : Int)] w fun e w' => e = .returned (.bool true) ∧ Below w.heap.size w w' := by
  obtain ⟨S, hS⟩ : ∃ S, w.heap.size = S := ⟨_, rfl⟩
  obtain ⟨AK, HAK⟩ : ∃ A, Box (u8s K = A) := ⟨_, ⟨rfl⟩⟩
  rw [HAK.out]
  obtain ⟨w1, hw1⟩ : ∃ w1, w.alloc (.cells AK 23) = w1 := ⟨_, rfl⟩
  have hb1 : Below w.heap.size w w1 := by rw [← hw1]; exact (Below.refl _ _).alloc (Nat.le_refl _) _
  have r1 : w1.heap[S]? = some (.cells AK 23 (0, 0)) := by rw [← hw1]; exact al_at hS
  have HAW : Box (Calls Tryd.prog 4 #[] w1 fun e w' => e = .returned (.bool true) ∧ Below w1.heap.size w1 w') := ⟨awake_v w1 (hT.below hb1) (hT2.below hb1)⟩
  have HX : Box (∀ x, Below w1.heap.size w1 x → x.rangeAt S 0 (K.map (Value.int .u8)) ∧ Dig.Tabs x ∧ Seal.Tab x ∧ Imgs x a M ∧ Below w.heap.size w x) := ⟨fun x hx => ⟨fun j q hq => by
    rw [cell_of_row _ _ _ _ _ _ ((hx.block S (Array.getElem?_eq_some_iff.1 r1).1).trans r1), Nat.zero_add, ← HAK.out]
    simpa [u8s] using hq, hT.below (below_to hb1 hx), hT2.below (below_to hb1 hx), hM.below (below_to hb1 hx), below_to hb1 hx⟩⟩
  have HKI : Box ((Tryd.prog.info? 23).map (·.size) = some (K.map (Value.int .u8)).length ∧ (K.map (Value.int .u8)).toArray = AK ∧ K.length = 32 ∧ Byt K) := ⟨by rw [List.length_map, hK.1]; exact infoSum, by rw [← HAK.out]; rfl, hK⟩
  have HS : Box (w.heap.size = S) := ⟨hS⟩
  obtain ⟨n, hn⟩ : ∃ n, M.length = n := ⟨_, rfl⟩
  have HLN : Box (M.length = n) := ⟨hn⟩
  rw [hn] at hmM ⊢
  clear hT hT2 hM hK hb1 r1 hS hn
  by_cases h0 : n = 0
  · subst h0
    go_enter Tryd.func3, Tryd.ntmps3
    go_upto_region 1 with fail
    (try simp only [HS.out])
    clear hw1
    go_upto_region 4 with (go_at_call 4; refine HAW.out.mono ?_; rintro e x1 ⟨rfl, hb⟩; have H1 : Box (Below w1.heap.size w1 x1) := ⟨hb⟩; clear hb)
    go_wp2
    go_ret
    exact ⟨rfl, (HX.out x1 H1.out).2.2.2.2⟩
  by_cases h6 : 6 < n
  · have d0 : ((n : Int) == 0) = false := by simp; omega
    have d0b : ¬ (n : Int) = 0 := by omega
    have d6 : decide ((6 : Int) < (n : Int)) = true := by simp; omega
    go_enter Tryd.func3, Tryd.ntmps3
    go_upto_region 1 with fail
    (try simp only [HS.out])
    clear hw1
    go_upto_region 4 with (go_at_call 4; refine HAW.out.mono ?_; rintro e x1 ⟨rfl, hb⟩; have H1 : Box (Below w1.heap.size w1 x1) := ⟨hb⟩; clear hb)
    go_wp2
    go_ret
    exact ⟨rfl, (HX.out x1 H1.out).2.2.2.2⟩
  have HN6 : Box (1 ≤ n ∧ n ≤ 6) := ⟨by omega, by omega⟩
  have d0 : ((n : Int) == 0) = false := by simp; omega
  have d0b : ¬ (n : Int) = 0 := by omega
  have d6 : decide ((6 : Int) < (n : Int)) = false := by simp; omega
  go_enter Tryd.func3, Tryd.ntmps3
  go_upto_region 1 with fail
  (try simp only [HS.out])
  clear hw1
  go_upto_region 4 with (go_at_call 4; refine HAW.out.mono ?_; rintro e x1 ⟨rfl, hb⟩; have H1 : Box (Below w1.heap.size w1 x1) := ⟨hb⟩; clear hb)
  go_upto_region 6 with fail
  clear HAW d0 d0b d6 h0 h6 hmM
  obtain ⟨D, hD⟩ : ∃ D, x1.heap.size + 1 = D := ⟨_, rfl⟩
  have HD : Box (Calls Tryd.prog 5 #[.int .i64 8] x1 fun e w' => e = .returned (.tuple #[.pointer (some ⟨D, 0, none⟩), .int .i64 0]) ∧ ∃ fp, Disk.Cx x1 w' D fp (Disk.dk0 8)) := ⟨by have := Disk.new_cx x1 8 ⟨by omega, by omega⟩; rw [hD] at this; exact this⟩
  clear hD
  obtain ⟨dz, hdz⟩ : ∃ dz, Disk.dk0 8 = dz := ⟨_, rfl⟩
  rw [hdz] at HD
  have HD0 : Box (Up dz ∧ dz.n = 8 ∧ dz.ops = [] ∧ dz.uw = [] ∧ dz.left = 0 ∧ Disk.J 0 dz (Disk.rd0 8)) := ⟨by rw [← hdz]; exact ⟨⟨rfl, rfl⟩, rfl, rfl, rfl, rfl, Disk.j_new 8⟩⟩
  clear hdz
  go_upto_region 7 with (go_at_call 5; refine HD.out.mono ?_; rintro e x2 ⟨rfl, fp2, hc⟩; have H2 : Box (Disk.Cx x1 x2 D fp2 dz) := ⟨hc⟩; clear hc)
  clear HD
  obtain ⟨rz, hrz⟩ : ∃ rz, Disk.rd0 8 = rz := ⟨_, rfl⟩
  rw [hrz] at HD0
  have HRn : Box (Calls Tryd.prog 6 #[.int .i64 8] x2 fun e w' => ∃ V : List Value, e = .returned (.tuple #[.agg V.toArray, .int .i64 0]) ∧ Disk.Rv w' (.agg V.toArray) rz ∧ Below x2.heap.size x2 w' ∧ V.toArray.all (·.oneCell') = true ∧ (Tryd.prog.info? 34).map (·.size) = some V.toArray.size ∧ V.length = 6) := ⟨by
    have := Disk.rnew_any x2 8 ⟨by omega, by omega⟩
    rw [hrz] at this
    refine this.mono ?_
    rintro e w' ⟨v, rfl, hr, hb⟩
    obtain ⟨V, rfl, hl, ha⟩ := rv_form hr
    exact ⟨V, rfl, hr, hb, ha, by rw [List.size_toArray, hl]; exact Disk.infoD, hl⟩⟩
  clear hrz
  obtain ⟨ZD, hZD⟩ : ∃ ZD, (Disk.rv 0 (.slice none 0 0) (.slice none 0 0) 0 false (.slice none 0 0)).toArray = ZD := ⟨_, rfl⟩
  have HZD : Box ((Tryd.prog.info? 34).map (·.zero) = some (some (.agg ZD)) ∧ ZD.size = 6) := ⟨by rw [← hZD]; exact Disk.zeroD, by rw [← hZD]; rfl⟩
  obtain ⟨ZJ, hZJ⟩ : ∃ ZJ, (rq z32 0 0 zs 0 0).toArray = ZJ := ⟨_, rfl⟩
  have HZJ : Box ((Tryd.prog.info? 45).map (·.zero) = some (some (.agg ZJ)) ∧ ZJ.size = 70) := ⟨by rw [← hZJ]; exact zeroRj, by rw [← hZJ, List.size_toArray, len_rq _ _ _ _ _ _ len_z32 okS_zs]⟩
  clear hZD hZJ
  go_upto_region 8 with (first
    | (go_at_call 6; refine HRn.out.mono ?_; rintro e x3 ⟨V, rfl, hr, hb, ha, hi, hl⟩; have H3 : Box (Disk.Rv x3 (.agg V.toArray) rz ∧ Below x2.heap.size x2 x3 ∧ V.toArray.all (·.oneCell') = true ∧ (Tryd.prog.info? 34).map (·.size) = some V.toArray.size ∧ ZD.size = V.toArray.size ∧ V.length = 6) := ⟨hr, hb, ha, hi, by rw [HZD.out.2, List.size_toArray, hl], hl⟩; clear hr hb ha hi hl)
    | (refine atAlloc _ ?_; refine wpList_run rfl _ _ (exec_alloc 34 rfl _ HZD.out.1) ?_)
    | (refine atStore _ ?_; refine wpList_newRow x3 ZD V.toArray H3.out.2.2.2.1 H3.out.2.2.2.2.1 H3.out.2.2.1 rfl _ _ rfl rfl rfl rfl ?_; intro x4 h4 hb4; have H4 : Box (x4.heap[x3.heap.size]? = some (.cells V.toArray 34 (0, 0)) ∧ Below x3.heap.size x3 x4) := ⟨h4, hb4⟩; clear h4 hb4))
  obtain ⟨Bm, hBm⟩ : ∃ Bm, x3.heap.size = Bm := ⟨_, rfl⟩
  (try simp only [hBm])
  have H4a : Box (Disk.Rv x4 (.agg V.toArray) rz ∧ x4.heap[Bm]? = some (.cells V.toArray 34 (0, 0)) ∧ Disk.Cx x1 x4 D fp2 dz ∧ x2.heap.size ≤ Bm ∧ Below x2.heap.size x2 x4) := ⟨H3.out.1.below H4.out.2, by rw [← hBm]; exact H4.out.1, (H2.out.step H3.out.2.1).step H4.out.2, by rw [← hBm]; exact H3.out.2.1.size, below_to H3.out.2.1 H4.out.2⟩
  have HVl : Box (V.length = 6) := ⟨H3.out.2.2.2.2.2⟩
  clear hBm H3 H4 HRn
  obtain ⟨at0, hat0⟩ : ∃ q, st % 7 = q := ⟨_, rfl⟩
  have HA7 : Box (at0 < 7) := ⟨by omega⟩
  have c1 : IntKind.u64.wrap (nx : Int) = (nx : Int) := by rw [IntKind.wrap_u64]; omega
  have c2 : IntKind.u64.wrap ((nx : Int) + 1) = (nx : Int) + 1 := by rw [IntKind.wrap_u64]; omega
  have c3 : IntKind.u64.wrap ((st : Int) % 7) = (at0 : Int) := by rw [IntKind.wrap_u64]; omega
  have c5 : (st : Int).tmod 7 = (at0 : Int) := by rw [← hat0]; rfl
  have c6 : IntKind.u64.wrap (at0 : Int) = (at0 : Int) := by rw [IntKind.wrap_u64]; omega
  go_upto_region 10 with fail
  clear c1 c2 c3 c5 c6 hat0
  obtain ⟨nn, hnn⟩ : ∃ nn, (nx : Int) + 1 = nn := ⟨_, rfl⟩
  (try simp only [hnn])
  have HNN : Box (1 ≤ nn ∧ nn ≤ 65536) := ⟨by omega, by omega⟩
  clear hnn
  obtain ⟨S2, HS2⟩ : ∃ A, Box (sa ⟨at0, 0, z32⟩ = A) := ⟨_, ⟨rfl⟩⟩
  have HB4 : Box (∀ x, Below x4.heap.size x4 x → x.rangeAt S 0 (K.map (Value.int .u8)) ∧ Imgs x a M ∧ Below w.heap.size w x) := ⟨fun x hx => by
    have := HX.out x (below_to (below_to H1.out H2.out.bel) (below_to H4a.out.2.2.2.2 hx))
    exact ⟨this.1, this.2.2.2.1, this.2.2.2.2⟩⟩
  have HOs : Box (OkS ⟨at0, 0, z32⟩) := ⟨⟨len_z32, byt_z32, by have := HA7.out; show at0 ≤ _; omega, Nat.zero_le _⟩⟩
  have HJN : Box (∀ x, Below x4.heap.size x4 x → Calls Tryd.prog 7 #[.pointer (some ⟨D, 0, none⟩), .agg AK, .int .i64 1, .int .i64 7, .agg S2, .int .u64 nn, .int .u64 1099511627776] x fun e w' => ∃ J, e = .returned (.tuple #[.pointer (some ⟨J, 0, none⟩), .int .i64 0]) ∧ JC x1 w' J D fp2 ⟨K, 1, 7, ⟨at0, 0, z32⟩, nn, 1099511627776⟩ dz ∧ Below x.heap.size x w') := ⟨fun x hx => by
    have hx1 := HX.out x1 H1.out
    have := jnew_ok (H4a.out.2.2.1.step hx) K HKI.out.2.2 1 7 (by omega) (by rw [HD0.out.2.1]; omega) (by rw [HD0.out.2.1]; omega) ⟨at0, 0, z32⟩ HOs.out (by have := HA7.out; simp [may]; omega) nn 1099511627776 (by have := HNN.out; omega) ⟨by omega, by omega⟩ hx1.2.1 hx1.2.2.1
    rw [HAK.out, HS2.out] at this
    exact this.mono fun e w' ⟨J, h1, h2, h3, _⟩ => ⟨J, h1, h2, h3⟩⟩
  have HR4 : Box (x4.rangeAt S 0 (K.map (Value.int .u8))) := ⟨(HB4.out x4 (Below.refl _ _)).1⟩
  have HJN4 : Box _ := ⟨HJN.out x4 (Below.refl _ _)⟩
  clear HJN
  go_upto_region 11 with (first
    | (refine atLoad 23 ?_; refine wpList_ldMid rfl 23 _ _ rfl Tryd.underlying23 rfl S 0 rfl (K.map (Value.int .u8)) HKI.out.1 HR4.out ?_; rw [HKI.out.2.1])
    | (refine atBuild _ ?_; refine wpList_run rfl _ _ (exec_built 42 [(0, .tmp 54)] rfl [(0, .int .u64 (at0 : Int))] rfl S2 (by rw [← HS2.out]; exact built_St1 at0)) ?_)
    | (go_at_call 7; refine HJN4.out.mono ?_; rintro e x5 ⟨J, rfl, hc, hb⟩; have H5 : Box (JC x1 x5 J D fp2 ⟨K, 1, 7, ⟨at0, 0, z32⟩, nn, 1099511627776⟩ dz ∧ Below x4.heap.size x4 x5) := ⟨hc, hb⟩; clear hc hb))
  clear HJN4 HR4
  obtain ⟨RQ, hRQ⟩ : ∃ RQ, rq K 1 7 ⟨at0, 0, z32⟩ nn 1099511627776 = RQ := ⟨_, rfl⟩
  have HR5 : Box (x5.rangeAt S 0 (K.map (Value.int .u8))) := ⟨(HB4.out x5 H5.out.2).1⟩
  have HRN : Box (Calls Tryd.prog 8 #[.int .i64 8, .agg AK, .int .i64 1, .int .i64 7, .agg S2, .int .u64 nn, .int .u64 1099511627776] x5 fun e w' => e = .returned (.tuple #[.agg RQ.toArray, .int .i64 0]) ∧ Below x5.heap.size x5 w') := ⟨by
    have := rnew13_ok 8 1 7 (by omega) (by omega) (by omega) K HKI.out.2.2.1 ⟨at0, 0, z32⟩ HOs.out HA7.out (Nat.zero_le _) nn 1099511627776 (by have := HNN.out; omega) ⟨by omega, by omega⟩ x5
    rw [HAK.out, HS2.out] at this
    rw [← hRQ]
    exact this⟩
  have HRQ : Box (rq K 1 7 ⟨at0, 0, z32⟩ nn 1099511627776 = RQ ∧ RQ.length = 70 ∧ (Tryd.prog.info? 45).map (·.size) = some RQ.toArray.size ∧ ZJ.size = RQ.toArray.size ∧ RQ.toArray.all (·.oneCell') = true) := ⟨hRQ, by rw [← hRQ]; exact len_rq _ _ _ _ _ _ HKI.out.2.2.1 HOs.out, by rw [List.size_toArray, ← hRQ, len_rq _ _ _ _ _ _ HKI.out.2.2.1 HOs.out]; exact infoRj, by rw [HZJ.out.2, List.size_toArray, ← hRQ, len_rq _ _ _ _ _ _ HKI.out.2.2.1 HOs.out], by rw [← hRQ]; exact all_rq _ _ _ _ _ _⟩
  clear hRQ
  go_upto_region 12 with (first
    | (refine atLoad 23 ?_; refine wpList_ldMid rfl 23 _ _ rfl Tryd.underlying23 rfl S 0 rfl (K.map (Value.int .u8)) HKI.out.1 HR5.out ?_; rw [HKI.out.2.1])
    | (refine atBuild _ ?_; refine wpList_run rfl _ _ (exec_built 43 [(0, .tmp 62)] rfl [(0, .int .u64 (at0 : Int))] rfl S2 (by rw [← HS2.out]; exact built_S1 at0)) ?_)
    | (go_at_call 8; refine HRN.out.mono ?_; rintro e x6 ⟨rfl, hb⟩; have H6 : Box (Below x5.heap.size x5 x6) := ⟨hb⟩; clear hb)
    | (refine atAlloc _ ?_; refine wpList_run rfl _ _ (exec_alloc 45 rfl _ HZJ.out.1) ?_)
    | (refine atStore _ ?_; refine wpList_newRow x6 ZJ RQ.toArray HRQ.out.2.2.1 HRQ.out.2.2.2.1 HRQ.out.2.2.2.2 rfl _ _ rfl rfl rfl rfl ?_; intro x7 h7 hb7; have H7 : Box (x7.heap[x6.heap.size]? = some (.cells RQ.toArray 45 (0, 0)) ∧ Below x6.heap.size x6 x7) := ⟨h7, hb7⟩; clear h7 hb7))
  obtain ⟨Bw, hBw⟩ : ∃ Bw, x6.heap.size = Bw := ⟨_, rfl⟩
  (try simp only [hBw])
  have H7a : Box (Below x4.heap.size x4 x7 ∧ x7.heap[Bw]? = some (.cells RQ.toArray 45 (0, 0)) ∧ JC x1 x7 J D fp2 ⟨K, 1, 7, ⟨at0, 0, z32⟩, nn, 1099511627776⟩ dz) := ⟨below_to (below_to H5.out.2 H6.out) H7.out.2, by rw [← hBw]; exact H7.out.1, (H5.out.1.below H6.out).below H7.out.2⟩
  clear hBw H5 H6 H7 HRN HR5 HAK HS2
  obtain ⟨j0, hj0⟩ : ∃ j0 : Jt, (⟨K, 1, 7, ⟨at0, 0, z32⟩, nn, 1099511627776⟩ : Jt) = j0 := ⟨_, rfl⟩
  rw [hj0] at H7a
  have HJ0 : Box (j0.first = 1 ∧ j0.size = 7 ∧ j0.st = ⟨at0, 0, z32⟩ ∧ j0.nx = nn ∧ j0.lim = 1099511627776 ∧ j0.key = K) := ⟨by rw [← hj0]; exact ⟨rfl, rfl, rfl, rfl, rfl, rfl⟩⟩
  clear hj0
  obtain ⟨L1, hL1⟩ : ∃ L, imgP false (M.map pl) = L := ⟨_, rfl⟩
  have HL1 : Box (imgP false (M.map pl) = L1 ∧ L1.length = n ∧ ∀ x ∈ L1, x.2.length = 160) := ⟨hL1, by rw [← hL1, len_imgP, List.length_map]; exact HLN.out, by rw [← hL1]; exact imgP_len' _⟩
  clear hL1
  have HIM : Box (Calls Tryd.prog 9 #[.slice a n ca, .bool false] x7 fun e w' => ∃ xa xc X, e = .returned (.slice xa n xc) ∧ Ig x7 w' false M n (.slice xa n xc) X) := ⟨by
    have := images_any a ca M false x7 (HB4.out x7 H7a.out.1).2.1 (by rw [HLN.out]; have := HN6.out; omega)
    rw [HLN.out] at this
    refine this.mono ?_
    rintro e w' ⟨v, X, rfl, h⟩
    have hr := h.im.row
    rw [h.len] at hr
    obtain ⟨xa, xc, rfl⟩ := own_form2 hr
    exact ⟨xa, xc, X, rfl, h⟩⟩
  go_upto_region 13 with (go_at_call 9; refine HIM.out.mono ?_; rintro e x8 ⟨xa, xc, X, rfl, hg⟩; have H8 : Box (Ig x7 x8 false M n (.slice xa n xc) X) := ⟨hg⟩; clear hg)
  clear HIM
  have HXp : Box (X.map pl = L1 ∧ X.length = n) := ⟨by
    rw [H8.out.pls, HL1.out.1]
    exact List.take_of_length_le (by rw [HL1.out.2.1]; exact Nat.le_refl _), H8.out.len⟩
  have hu := appM_up j0 H7a.out.2.2.ok dz L1 HD0.out.1 (bad_160' L1 HL1.out.2.2 (by rw [HL1.out.2.1]; have := HN6.out; omega)) (by rw [HL1.out.2.1, HJ0.out.2.2.1, HJ0.out.2.1]; have := HN6.out; show 0 + n ≤ 7; omega) (by rw [HL1.out.2.1, HJ0.out.2.2.2.1, HJ0.out.2.2.2.2.1]; have := HN6.out; have := HNN.out; omega)
  have heA := appM_eq j0 H7a.out.2.2.ok dz L1 HD0.out.1 (bad_160' L1 HL1.out.2.2 (by rw [HL1.out.2.1]; have := HN6.out; omega)) (by rw [HL1.out.2.1, HJ0.out.2.2.1, HJ0.out.2.1]; have := HN6.out; show 0 + n ≤ 7; omega) (by rw [HL1.out.2.1, HJ0.out.2.2.2.1, HJ0.out.2.2.2.2.1]; have := HN6.out; have := HNN.out; omega)
  rw [HL1.out.2.1] at hu
  obtain ⟨y1, hy1⟩ : ∃ y, appM j0 dz L1 = y := ⟨_, rfl⟩
  rw [hy1] at hu heA
  obtain ⟨d1, nx1, e1, s1⟩ := y1
  have e1z : e1 = 0 := hu.er
  subst e1z
  have HU : Box (ApU j0 dz j0.nx j0.st n (d1, nx1, 0, s1) ∧ (d1, nx1, 0, s1) = apL j0 (dz, j0.nx, 0, j0.st) (ofP L1) ∧ appM j0 dz L1 = (d1, nx1, 0, s1)) := ⟨hu, heA, hy1⟩
  have oks1 : OkS s1 := hu.okS (by rw [HJ0.out.2.2.1]; have := HA7.out; show at0 ≤ _; omega) (by rw [HJ0.out.2.2.1]; have := HN6.out; show 0 + n ≤ _; omega)
  have HIS : Box ((Tryd.prog.info? 42).map (·.size) = some (sa s1).size ∧ (sa zs).size = (sa s1).size ∧ OkS s1) := ⟨by rw [size_sa oks1]; exact infoSt, by rw [size_sa oks1, size_sa okS_zs], oks1⟩
  clear hu heA hy1 oks1
  have HAP : Box (Calls Tryd.prog 10 #[.pointer (some ⟨J, 0, none⟩), .slice xa n xc] x8 fun e w' => ∃ fp', e = .returned (.tuple #[.agg (sa s1), .int .i64 0]) ∧ JC x1 w' J D fp' { j0 with nx := nx1 } d1 ∧ Disk.Rv w' (.agg V.toArray) rz ∧ w'.heap[Bm]? = some (.cells V.toArray 34 (0, 0)) ∧ w'.heap[Bw]? = some (.cells RQ.toArray 45 (0, 0)) ∧ Imgs w' xa X ∧ ¬ fp' Bm) := ⟨by
    have C8 := H7a.out.2.2.below H8.out.bel
    obtain ⟨fp, hcx, hft⟩ := Disk.Cm.foot (⟨fp2, C8.cx⟩ : Disk.Cm x1 x8 D dz)
    have CT : JC x1 x8 J D fp j0 dz := ⟨hcx, C8.row, C8.lo, hft J _ _ _ C8.row (by unfold Disk.Own4; decide), C8.ok, C8.fit, C8.dig, C8.tab⟩
    have hi := H8.out.im
    have hl := HXp.out.2
    rw [← hl] at hi
    have hmx : ∀ m ∈ X, m.bl ≤ 100000 := fun m hm => by
      have h1 : pl m ∈ L1 := by rw [← HXp.out.1]; exact List.mem_map_of_mem hm
      have h2 := HL1.out.2.2 _ h1
      have h3 := (hi.byt m hm).byi.1.1
      simp only [pl] at h2
      omega
    have b8 : Below x4.heap.size x4 x8 := below_to H7a.out.1 H8.out.bel
    have kRv := H4a.out.1.below b8
    have kBm := (b8.block Bm (Array.getElem?_eq_some_iff.1 H4a.out.2.1).1).trans H4a.out.2.1
    have kBw := (H8.out.bel.block Bw (Array.getElem?_eq_some_iff.1 H7a.out.2.1).1).trans H7a.out.2.1
    have := append_v CT xa xc X hi.imgs (by rw [hl]; have := HN6.out; omega) hmx (by rw [HD0.out.2.2.2.2.1]; decide) (by rw [HD0.out.2.2.1]; simp) (by rw [HD0.out.2.2.2.1]; simp)
    rw [HXp.out.1, HU.out.2.2, hl] at this
    refine this.mono ?_
    rintro e w' ⟨fp', h1, h2, h3⟩
    refine ⟨fp', h1, h2, rv_typed C8.row hft h3 kRv, (keep_typed C8.row hft h3 kBm (by unfold Disk.Own4; decide) (by decide)).trans kBm, (keep_typed C8.row hft h3 kBw (by unfold Disk.Own4; decide) (by decide)).trans kBw, (imgs_typed C8.row hft h3 hi).imgs, ?_⟩
    exact h3.k Bm (Array.getElem?_eq_some_iff.1 kBm).1 (hft Bm _ _ _ kBm (by unfold Disk.Own4; decide))⟩
  go_upto_region 14 with (first
    | (go_at_call 10; refine HAP.out.mono ?_; rintro e x9 ⟨fp9, rfl, h1, h2, h3, h4, h5, h6⟩; have H9 : Box (JC x1 x9 J D fp9 { j0 with nx := nx1 } d1 ∧ Disk.Rv x9 (.agg V.toArray) rz ∧ x9.heap[Bm]? = some (.cells V.toArray 34 (0, 0)) ∧ x9.heap[Bw]? = some (.cells RQ.toArray 45 (0, 0)) ∧ Imgs x9 xa X ∧ ¬ fp9 Bm) := ⟨h1, h2, h3, h4, h5, h6⟩; clear h1 h2 h3 h4 h5 h6)
    | (refine atAlloc _ ?_; refine wpList_run rfl _ _ (exec_alloc 42 rfl _ zeroSt) ?_)
    | (refine atStore _ ?_; refine wpList_newRow x9 (sa zs) (sa s1) HIS.out.1 HIS.out.2.1 (all_sa s1) rfl _ _ rfl rfl rfl rfl ?_; intro xA hA hbA; have HxA : Box (xA.heap[x9.heap.size]? = some (.cells (sa s1) 42 (0, 0)) ∧ Below x9.heap.size x9 xA) := ⟨hA, hbA⟩; clear hA hbA))
  obtain ⟨Bs, hBs⟩ : ∃ Bs, x9.heap.size = Bs := ⟨_, rfl⟩
  (try simp only [hBs])
  have HBZ : Box (Bz w x1 xA J D fp9 { j0 with nx := nx1 } d1 Bm Bw Bs V RQ rz s1 xa X) := ⟨by
    have hb := HxA.out.2
    refine ⟨H9.out.1.below hb, H9.out.2.1.below hb, (hb.block _ (Array.getElem?_eq_some_iff.1 H9.out.2.2.1).1).trans H9.out.2.2.1, (hb.block _ (Array.getElem?_eq_some_iff.1 H9.out.2.2.2.1).1).trans H9.out.2.2.2.1, by rw [← hBs]; exact HxA.out.1, H9.out.2.2.2.2.1.below hb, ?_, H9.out.2.2.2.2.2, ?_⟩
    · exact (HX.out xA (below_to H1.out (H9.out.1.below hb).cx.bel)).2.2.2.2
    · have h1 := H2.out.bel.size
      have h2 := H4a.out.2.2.2.1
      omega⟩
  clear hBs HxA H9 HAP
  have HAll : Box (∀ x ∈ L1, x.2.length = 160 ∧ Byt x.2 ∧ N64 x.1) := ⟨fun x hx => by
    have h0 := HL1.out.2.2 x hx
    rw [← HXp.out.1] at hx
    obtain ⟨m, hm, rfl⟩ := List.mem_map.1 hx
    exact ⟨h0, (H8.out.im.byt m hm).byt, (H8.out.im.byt m hm).num⟩⟩
  have HJok : Box (j0.Ok) := ⟨H7a.out.2.2.ok⟩
  obtain ⟨BZ, hBZ⟩ : ∃ BZ : World → Prop, (fun x => Bz w x1 x J D fp9 { j0 with nx := nx1 } d1 Bm Bw Bs V RQ rz s1 xa X) = BZ := ⟨_, rfl⟩
  have HBo : Box (∀ x, BZ x → Bz w x1 x J D fp9 { j0 with nx := nx1 } d1 Bm Bw Bs V RQ rz s1 xa X) := ⟨fun x h => by rw [← hBZ] at h; exact h⟩
  have HBd : Box (∀ x y, BZ x → Below x.heap.size x y → BZ y) := ⟨fun x y h hb => by rw [← hBZ] at h ⊢; exact Bz.below h hb⟩
  have HBA : Box (BZ xA) := ⟨by rw [← hBZ]; exact HBZ.out⟩
  clear hBZ HBZ
  have HSw : Box (∀ x, BZ x → x.rangeAt Bw 0 RQ) := ⟨fun x h => range_row (HBo.out x h).bw⟩
  have HVm : Box ((∀ x, BZ x → x.rangeAt Bm 0 V) ∧ (Tryd.prog.info? 34).map (·.size) = some V.length ∧ (Tryd.prog.info? 45).map (·.size) = some RQ.length) := ⟨fun x h => range_row (HBo.out x h).bm, by rw [HVl.out]; exact Disk.infoD, by rw [HRQ.out.2.1]; exact infoRj⟩
  have HAl : Box (∀ y, BZ y → Bw < y.heap.size ∧ x1.heap.size ≤ y.heap.size ∧ ¬ fp9 y.heap.size) := ⟨fun y h => ⟨(Array.getElem?_eq_some_iff.1 (HBo.out y h).bw).1, (HBo.out y h).jc.cx.bel.size, fun hf => by have := (HBo.out y h).jc.cx.hi _ hf; omega⟩⟩
  have HW0 : Box (w.heap.size ≤ x1.heap.size) := ⟨(HX.out x1 H1.out).2.2.2.2.size⟩
  have HMo : Box (∀ x, BZ x → Calls Tryd.prog 12 #[.slice xa n xc] x fun e w' => ∃ ma mc, e = .returned (.slice ma n mc) ∧ Tb w' ma 2 ic L1 ∧ Below x.heap.size x w') := ⟨fun x hx => by
    have := modelOf_any xa xc X x (HBo.out x hx).im (by rw [HXp.out.2]; have := HN6.out; omega)
    rw [HXp.out.2] at this
    refine this.mono ?_
    rintro e w' ⟨v, rfl, h⟩
    have hr := h.row
    rw [HXp.out.1, List.take_of_length_le (by rw [HL1.out.2.1]; exact Nat.le_refl _)] at hr
    obtain ⟨ma, mc, rfl⟩ := own_form2 hr
    exact ⟨ma, mc, rfl, own_tb (fun _ => rfl) hr HL1.out.2.1, h.bel⟩⟩
  have HRa : Box (∀ x ma mc, BZ x → Tb x ma 2 ic L1 → Calls Tryd.prog 11 #[.agg V.toArray, .agg RQ.toArray, .slice ma n mc] x fun e w' => ∃ V2 J2 : List Value, e = .returned (.tuple #[.agg V2.toArray, .agg J2.toArray, .agg (sa s1), .int .i64 0]) ∧ A2 w' d1 n V2 J2 ∧ ((Tryd.prog.info? 34).map (·.size) = some V2.toArray.size ∧ V2.toArray.all (·.oneCell') = true ∧ (Tryd.prog.info? 45).map (·.size) = some J2.toArray.size ∧ J2.toArray.all (·.oneCell') = true) ∧ Below x.heap.size x w') := ⟨fun x ma mc hx ht => by
    have h6 := HN6.out
    have h7 := HNN.out
    have := rappend_up sealOk 0 dz rz HD0.out.2.2.2.2.2 j0 HJok.out HD0.out.1 (by rw [HJ0.out.1, HJ0.out.2.1, HD0.out.2.1]; omega) L1 (by rw [HL1.out.2.1]; omega) (by rw [HL1.out.2.1]; omega) (by rw [HL1.out.2.1]; omega) HAll.out (by rw [HL1.out.2.1, HJ0.out.2.2.1, HJ0.out.2.1]; show 0 + n ≤ 7; omega) (by rw [HL1.out.2.1, HJ0.out.2.2.2.1, HJ0.out.2.2.2.2.1]; omega) x (.agg V.toArray) (HBo.out x hx).rv ma mc ht
    have eRQ : rq j0.key (j0.first : Int) (j0.size : Int) j0.st j0.nx j0.lim = RQ := by
      rw [HJ0.out.1, HJ0.out.2.1, HJ0.out.2.2.1, HJ0.out.2.2.2.1, HJ0.out.2.2.2.2.1, HJ0.out.2.2.2.2.2]
      exact HRQ.out.1
    rw [eRQ, HL1.out.2.1, ← HU.out.2.1] at this
    refine this.mono ?_
    rintro e w' ⟨v', r', rfl, hv, hj, hb⟩
    obtain ⟨V2, rfl, l2, a2⟩ := rv_form hv
    have l3 : (rq j0.key (j0.first : Int) (j0.size : Int) j0.st nx1 j0.lim).length = 70 := len_rq _ _ _ _ _ _ HJok.out.key HJok.out.st
    rw [Nat.zero_add] at hj
    exact ⟨V2, _, rfl, ⟨r', hv, hj, l3, all_rq _ _ _ _ _ _, l2, a2⟩, ⟨by rw [List.size_toArray, l2]; exact Disk.infoD, a2, by rw [List.size_toArray]; exact (by rw [l3]; exact infoRj), all_rq _ _ _ _ _ _⟩, hb⟩⟩
  have HIs : Box ((Tryd.prog.info? 43).map (·.size) = some (sa s1).size ∧ (sa s1).toList = scs s1 ∧ (Tryd.prog.info? 43).map (·.size) = some (scs s1).length ∧ (Tryd.prog.info? 42).map (·.size) = some (scs s1).length ∧ (scs s1).toArray = sa s1 ∧ OkS s1 ∧ eqS s1 s1 = true) := ⟨by rw [size_sa HIS.out.2.2]; exact infoS13, by simp [sa], by rw [len_scs HIS.out.2.2]; exact infoS13, by rw [len_scs HIS.out.2.2]; exact infoSt, rfl, HIS.out.2.2, eqS_self s1⟩
  clear HAll HJok HX HB4 HOs HKI HD0 HLN H1 H2 H4a H7a HL1 HXp HU H8 HJ0 HNN HA7 HS hst hnx
  rename_i K14 hK14
  have HRest : Box (∀ (b23 b24 : Nat) (ma : Option Addr) (mc : Nat) (V2 J2 : List Value) (z : World), Fz w x1 z D d1 n Bm Bs b24 V2 s1 → K14 { tmps := #[Value.agg AK, Value.slice a n ca, Value.int IntKind.u8 ↑st, Value.int IntKind.u16 ↑nx, Value.pointer (some { block := S, off := 0 }), undef, undef, undef, Value.bool false, Value.bool true, Value.pointer (some { block := D, off := 0 }), Value.int IntKind.i64 0, Value.pointer (some { block := Bm, off := 0 }), Value.int IntKind.i64 0, Value.int IntKind.u64 nn, Value.int IntKind.u64 ↑at0, Value.pointer (some { block := J, off := 0 }), Value.int IntKind.i64 0, Value.pointer (some { block := Bw, off := 0 }), Value.int IntKind.i64 0, Value.slice xa n xc, Value.pointer (some { block := Bs, off := 0 }), Value.int IntKind.i64 0, Value.pointer (some { block := b23, off := 0 }), Value.pointer (some { block := b24, off := 0 }), Value.int IntKind.i64 0, Value.bool true, Value.bool true, Value.bool false, Value.slice a n ca, Value.int IntKind.i64 ↑n, Value.bool false, Value.bool false, Value.slice a n ca, Value.int IntKind.i64 ↑n, Value.bool false, Value.bool false, Value.tuple #[Value.pointer (some { block := D, off := 0 }), Value.int IntKind.i64 0], Value.tuple #[Value.pointer (some { block := D, off := 0 }), Value.int IntKind.i64 0], Value.pointer (some { block := D, off := 0 }), Value.int IntKind.i64 0, Value.tuple #[Value.agg V.toArray, Value.int IntKind.i64 0], Value.tuple #[Value.agg V.toArray, Value.int IntKind.i64 0], Value.agg V.toArray, Value.int IntKind.i64 0, Value.int IntKind.u16 ↑nx, Value.int IntKind.u64 ↑nx, Value.int IntKind.u64 nn, Value.int IntKind.u8 ↑st, Value.int IntKind.u8 ↑at0, Value.int IntKind.u64 ↑at0, Value.tuple #[Value.pointer (some { block := J, off := 0 }), Value.int IntKind.i64 0], Value.pointer (some { block := D, off := 0 }), Value.agg AK, Value.int IntKind.u64 ↑at0, Value.agg S2, Value.int IntKind.u64 nn, Value.tuple #[Value.pointer (some { block := J, off := 0 }), Value.int IntKind.i64 0], Value.pointer (some { block := J, off := 0 }), Value.int IntKind.i64 0, Value.tuple #[Value.agg RQ.toArray, Value.int IntKind.i64 0], Value.agg AK, Value.int IntKind.u64 ↑at0, Value.agg S2, Value.int IntKind.u64 nn, Value.tuple #[Value.agg RQ.toArray, Value.int IntKind.i64 0], Value.agg RQ.toArray, Value.int IntKind.i64 0, Value.slice a n ca, Value.slice xa n xc, Value.tuple #[Value.agg (sa s1), Value.int IntKind.i64 0], Value.pointer (some { block := J, off := 0 }), Value.slice xa n xc, Value.tuple #[Value.agg (sa s1), Value.int IntKind.i64 0], Value.agg (sa s1), Value.int IntKind.i64 0, Value.tuple #[Value.agg V2.toArray, Value.agg J2.toArray, Value.agg (sa s1), Value.int IntKind.i64 0], Value.agg V.toArray, Value.agg RQ.toArray, Value.slice xa n xc, Value.slice ma n mc, Value.tuple #[Value.agg V2.toArray, Value.agg J2.toArray, Value.agg (sa s1), Value.int IntKind.i64 0], Value.agg V2.toArray, Value.agg J2.toArray, Value.agg (sa s1), Value.int IntKind.i64 0, undef, undef, undef, undef, undef, undef, undef, undef, undef, undef, undef, undef, undef, undef, undef, undef, undef, undef, undef, undef, undef, undef, undef, undef, undef], defers := [] } z) := ⟨by
    intro b23 b24 ma mc V2 J2 z hF
    have HF : Box _ := ⟨hF⟩
    clear hF
    refine hK14 _ _ ?_
    clear hK14 HRa HMo HAl HSw HVm HBA HBd HBo
    have HI2 : Box ((Tryd.prog.info? 34).map (·.size) = some V2.length) := ⟨by rw [HF.out.l6]; exact Disk.infoD⟩
    have HSt : Box (∀ x, Calls Tryd.prog 13 #[.agg (sa s1)] x fun e w' => e = .returned (.agg (sa s1)) ∧ Below x.heap.size x w') := ⟨fun x => stateOf_any s1 HIs.out.2.2.2.2.2.1 x⟩
    have HSd : Box (∀ x, Below z.heap.size z x → Calls Tryd.prog 14 #[.pointer (some ⟨D, 0, none⟩), .agg V2.toArray] x fun e w' => e = .returned (.bool true) ∧ Below x.heap.size x w') := ⟨fun x hx => by
      obtain ⟨r2, h1, h2⟩ := HF.out.rv
      exact Disk.sameDisk_any x1 x D n d1 r2 (.agg V2.toArray) (HF.out.cm.step hx) (h1.below hx) h2 (by have := HN6.out; omega)⟩
    have HRg : Box (∀ x, Below z.heap.size z x → x.rangeAt Bm 0 V2 ∧ x.rangeAt Bs 0 (scs s1) ∧ x.rangeAt b24 0 (scs s1)) := ⟨fun x hx => ⟨rng_below hx HF.out.bm (by rw [HF.out.l6]; omega), rng_below hx HF.out.bs (by simp [scs]), rng_below hx HF.out.b4 (by simp [scs])⟩⟩
    have HBl : Box (Below w.heap.size w z) := ⟨HF.out.bl⟩
    clear HF
    go_upto_region 15 with fail
    refine begin_keep (S := fun x => Below z.heap.size z x) (by kernel_rfl) (fun wd hwd => ?_)
    have hS : Below z.heap.size z wd := by rw [hwd]; exact (Below.refl _ _).drew
    clear hwd
    refine take_s (i := 0) (v := ?_) rfl (by kernel_rfl) (by kernel_rfl) (by kernel_rfl) (fun _ _ _ h => h) (by rfl) ?_ hS ?_
    rotate_left
    · intro w' hLat; clear hLat; go_simp <;> with_reducible rfl
    try simp only [Act.put, List.setIfInBounds_toArray, List.set_cons_zero, List.set_cons_succ, List.getElem_toArray, List.getElem_cons_zero]
    refine take_s (i := 1) (v := ?_) rfl (by kernel_rfl) (by kernel_rfl) (by kernel_rfl) (fun _ _ _ h => h) (by rfl) ?_ hS ?_
    rotate_left
    · intro w' hLat; clear hLat; go_simp <;> with_reducible rfl
    try simp only [Act.put, List.setIfInBounds_toArray, List.set_cons_zero, List.set_cons_succ, List.getElem_toArray, List.getElem_cons_zero, List.getElem_cons_succ]
    refine take_s (i := 2) (v := ?_) rfl (by kernel_rfl) (by kernel_rfl) (by kernel_rfl) (fun _ _ _ h => h) (by rfl) ?_ hS ?_
    rotate_left
    · intro w' hLat; clear hLat; go_simp <;> with_reducible rfl
    try simp only [Act.put, List.setIfInBounds_toArray, List.set_cons_zero, List.set_cons_succ, List.getElem_toArray, List.getElem_cons_zero, List.getElem_cons_succ]
    refine take_s (i := 3) (v := ?_) rfl (by kernel_rfl) (by kernel_rfl) (by kernel_rfl) (fun _ _ _ h => h) (by rfl) ?_ hS ?_
    rotate_left
    · intro w' hLat; clear hLat; go_simp <;> with_reducible rfl
    try simp only [Act.put, List.setIfInBounds_toArray, List.set_cons_zero, List.set_cons_succ, List.getElem_toArray, List.getElem_cons_zero, List.getElem_cons_succ]
    refine take_s (i := 4) (v := ?_) rfl (by kernel_rfl) (by kernel_rfl) (by kernel_rfl) (fun _ _ _ h => h) (by rfl) ?_ hS ?_
    rotate_left
    · intro w' hLat; clear hLat; go_simp <;> with_reducible rfl
    try simp only [Act.put, List.setIfInBounds_toArray, List.set_cons_zero, List.set_cons_succ, List.getElem_toArray, List.getElem_cons_zero, List.getElem_cons_succ]
    refine take_s (i := 5) (v := ?_) rfl (by kernel_rfl) (by kernel_rfl) (by kernel_rfl) (fun _ _ _ h => h) (by rfl) ?_ hS ?_
    rotate_left
    · intro w' hLat; clear hLat; go_simp <;> with_reducible rfl
    try simp only [Act.put, List.setIfInBounds_toArray, List.set_cons_zero, List.set_cons_succ, List.getElem_toArray, List.getElem_cons_zero, List.getElem_cons_succ]
    refine take_s (i := 6) (v := ?_) rfl (by kernel_rfl) (by kernel_rfl) (by kernel_rfl) (fun _ _ _ h => h) (by rfl) ?_ hS ?_
    rotate_left
    · intro w' hLat; clear hLat; go_simp <;> with_reducible rfl
    try simp only [Act.put, List.setIfInBounds_toArray, List.set_cons_zero, List.set_cons_succ, List.getElem_toArray, List.getElem_cons_zero, List.getElem_cons_succ]
    refine take_s (i := 7) (v := ?_) rfl (by kernel_rfl) (by kernel_rfl) (by kernel_rfl) (fun _ _ _ h => h) (by rfl) ?_ hS ?_
    rotate_left
    · intro w' hLat; clear hLat; go_simp <;> with_reducible rfl
    try simp only [Act.put, List.setIfInBounds_toArray, List.set_cons_zero, List.set_cons_succ, List.getElem_toArray, List.getElem_cons_zero, List.getElem_cons_succ]
    refine take_s (i := 8) (v := ?_) rfl (by kernel_rfl) (by kernel_rfl) (by kernel_rfl) (fun _ _ _ h => h) (by rfl) ?_ hS ?_
    rotate_left
    · intro w' hLat; clear hLat; go_simp <;> with_reducible rfl
    try simp only [Act.put, List.setIfInBounds_toArray, List.set_cons_zero, List.set_cons_succ, List.getElem_toArray, List.getElem_cons_zero, List.getElem_cons_succ]
    refine take_s (i := 9) (v := ?_) rfl (by kernel_rfl) (by kernel_rfl) (by kernel_rfl) (fun _ _ _ h => h) (by rfl) ?_ hS ?_
    rotate_left
    · intro w' hLat; clear hLat; go_simp <;> with_reducible rfl
    try simp only [Act.put, List.setIfInBounds_toArray, List.set_cons_zero, List.set_cons_succ, List.getElem_toArray, List.getElem_cons_zero, List.getElem_cons_succ]
    refine take_s (i := 10) (v := ?_) rfl (by kernel_rfl) (by kernel_rfl) (by kernel_rfl) (fun _ _ _ h => h) (by rfl) ?_ hS ?_
    rotate_left
    · intro w' hLat; clear hLat; go_simp <;> with_reducible rfl
    try simp only [Act.put, List.setIfInBounds_toArray, List.set_cons_zero, List.set_cons_succ, List.getElem_toArray, List.getElem_cons_zero, List.getElem_cons_succ]
    refine take_s (i := 11) (v := ?_) rfl (by kernel_rfl) (by kernel_rfl) (by kernel_rfl) (fun _ _ _ h => h) (by rfl) ?_ hS ?_
    rotate_left
    · intro w' hLat; clear hLat; go_simp <;> with_reducible rfl
    try simp only [Act.put, List.setIfInBounds_toArray, List.set_cons_zero, List.set_cons_succ, List.getElem_toArray, List.getElem_cons_zero, List.getElem_cons_succ]
    refine take_s (i := 12) (v := ?_) rfl (by kernel_rfl) (by kernel_rfl) (by kernel_rfl) (fun _ _ _ h => h) (by rfl) ?_ hS ?_
    rotate_left
    · intro w' hLat; clear hLat; go_simp <;> with_reducible rfl
    try simp only [Act.put, List.setIfInBounds_toArray, List.set_cons_zero, List.set_cons_succ, List.getElem_toArray, List.getElem_cons_zero, List.getElem_cons_succ]
    refine take_s (i := 13) (v := ?_) rfl (by kernel_rfl) (by kernel_rfl) (by kernel_rfl) (fun _ _ _ h => h) (by rfl) ?_ hS ?_
    rotate_left
    · intro w' hLat; clear hLat; go_simp <;> with_reducible rfl
    try simp only [Act.put, List.setIfInBounds_toArray, List.set_cons_zero, List.set_cons_succ, List.getElem_toArray, List.getElem_cons_zero, List.getElem_cons_succ]
    refine take_s (i := 14) (v := ?_) rfl (by kernel_rfl) (by kernel_rfl) (by kernel_rfl) (fun _ _ _ h => h) (by rfl) ?_ hS ?_
    rotate_left
    · intro w' hLat; clear hLat; go_simp <;> with_reducible rfl
    try simp only [Act.put, List.setIfInBounds_toArray, List.set_cons_zero, List.set_cons_succ, List.getElem_toArray, List.getElem_cons_zero, List.getElem_cons_succ]
    refine take_s (i := 15) (v := .agg (sa s1)) rfl (by kernel_rfl) (by kernel_rfl) (by kernel_rfl) (fun _ _ _ h => h) (by rfl) (fun w' hLat => exec_load_mid 42 _ (.tmp 21) rfl Tryd.underlying42 rfl Bs 0 rfl (scs s1) HIs.out.2.2.2.1 (HRg.out w' hLat).2.1) hS ?_
    try simp only [Act.put, List.setIfInBounds_toArray, List.set_cons_zero, List.set_cons_succ, List.getElem_toArray, List.getElem_cons_zero, List.getElem_cons_succ]
    refine take_s (i := 17) (v := .agg (sa s1)) rfl (by kernel_rfl) (by kernel_rfl) (by kernel_rfl) (fun _ _ _ h => h) (by rfl) (fun w' hLat => exec_load_mid 43 _ (.tmp 24) rfl Tryd.underlying43 rfl b24 0 rfl (scs s1) HIs.out.2.2.1 (HRg.out w' hLat).2.2) hS ?_
    try simp only [Act.put, List.setIfInBounds_toArray, List.set_cons_zero, List.set_cons_succ, List.getElem_toArray, List.getElem_cons_zero, List.getElem_cons_succ]
    refine one_keep (i := 16) (by kernel_rfl) ?_
    refine keep_step rfl (by rfl) ?_
    go_simp
    refine Calls.mono (HSt.out _) ?_
    rintro e y1 ⟨rfl, hb1⟩
    have hS : Below z.heap.size z y1 := below_to hS hb1
    refine ⟨hS, ?_⟩
    try simp only [Act.put, List.setIfInBounds_toArray, List.set_cons_zero, List.set_cons_succ, List.getElem_toArray, List.getElem_cons_zero, List.getElem_cons_succ]
    refine take_s (i := 18) (v := .bool true) rfl (by kernel_rfl) (by kernel_rfl) (by kernel_rfl) (fun _ _ _ h => h) (by rfl) (fun w' hLat => exec_eqS13 (.tmp 102) (.tmp 103) _ rfl s1 s1 HIs.out.2.2.2.2.2.1 HIs.out.2.2.2.2.2.1 true HIs.out.2.2.2.2.2.2 rfl rfl) hS ?_
    try simp only [Act.put, List.setIfInBounds_toArray, List.set_cons_zero, List.set_cons_succ, List.getElem_toArray, List.getElem_cons_zero, List.getElem_cons_succ]
    refine take_s (i := 19) (v := ?_) rfl (by kernel_rfl) (by kernel_rfl) (by kernel_rfl) (fun _ _ _ h => h) (by rfl) ?_ hS ?_
    rotate_left
    · intro w' hLat; clear hLat; go_simp <;> with_reducible rfl
    try simp only [Act.put, List.setIfInBounds_toArray, List.set_cons_zero, List.set_cons_succ, List.getElem_toArray, List.getElem_cons_zero, List.getElem_cons_succ]
    refine take_s (i := 20) (v := ?_) rfl (by kernel_rfl) (by kernel_rfl) (by kernel_rfl) (fun _ _ _ h => h) (by rfl) ?_ hS ?_
    rotate_left
    · intro w' hLat; clear hLat; go_simp <;> with_reducible rfl
    try simp only [Act.put, List.setIfInBounds_toArray, List.set_cons_zero, List.set_cons_succ, List.getElem_toArray, List.getElem_cons_zero, List.getElem_cons_succ]
    refine take_s (i := 21) (v := ?_) rfl (by kernel_rfl) (by kernel_rfl) (by kernel_rfl) (fun _ _ _ h => h) (by rfl) ?_ hS ?_
    rotate_left
    · intro w' hLat; clear hLat; go_simp <;> with_reducible rfl
    try simp only [Act.put, List.setIfInBounds_toArray, List.set_cons_zero, List.set_cons_succ, List.getElem_toArray, List.getElem_cons_zero, List.getElem_cons_succ]
    refine take_s (i := 22) (v := .agg V2.toArray) rfl (by kernel_rfl) (by kernel_rfl) (by kernel_rfl) (fun _ _ _ h => h) (by rfl) (fun w' hLat => exec_load_mid 34 _ (.tmp 12) rfl Tryd.underlying34 rfl Bm 0 rfl V2 HI2.out (HRg.out w' hLat).1) hS ?_
    try simp only [Act.put, List.setIfInBounds_toArray, List.set_cons_zero, List.set_cons_succ, List.getElem_toArray, List.getElem_cons_zero, List.getElem_cons_succ]
    refine one_keep (i := 23) (by kernel_rfl) ?_
    refine keep_step rfl (by rfl) ?_
    go_simp
    refine Calls.mono (HSd.out _ hS) ?_
    rintro e y2 ⟨rfl, hb2⟩
    have hS : Below z.heap.size z y2 := below_to hS hb2
    refine ⟨hS, ?_⟩
    try simp only [Act.put, List.setIfInBounds_toArray, List.set_cons_zero, List.set_cons_succ, List.getElem_toArray, List.getElem_cons_zero, List.getElem_cons_succ]
    refine take_s (i := 24) (v := ?_) rfl (by kernel_rfl) (by kernel_rfl) (by kernel_rfl) (fun _ _ _ h => h) (by rfl) ?_ hS ?_
    rotate_left
    · intro w' hLat; clear hLat; go_simp <;> with_reducible rfl
    try simp only [Act.put, List.setIfInBounds_toArray, List.set_cons_zero, List.set_cons_succ, List.getElem_toArray, List.getElem_cons_zero, List.getElem_cons_succ]
    refine take_s (i := 25) (v := ?_) rfl (by kernel_rfl) (by kernel_rfl) (by kernel_rfl) (fun _ _ _ h => h) (by rfl) ?_ hS ?_
    rotate_left
    · intro w' hLat; clear hLat; go_simp <;> with_reducible rfl
    try simp only [Act.put, List.setIfInBounds_toArray, List.set_cons_zero, List.set_cons_succ, List.getElem_toArray, List.getElem_cons_zero, List.getElem_cons_succ]
    refine wpAnyH_done (by kernel_rfl) ?_ _
    go_wp2
    go_ret
    exact ⟨rfl, below_to HBl.out hS⟩⟩
  refine begin_keep (S := fun x => x.rangeAt Bw 0 RQ) (by kernel_rfl) (fun wd hwd => ?_)
  have hB : BZ wd := by rw [hwd]; exact HBd.out _ _ HBA.out (Below.refl _ _).drew
  have hS := HSw.out _ hB
  clear hwd HBA hK14
  refine take_s (i := 1) (v := .agg RQ.toArray) rfl (by kernel_rfl) (by kernel_rfl) (by kernel_rfl) (fun _ _ _ h => h) (by rfl) (fun w' hLat => exec_load_mid 45 _ (.tmp 18) rfl Tryd.underlying45 rfl Bw 0 rfl RQ HVm.out.2.2 hLat) hS ?_
  try simp only [Act.put, List.setIfInBounds_toArray, List.set_cons_zero, List.set_cons_succ, List.getElem_toArray, List.getElem_cons_zero, List.getElem_cons_succ]
  refine take_s (i := 2) (v := ?_) rfl (by kernel_rfl) (by kernel_rfl) (by kernel_rfl) (fun _ _ _ h => h) (by rfl) ?_ hS ?_
  rotate_left
  · intro w' hLat; clear hLat; go_simp <;> with_reducible rfl
  try simp only [Act.put, List.setIfInBounds_toArray, List.set_cons_zero, List.set_cons_succ, List.getElem_toArray, List.getElem_cons_zero, List.getElem_cons_succ]
  refine wpAnyH_all (rs := [0, 3, 10, 11]) (by kernel_rfl) (by simp) (fun q hq => ?_)
  simp only [List.mem_cons, List.not_mem_nil, or_false] at hq
  rcases hq with rfl | rfl | rfl | rfl
  · as_aux_lemma =>
      refine keep_step rfl (by rfl) ?_
      unfold Oper.wp
      rw [exec_load_mid 34 _ (.tmp 12) rfl Tryd.underlying34 rfl Bm 0 rfl V HVm.out.2.1 (HVm.out.1 _ hB)]
      refine ⟨HSw.out _ hB, ?_⟩
      try simp only [Act.put, List.setIfInBounds_toArray, List.set_cons_zero, List.set_cons_succ, List.getElem_toArray, List.getElem_cons_zero]
      refine wpAnyH_all (rs := [3, 10, 11]) (by kernel_rfl) (by simp) (fun q hq => ?_)
      simp only [List.mem_cons, List.not_mem_nil, or_false] at hq
      rcases hq with rfl | rfl | rfl
      · as_aux_lemma =>
          refine keep_step rfl (by rfl) ?_
          go_simp
          refine Calls.mono (HMo.out _ hB) ?_
          rintro e y2 ⟨ma, mc, rfl, hT, hb⟩
          have hB := HBd.out _ _ hB hb
          clear hb
          refine ⟨HSw.out _ hB, ?_⟩
          try simp only [Act.put, List.setIfInBounds_toArray, List.set_cons_zero, List.set_cons_succ, List.getElem_toArray, List.getElem_cons_zero, List.getElem_cons_succ]
          refine wpAnyH_all (rs := [4, 10, 11]) (by kernel_rfl) (by simp) (fun q hq => ?_)
          simp only [List.mem_cons, List.not_mem_nil, or_false] at hq
          rcases hq with rfl | rfl | rfl
          · refine keep_step rfl (by rfl) ?_
            go_simp
            refine Calls.mono (HRa.out _ ma mc hB hT) ?_
            rintro e y3 ⟨V2, J2, rfl, hA, hI, hb⟩
            have hB := HBd.out _ _ hB hb
            have hT := hT.below hb
            clear hb
            refine ⟨HSw.out _ hB, ?_⟩
            try simp only [Act.put, List.setIfInBounds_toArray, List.set_cons_zero, List.set_cons_succ, List.getElem_toArray, List.getElem_cons_zero, List.getElem_cons_succ]
            refine take_s (i := 5) (v := ?_) rfl (by kernel_rfl) (by kernel_rfl) (by kernel_rfl) (fun _ _ _ h => h) (by rfl) ?_ (HSw.out _ hB) ?_
            rotate_left
            · intro w' hLat; clear hLat; go_simp <;> with_reducible rfl
            try simp only [Act.put, List.setIfInBounds_toArray, List.set_cons_zero, List.set_cons_succ, List.getElem_toArray, List.getElem_cons_zero, List.getElem_cons_succ]
            refine take_s (i := 6) (v := ?_) rfl (by kernel_rfl) (by kernel_rfl) (by kernel_rfl) (fun _ _ _ h => h) (by rfl) ?_ (HSw.out _ hB) ?_
            rotate_left
            · intro w' hLat; clear hLat; go_simp <;> with_reducible rfl
            try simp only [Act.put, List.setIfInBounds_toArray, List.set_cons_zero, List.set_cons_succ, List.getElem_toArray, List.getElem_cons_zero, List.getElem_cons_succ]
            refine take_s (i := 7) (v := ?_) rfl (by kernel_rfl) (by kernel_rfl) (by kernel_rfl) (fun _ _ _ h => h) (by rfl) ?_ (HSw.out _ hB) ?_
            rotate_left
            · intro w' hLat; clear hLat; go_simp <;> with_reducible rfl
            try simp only [Act.put, List.setIfInBounds_toArray, List.set_cons_zero, List.set_cons_succ, List.getElem_toArray, List.getElem_cons_zero, List.getElem_cons_succ]
            refine take_s (i := 8) (v := ?_) rfl (by kernel_rfl) (by kernel_rfl) (by kernel_rfl) (fun _ _ _ h => h) (by rfl) ?_ (HSw.out _ hB) ?_
            rotate_left
            · intro w' hLat; clear hLat; go_simp <;> with_reducible rfl
            try simp only [Act.put, List.setIfInBounds_toArray, List.set_cons_zero, List.set_cons_succ, List.getElem_toArray, List.getElem_cons_zero, List.getElem_cons_succ]
            refine take_s (i := 9) (v := ?_) rfl (by kernel_rfl) (by kernel_rfl) (by kernel_rfl) (fun _ _ _ h => h) (by rfl) ?_ (HSw.out _ hB) ?_
            rotate_left
            · intro w' hLat; clear hLat; go_simp <;> with_reducible rfl
            try simp only [Act.put, List.setIfInBounds_toArray, List.set_cons_zero, List.set_cons_succ, List.getElem_toArray, List.getElem_cons_zero, List.getElem_cons_succ]
            refine two_keep (i := 10) (j := 11) (by kernel_rfl) ?_ ?_
            · refine keep_step rfl (by rfl) ?_
              unfold Oper.wp
              rw [exec_alloc 45 rfl _ HZJ.out.1]
              obtain ⟨b23, e1⟩ : ∃ b, y3.heap.size = b := ⟨_, rfl⟩
              obtain ⟨y4, e2⟩ : ∃ y, y3.alloc (.cells ZJ 45) = y := ⟨_, rfl⟩
              have hb : Below y3.heap.size y3 y4 := by rw [← e2]; exact (nb_new _ _ _).2
              have n3 : Nb y4 b23 ZJ 45 := by rw [← e1, ← e2]; exact (nb_new _ _ _).1
              have g3 := HAl.out _ hB
              rw [e1] at g3
              have hB := HBd.out _ _ hB hb
              have hT := hT.below hb
              have hA := hA.below hb
              simp only [e1, e2]
              clear hb e1 e2
              refine ⟨HSw.out _ hB, ?_⟩
              try simp only [Act.put, List.setIfInBounds_toArray, List.set_cons_zero, List.set_cons_succ, List.getElem_toArray, List.getElem_cons_zero, List.getElem_cons_succ]
              refine one_keep (i := 11) (by kernel_rfl) ?_
              refine keep_step rfl (by rfl) ?_
              unfold Oper.wp
              rw [exec_alloc 43 rfl _ zeroS13]
              obtain ⟨b24, e1⟩ : ∃ b, y4.heap.size = b := ⟨_, rfl⟩
              obtain ⟨y5, e2⟩ : ∃ y, y4.alloc (.cells (sa zs) 43) = y := ⟨_, rfl⟩
              have hb : Below y4.heap.size y4 y5 := by rw [← e2]; exact (nb_new _ _ _).2
              have n4 : Nb y5 b24 (sa zs) 43 := by rw [← e1, ← e2]; exact (nb_new _ _ _).1
              have g4 := HAl.out _ hB
              rw [e1] at g4
              have hB := HBd.out _ _ hB hb
              have hT := hT.below hb
              have hA := hA.below hb
              have n3 := n3.below hb
              simp only [e1, e2]
              clear hb e1 e2
              refine ⟨HSw.out _ hB, ?_⟩
              try simp only [Act.put, List.setIfInBounds_toArray, List.set_cons_zero, List.set_cons_succ, List.getElem_toArray, List.getElem_cons_zero, List.getElem_cons_succ]
              have h3 : Box _ := ⟨st3 (HBo.out _ hB) HVl.out HZJ.out.2 HIs.out.2.2.2.2.2.1 hA n3 n4 g3.1 g3.2.1 g4.2.1 g3.2.2 g4.2.2 HW0.out⟩
              refine one_keep (i := 12) (by kernel_rfl) (keep_step rfl (by rfl) ?_)
              refine wp_store_mid 34 (.tmp 12) (.tmp 82) rfl Bm 0 V2.toArray rfl rfl h3.out.t1 hI.1 hI.2.1 ?_
              rw [List.toList_toArray]
              refine ⟨h3.out.s1, ?_⟩
              try simp only [Act.put, List.getElem_toArray, List.getElem_cons_zero, List.getElem_cons_succ]
              refine one_keep (i := 13) (by kernel_rfl) (keep_step rfl (by rfl) ?_)
              refine wp_store_mid 45 (.tmp 23) (.tmp 83) rfl b23 0 J2.toArray rfl rfl h3.out.t2 hI.2.2.1 hI.2.2.2 ?_
              rw [List.toList_toArray]
              refine ⟨h3.out.s2, ?_⟩
              try simp only [Act.put, List.getElem_toArray, List.getElem_cons_zero, List.getElem_cons_succ]
              refine one_keep (i := 14) (by kernel_rfl) (keep_step rfl (by rfl) ?_)
              refine wp_store_mid 43 (.tmp 24) (.tmp 84) rfl b24 0 (sa s1) rfl rfl h3.out.t3 HIs.out.1 (all_sa s1) ?_
              rw [HIs.out.2.1]
              refine ⟨h3.out.s3, ?_⟩
              try simp only [Act.put, List.getElem_toArray, List.getElem_cons_zero, List.getElem_cons_succ]
              refine take_s (i := 15) (v := ?_) rfl (by kernel_rfl) (by kernel_rfl) (by kernel_rfl) (fun _ _ _ h => h) (by rfl) ?_ h3.out.s3 ?_
              rotate_left
              · intro w' hLat; clear hLat; go_simp <;> with_reducible rfl
              try simp only [Act.put, List.setIfInBounds_toArray, List.set_cons_zero, List.set_cons_succ, List.getElem_toArray, List.getElem_cons_zero, List.getElem_cons_succ]
              refine wpAnyH_done (by kernel_rfl) ?_ _
              exact HRest.out b23 b24 ma mc V2 J2 _ h3.out.fz
            · refine keep_step rfl (by rfl) ?_
              unfold Oper.wp
              rw [exec_alloc 43 rfl _ zeroS13]
              obtain ⟨b24, e1⟩ : ∃ b, y3.heap.size = b := ⟨_, rfl⟩
              obtain ⟨y6, e2⟩ : ∃ y, y3.alloc (.cells (sa zs) 43) = y := ⟨_, rfl⟩
              have hb : Below y3.heap.size y3 y6 := by rw [← e2]; exact (nb_new _ _ _).2
              have n4 : Nb y6 b24 (sa zs) 43 := by rw [← e1, ← e2]; exact (nb_new _ _ _).1
              have g4 := HAl.out _ hB
              rw [e1] at g4
              have hB := HBd.out _ _ hB hb
              have hT := hT.below hb
              have hA := hA.below hb
              simp only [e1, e2]
              clear hb e1 e2
              refine ⟨HSw.out _ hB, ?_⟩
              try simp only [Act.put, List.setIfInBounds_toArray, List.set_cons_zero, List.set_cons_succ, List.getElem_toArray, List.getElem_cons_zero, List.getElem_cons_succ]
              refine one_keep (i := 10) (by kernel_rfl) ?_
              refine keep_step rfl (by rfl) ?_
              unfold Oper.wp
              rw [exec_alloc 45 rfl _ HZJ.out.1]
              obtain ⟨b23, e1⟩ : ∃ b, y6.heap.size = b := ⟨_, rfl⟩
              obtain ⟨y7, e2⟩ : ∃ y, y6.alloc (.cells ZJ 45) = y := ⟨_, rfl⟩
              have hb : Below y6.heap.size y6 y7 := by rw [← e2]; exact (nb_new _ _ _).2
              have n3 : Nb y7 b23 ZJ 45 := by rw [← e1, ← e2]; exact (nb_new _ _ _).1
              have g3 := HAl.out _ hB
              rw [e1] at g3
              have hB := HBd.out _ _ hB hb
              have hT := hT.below hb
              have hA := hA.below hb
              have n4 := n4.below hb
              simp only [e1, e2]
              clear hb e1 e2
              refine ⟨HSw.out _ hB, ?_⟩
              try simp only [Act.put, List.setIfInBounds_toArray, List.set_cons_zero, List.set_cons_succ, List.getElem_toArray, List.getElem_cons_zero, List.getElem_cons_succ]
              have h3 : Box _ := ⟨st3 (HBo.out _ hB) HVl.out HZJ.out.2 HIs.out.2.2.2.2.2.1 hA n3 n4 g3.1 g3.2.1 g4.2.1 g3.2.2 g4.2.2 HW0.out⟩
              refine one_keep (i := 12) (by kernel_rfl) (keep_step rfl (by rfl) ?_)
              refine wp_store_mid 34 (.tmp 12) (.tmp 82) rfl Bm 0 V2.toArray rfl rfl h3.out.t1 hI.1 hI.2.1 ?_
              rw [List.toList_toArray]
              refine ⟨h3.out.s1, ?_⟩
              try simp only [Act.put, List.getElem_toArray, List.getElem_cons_zero, List.getElem_cons_succ]
              refine one_keep (i := 13) (by kernel_rfl) (keep_step rfl (by rfl) ?_)
              refine wp_store_mid 45 (.tmp 23) (.tmp 83) rfl b23 0 J2.toArray rfl rfl h3.out.t2 hI.2.2.1 hI.2.2.2 ?_
              rw [List.toList_toArray]
              refine ⟨h3.out.s2, ?_⟩
              try simp only [Act.put, List.getElem_toArray, List.getElem_cons_zero, List.getElem_cons_succ]
              refine one_keep (i := 14) (by kernel_rfl) (keep_step rfl (by rfl) ?_)
              refine wp_store_mid 43 (.tmp 24) (.tmp 84) rfl b24 0 (sa s1) rfl rfl h3.out.t3 HIs.out.1 (all_sa s1) ?_
              rw [HIs.out.2.1]
              refine ⟨h3.out.s3, ?_⟩
              try simp only [Act.put, List.getElem_toArray, List.getElem_cons_zero, List.getElem_cons_succ]
              refine take_s (i := 15) (v := ?_) rfl (by kernel_rfl) (by kernel_rfl) (by kernel_rfl) (fun _ _ _ h => h) (by rfl) ?_ h3.out.s3 ?_
              rotate_left
              · intro w' hLat; clear hLat; go_simp <;> with_reducible rfl
              try simp only [Act.put, List.setIfInBounds_toArray, List.set_cons_zero, List.set_cons_succ, List.getElem_toArray, List.getElem_cons_zero, List.getElem_cons_succ]
              refine wpAnyH_done (by kernel_rfl) ?_ _
              exact HRest.out b23 b24 ma mc V2 J2 _ h3.out.fz
          · refine keep_step rfl (by rfl) ?_
            unfold Oper.wp
            rw [exec_alloc 45 rfl _ HZJ.out.1]
            obtain ⟨b23, e1⟩ : ∃ b, y2.heap.size = b := ⟨_, rfl⟩
            obtain ⟨y8, e2⟩ : ∃ y, y2.alloc (.cells ZJ 45) = y := ⟨_, rfl⟩
            have hb : Below y2.heap.size y2 y8 := by rw [← e2]; exact (nb_new _ _ _).2
            have n3 : Nb y8 b23 ZJ 45 := by rw [← e1, ← e2]; exact (nb_new _ _ _).1
            have g3 := HAl.out _ hB
            rw [e1] at g3
            have hB := HBd.out _ _ hB hb
            have hT := hT.below hb
            simp only [e1, e2]
            clear hb e1 e2
            refine ⟨HSw.out _ hB, ?_⟩
            try simp only [Act.put, List.setIfInBounds_toArray, List.set_cons_zero, List.set_cons_succ, List.getElem_toArray, List.getElem_cons_zero, List.getElem_cons_succ]
            refine two_keep (i := 4) (j := 11) (by kernel_rfl) ?_ ?_
            · refine keep_step rfl (by rfl) ?_
              go_simp
              refine Calls.mono (HRa.out _ ma mc hB hT) ?_
              rintro e y9 ⟨V2, J2, rfl, hA, hI, hb⟩
              have hB := HBd.out _ _ hB hb
              have hT := hT.below hb
              have n3 := n3.below hb
              clear hb
              refine ⟨HSw.out _ hB, ?_⟩
              try simp only [Act.put, List.setIfInBounds_toArray, List.set_cons_zero, List.set_cons_succ, List.getElem_toArray, List.getElem_cons_zero, List.getElem_cons_succ]
              refine take_s (i := 5) (v := ?_) rfl (by kernel_rfl) (by kernel_rfl) (by kernel_rfl) (fun _ _ _ h => h) (by rfl) ?_ (HSw.out _ hB) ?_
              rotate_left
              · intro w' hLat; clear hLat; go_simp <;> with_reducible rfl
              try simp only [Act.put, List.setIfInBounds_toArray, List.set_cons_zero, List.set_cons_succ, List.getElem_toArray, List.getElem_cons_zero, List.getElem_cons_succ]
              refine take_s (i := 6) (v := ?_) rfl (by kernel_rfl) (by kernel_rfl) (by kernel_rfl) (fun _ _ _ h => h) (by rfl) ?_ (HSw.out _ hB) ?_
              rotate_left
              · intro w' hLat; clear hLat; go_simp <;> with_reducible rfl
              try simp only [Act.put, List.setIfInBounds_toArray, List.set_cons_zero, List.set_cons_succ, List.getElem_toArray, List.getElem_cons_zero, List.getElem_cons_succ]
              refine take_s (i := 7) (v := ?_) rfl (by kernel_rfl) (by kernel_rfl) (by kernel_rfl) (fun _ _ _ h => h) (by rfl) ?_ (HSw.out _ hB) ?_
              rotate_left
              · intro w' hLat; clear hLat; go_simp <;> with_reducible rfl
              try simp only [Act.put, List.setIfInBounds_toArray, List.set_cons_zero, List.set_cons_succ, List.getElem_toArray, List.getElem_cons_zero, List.getElem_cons_succ]
              refine take_s (i := 8) (v := ?_) rfl (by kernel_rfl) (by kernel_rfl) (by kernel_rfl) (fun _ _ _ h => h) (by rfl) ?_ (HSw.out _ hB) ?_
              rotate_left
              · intro w' hLat; clear hLat; go_simp <;> with_reducible rfl
              try simp only [Act.put, List.setIfInBounds_toArray, List.set_cons_zero, List.set_cons_succ, List.getElem_toArray, List.getElem_cons_zero, List.getElem_cons_succ]
              refine take_s (i := 9) (v := ?_) rfl (by kernel_rfl) (by kernel_rfl) (by kernel_rfl) (fun _ _ _ h => h) (by rfl) ?_ (HSw.out _ hB) ?_
              rotate_left
              · intro w' hLat; clear hLat; go_simp <;> with_reducible rfl
              try simp only [Act.put, List.setIfInBounds_toArray, List.set_cons_zero, List.set_cons_succ, List.getElem_toArray, List.getElem_cons_zero, List.getElem_cons_succ]
              refine one_keep (i := 11) (by kernel_rfl) ?_
              refine keep_step rfl (by rfl) ?_
              unfold Oper.wp
              rw [exec_alloc 43 rfl _ zeroS13]
              obtain ⟨b24, e1⟩ : ∃ b, y9.heap.size = b := ⟨_, rfl⟩
              obtain ⟨y10, e2⟩ : ∃ y, y9.alloc (.cells (sa zs) 43) = y := ⟨_, rfl⟩
              have hb : Below y9.heap.size y9 y10 := by rw [← e2]; exact (nb_new _ _ _).2
              have n4 : Nb y10 b24 (sa zs) 43 := by rw [← e1, ← e2]; exact (nb_new _ _ _).1
              have g4 := HAl.out _ hB
              rw [e1] at g4
              have hB := HBd.out _ _ hB hb
              have hT := hT.below hb
              have hA := hA.below hb
              have n3 := n3.below hb
              simp only [e1, e2]
              clear hb e1 e2
              refine ⟨HSw.out _ hB, ?_⟩
              try simp only [Act.put, List.setIfInBounds_toArray, List.set_cons_zero, List.set_cons_succ, List.getElem_toArray, List.getElem_cons_zero, List.getElem_cons_succ]
              have h3 : Box _ := ⟨st3 (HBo.out _ hB) HVl.out HZJ.out.2 HIs.out.2.2.2.2.2.1 hA n3 n4 g3.1 g3.2.1 g4.2.1 g3.2.2 g4.2.2 HW0.out⟩
              refine one_keep (i := 12) (by kernel_rfl) (keep_step rfl (by rfl) ?_)
              refine wp_store_mid 34 (.tmp 12) (.tmp 82) rfl Bm 0 V2.toArray rfl rfl h3.out.t1 hI.1 hI.2.1 ?_
              rw [List.toList_toArray]
              refine ⟨h3.out.s1, ?_⟩
              try simp only [Act.put, List.getElem_toArray, List.getElem_cons_zero, List.getElem_cons_succ]
              refine one_keep (i := 13) (by kernel_rfl) (keep_step rfl (by rfl) ?_)
              refine wp_store_mid 45 (.tmp 23) (.tmp 83) rfl b23 0 J2.toArray rfl rfl h3.out.t2 hI.2.2.1 hI.2.2.2 ?_
              rw [List.toList_toArray]
              refine ⟨h3.out.s2, ?_⟩
              try simp only [Act.put, List.getElem_toArray, List.getElem_cons_zero, List.getElem_cons_succ]
              refine one_keep (i := 14) (by kernel_rfl) (keep_step rfl (by rfl) ?_)
              refine wp_store_mid 43 (.tmp 24) (.tmp 84) rfl b24 0 (sa s1) rfl rfl h3.out.t3 HIs.out.1 (all_sa s1) ?_
              rw [HIs.out.2.1]
              refine ⟨h3.out.s3, ?_⟩
              try simp only [Act.put, List.getElem_toArray, List.getElem_cons_zero, List.getElem_cons_succ]
              refine take_s (i := 15) (v := ?_) rfl (by kernel_rfl) (by kernel_rfl) (by kernel_rfl) (fun _ _ _ h => h) (by rfl) ?_ h3.out.s3 ?_
              rotate_left
              · intro w' hLat; clear hLat; go_simp <;> with_reducible rfl
              try simp only [Act.put, List.setIfInBounds_toArray, List.set_cons_zero, List.set_cons_succ, List.getElem_toArray, List.getElem_cons_zero, List.getElem_cons_succ]
              refine wpAnyH_done (by kernel_rfl) ?_ _
              exact HRest.out b23 b24 ma mc V2 J2 _ h3.out.fz
            · refine keep_step rfl (by rfl) ?_
              unfold Oper.wp
              rw [exec_alloc 43 rfl _ zeroS13]
              obtain ⟨b24, e1⟩ : ∃ b, y8.heap.size = b := ⟨_, rfl⟩
              obtain ⟨y11, e2⟩ : ∃ y, y8.alloc (.cells (sa zs) 43) = y := ⟨_, rfl⟩
              have hb : Below y8.heap.size y8 y11 := by rw [← e2]; exact (nb_new _ _ _).2
              have n4 : Nb y11 b24 (sa zs) 43 := by rw [← e1, ← e2]; exact (nb_new _ _ _).1
              have g4 := HAl.out _ hB
              rw [e1] at g4
              have hB := HBd.out _ _ hB hb
              have hT := hT.below hb
              have n3 := n3.below hb
              simp only [e1, e2]
              clear hb e1 e2
              refine ⟨HSw.out _ hB, ?_⟩
              try simp only [Act.put, List.setIfInBounds_toArray, List.set_cons_zero, List.set_cons_succ, List.getElem_toArray, List.getElem_cons_zero, List.getElem_cons_succ]
              refine one_keep (i := 4) (by kernel_rfl) ?_
              refine keep_step rfl (by rfl) ?_
              go_simp
              refine Calls.mono (HRa.out _ ma mc hB hT) ?_
              rintro e y12 ⟨V2, J2, rfl, hA, hI, hb⟩
              have hB := HBd.out _ _ hB hb
              have hT := hT.below hb
              have n3 := n3.below hb
              have n4 := n4.below hb
              clear hb
              refine ⟨HSw.out _ hB, ?_⟩
              try simp only [Act.put, List.setIfInBounds_toArray, List.set_cons_zero, List.set_cons_succ, List.getElem_toArray, List.getElem_cons_zero, List.getElem_cons_succ]
              refine take_s (i := 5) (v := ?_) rfl (by kernel_rfl) (by kernel_rfl) (by kernel_rfl) (fun _ _ _ h => h) (by rfl) ?_ (HSw.out _ hB) ?_
              rotate_left
              · intro w' hLat; clear hLat; go_simp <;> with_reducible rfl
              try simp only [Act.put, List.setIfInBounds_toArray, List.set_cons_zero, List.set_cons_succ, List.getElem_toArray, List.getElem_cons_zero, List.getElem_cons_succ]
              refine take_s (i := 6) (v := ?_) rfl (by kernel_rfl) (by kernel_rfl) (by kernel_rfl) (fun _ _ _ h => h) (by rfl) ?_ (HSw.out _ hB) ?_
              rotate_left
              · intro w' hLat; clear hLat; go_simp <;> with_reducible rfl
              try simp only [Act.put, List.setIfInBounds_toArray, List.set_cons_zero, List.set_cons_succ, List.getElem_toArray, List.getElem_cons_zero, List.getElem_cons_succ]
              refine take_s (i := 7) (v := ?_) rfl (by kernel_rfl) (by kernel_rfl) (by kernel_rfl) (fun _ _ _ h => h) (by rfl) ?_ (HSw.out _ hB) ?_
              rotate_left
              · intro w' hLat; clear hLat; go_simp <;> with_reducible rfl
              try simp only [Act.put, List.setIfInBounds_toArray, List.set_cons_zero, List.set_cons_succ, List.getElem_toArray, List.getElem_cons_zero, List.getElem_cons_succ]
              refine take_s (i := 8) (v := ?_) rfl (by kernel_rfl) (by kernel_rfl) (by kernel_rfl) (fun _ _ _ h => h) (by rfl) ?_ (HSw.out _ hB) ?_
              rotate_left
              · intro w' hLat; clear hLat; go_simp <;> with_reducible rfl
              try simp only [Act.put, List.setIfInBounds_toArray, List.set_cons_zero, List.set_cons_succ, List.getElem_toArray, List.getElem_cons_zero, List.getElem_cons_succ]
              refine take_s (i := 9) (v := ?_) rfl (by kernel_rfl) (by kernel_rfl) (by kernel_rfl) (fun _ _ _ h => h) (by rfl) ?_ (HSw.out _ hB) ?_
              rotate_left
              · intro w' hLat; clear hLat; go_simp <;> with_reducible rfl
              try simp only [Act.put, List.setIfInBounds_toArray, List.set_cons_zero, List.set_cons_succ, List.getElem_toArray, List.getElem_cons_zero, List.getElem_cons_succ]
              have h3 : Box _ := ⟨st3 (HBo.out _ hB) HVl.out HZJ.out.2 HIs.out.2.2.2.2.2.1 hA n3 n4 g3.1 g3.2.1 g4.2.1 g3.2.2 g4.2.2 HW0.out⟩
              refine one_keep (i := 12) (by kernel_rfl) (keep_step rfl (by rfl) ?_)
              refine wp_store_mid 34 (.tmp 12) (.tmp 82) rfl Bm 0 V2.toArray rfl rfl h3.out.t1 hI.1 hI.2.1 ?_
              rw [List.toList_toArray]
              refine ⟨h3.out.s1, ?_⟩
              try simp only [Act.put, List.getElem_toArray, List.getElem_cons_zero, List.getElem_cons_succ]
              refine one_keep (i := 13) (by kernel_rfl) (keep_step rfl (by rfl) ?_)
              refine wp_store_mid 45 (.tmp 23) (.tmp 83) rfl b23 0 J2.toArray rfl rfl h3.out.t2 hI.2.2.1 hI.2.2.2 ?_
              rw [List.toList_toArray]
              refine ⟨h3.out.s2, ?_⟩
              try simp only [Act.put, List.getElem_toArray, List.getElem_cons_zero, List.getElem_cons_succ]
              refine one_keep (i := 14) (by kernel_rfl) (keep_step rfl (by rfl) ?_)
              refine wp_store_mid 43 (.tmp 24) (.tmp 84) rfl b24 0 (sa s1) rfl rfl h3.out.t3 HIs.out.1 (all_sa s1) ?_
              rw [HIs.out.2.1]
              refine ⟨h3.out.s3, ?_⟩
              try simp only [Act.put, List.getElem_toArray, List.getElem_cons_zero, List.getElem_cons_succ]
              refine take_s (i := 15) (v := ?_) rfl (by kernel_rfl) (by kernel_rfl) (by kernel_rfl) (fun _ _ _ h => h) (by rfl) ?_ h3.out.s3 ?_
              rotate_left
              · intro w' hLat; clear hLat; go_simp <;> with_reducible rfl
              try simp only [Act.put, List.setIfInBounds_toArray, List.set_cons_zero, List.set_cons_succ, List.getElem_toArray, List.getElem_cons_zero, List.getElem_cons_succ]
              refine wpAnyH_done (by kernel_rfl) ?_ _
              exact HRest.out b23 b24 ma mc V2 J2 _ h3.out.fz
          · refine keep_step rfl (by rfl) ?_
            unfold Oper.wp
            rw [exec_alloc 43 rfl _ zeroS13]
            obtain ⟨b24, e1⟩ : ∃ b, y2.heap.size = b := ⟨_, rfl⟩
            obtain ⟨y13, e2⟩ : ∃ y, y2.alloc (.cells (sa zs) 43) = y := ⟨_, rfl⟩
            have hb : Below y2.heap.size y2 y13 := by rw [← e2]; exact (nb_new _ _ _).2
            have n4 : Nb y13 b24 (sa zs) 43 := by rw [← e1, ← e2]; exact (nb_new _ _ _).1
            have g4 := HAl.out _ hB
            rw [e1] at g4
            have hB := HBd.out _ _ hB hb
            have hT := hT.below hb
            simp only [e1, e2]
            clear hb e1 e2
            refine ⟨HSw.out _ hB, ?_⟩
            try simp only [Act.put, List.setIfInBounds_toArray, List.set_cons_zero, List.set_cons_succ, List.getElem_toArray, List.getElem_cons_zero, List.getElem_cons_succ]
            refine two_keep (i := 4) (j := 10) (by kernel_rfl) ?_ ?_
            · refine keep_step rfl (by rfl) ?_
              go_simp
              refine Calls.mono (HRa.out _ ma mc hB hT) ?_
              rintro e y14 ⟨V2, J2, rfl, hA, hI, hb⟩
              have hB := HBd.out _ _ hB hb
              have hT := hT.below hb
              have n4 := n4.below hb
              clear hb
              refine ⟨HSw.out _ hB, ?_⟩
              try simp only [Act.put, List.setIfInBounds_toArray, List.set_cons_zero, List.set_cons_succ, List.getElem_toArray, List.getElem_cons_zero, List.getElem_cons_succ]
              refine take_s (i := 5) (v := ?_) rfl (by kernel_rfl) (by kernel_rfl) (by kernel_rfl) (fun _ _ _ h => h) (by rfl) ?_ (HSw.out _ hB) ?_
              rotate_left
              · intro w' hLat; clear hLat; go_simp <;> with_reducible rfl
              try simp only [Act.put, List.setIfInBounds_toArray, List.set_cons_zero, List.set_cons_succ, List.getElem_toArray, List.getElem_cons_zero, List.getElem_cons_succ]
              refine take_s (i := 6) (v := ?_) rfl (by kernel_rfl) (by kernel_rfl) (by kernel_rfl) (fun _ _ _ h => h) (by rfl) ?_ (HSw.out _ hB) ?_
              rotate_left
              · intro w' hLat; clear hLat; go_simp <;> with_reducible rfl
              try simp only [Act.put, List.setIfInBounds_toArray, List.set_cons_zero, List.set_cons_succ, List.getElem_toArray, List.getElem_cons_zero, List.getElem_cons_succ]
              refine take_s (i := 7) (v := ?_) rfl (by kernel_rfl) (by kernel_rfl) (by kernel_rfl) (fun _ _ _ h => h) (by rfl) ?_ (HSw.out _ hB) ?_
              rotate_left
              · intro w' hLat; clear hLat; go_simp <;> with_reducible rfl
              try simp only [Act.put, List.setIfInBounds_toArray, List.set_cons_zero, List.set_cons_succ, List.getElem_toArray, List.getElem_cons_zero, List.getElem_cons_succ]
              refine take_s (i := 8) (v := ?_) rfl (by kernel_rfl) (by kernel_rfl) (by kernel_rfl) (fun _ _ _ h => h) (by rfl) ?_ (HSw.out _ hB) ?_
              rotate_left
              · intro w' hLat; clear hLat; go_simp <;> with_reducible rfl
              try simp only [Act.put, List.setIfInBounds_toArray, List.set_cons_zero, List.set_cons_succ, List.getElem_toArray, List.getElem_cons_zero, List.getElem_cons_succ]
              refine take_s (i := 9) (v := ?_) rfl (by kernel_rfl) (by kernel_rfl) (by kernel_rfl) (fun _ _ _ h => h) (by rfl) ?_ (HSw.out _ hB) ?_
              rotate_left
              · intro w' hLat; clear hLat; go_simp <;> with_reducible rfl
              try simp only [Act.put, List.setIfInBounds_toArray, List.set_cons_zero, List.set_cons_succ, List.getElem_toArray, List.getElem_cons_zero, List.getElem_cons_succ]
              refine one_keep (i := 10) (by kernel_rfl) ?_
              refine keep_step rfl (by rfl) ?_
              unfold Oper.wp
              rw [exec_alloc 45 rfl _ HZJ.out.1]
              obtain ⟨b23, e1⟩ : ∃ b, y14.heap.size = b := ⟨_, rfl⟩
              obtain ⟨y15, e2⟩ : ∃ y, y14.alloc (.cells ZJ 45) = y := ⟨_, rfl⟩
              have hb : Below y14.heap.size y14 y15 := by rw [← e2]; exact (nb_new _ _ _).2
              have n3 : Nb y15 b23 ZJ 45 := by rw [← e1, ← e2]; exact (nb_new _ _ _).1
              have g3 := HAl.out _ hB
              rw [e1] at g3
              have hB := HBd.out _ _ hB hb
              have hT := hT.below hb
              have hA := hA.below hb
              have n4 := n4.below hb
              simp only [e1, e2]
              clear hb e1 e2
              refine ⟨HSw.out _ hB, ?_⟩
              try simp only [Act.put, List.setIfInBounds_toArray, List.set_cons_zero, List.set_cons_succ, List.getElem_toArray, List.getElem_cons_zero, List.getElem_cons_succ]
              have h3 : Box _ := ⟨st3 (HBo.out _ hB) HVl.out HZJ.out.2 HIs.out.2.2.2.2.2.1 hA n3 n4 g3.1 g3.2.1 g4.2.1 g3.2.2 g4.2.2 HW0.out⟩
              refine one_keep (i := 12) (by kernel_rfl) (keep_step rfl (by rfl) ?_)
              refine wp_store_mid 34 (.tmp 12) (.tmp 82) rfl Bm 0 V2.toArray rfl rfl h3.out.t1 hI.1 hI.2.1 ?_
              rw [List.toList_toArray]
              refine ⟨h3.out.s1, ?_⟩
              try simp only [Act.put, List.getElem_toArray, List.getElem_cons_zero, List.getElem_cons_succ]
              refine one_keep (i := 13) (by kernel_rfl) (keep_step rfl (by rfl) ?_)
              refine wp_store_mid 45 (.tmp 23) (.tmp 83) rfl b23 0 J2.toArray rfl rfl h3.out.t2 hI.2.2.1 hI.2.2.2 ?_
              rw [List.toList_toArray]
              refine ⟨h3.out.s2, ?_⟩
              try simp only [Act.put, List.getElem_toArray, List.getElem_cons_zero, List.getElem_cons_succ]
              refine one_keep (i := 14) (by kernel_rfl) (keep_step rfl (by rfl) ?_)
              refine wp_store_mid 43 (.tmp 24) (.tmp 84) rfl b24 0 (sa s1) rfl rfl h3.out.t3 HIs.out.1 (all_sa s1) ?_
              rw [HIs.out.2.1]
              refine ⟨h3.out.s3, ?_⟩
              try simp only [Act.put, List.getElem_toArray, List.getElem_cons_zero, List.getElem_cons_succ]
              refine take_s (i := 15) (v := ?_) rfl (by kernel_rfl) (by kernel_rfl) (by kernel_rfl) (fun _ _ _ h => h) (by rfl) ?_ h3.out.s3 ?_
              rotate_left
              · intro w' hLat; clear hLat; go_simp <;> with_reducible rfl
              try simp only [Act.put, List.setIfInBounds_toArray, List.set_cons_zero, List.set_cons_succ, List.getElem_toArray, List.getElem_cons_zero, List.getElem_cons_succ]
              refine wpAnyH_done (by kernel_rfl) ?_ _
              exact HRest.out b23 b24 ma mc V2 J2 _ h3.out.fz
            · refine keep_step rfl (by rfl) ?_
              unfold Oper.wp
              rw [exec_alloc 45 rfl _ HZJ.out.1]
              obtain ⟨b23, e1⟩ : ∃ b, y13.heap.size = b := ⟨_, rfl⟩
              obtain ⟨y16, e2⟩ : ∃ y, y13.alloc (.cells ZJ 45) = y := ⟨_, rfl⟩
              have hb : Below y13.heap.size y13 y16 := by rw [← e2]; exact (nb_new _ _ _).2
              have n3 : Nb y16 b23 ZJ 45 := by rw [← e1, ← e2]; exact (nb_new _ _ _).1
              have g3 := HAl.out _ hB
              rw [e1] at g3
              have hB := HBd.out _ _ hB hb
              have hT := hT.below hb
              have n4 := n4.below hb
              simp only [e1, e2]
              clear hb e1 e2
              refine ⟨HSw.out _ hB, ?_⟩
              try simp only [Act.put, List.setIfInBounds_toArray, List.set_cons_zero, List.set_cons_succ, List.getElem_toArray, List.getElem_cons_zero, List.getElem_cons_succ]
              refine one_keep (i := 4) (by kernel_rfl) ?_
              refine keep_step rfl (by rfl) ?_
              go_simp
              refine Calls.mono (HRa.out _ ma mc hB hT) ?_
              rintro e y17 ⟨V2, J2, rfl, hA, hI, hb⟩
              have hB := HBd.out _ _ hB hb
              have hT := hT.below hb
              have n3 := n3.below hb
              have n4 := n4.below hb
              clear hb
              refine ⟨HSw.out _ hB, ?_⟩
              try simp only [Act.put, List.setIfInBounds_toArray, List.set_cons_zero, List.set_cons_succ, List.getElem_toArray, List.getElem_cons_zero, List.getElem_cons_succ]
              refine take_s (i := 5) (v := ?_) rfl (by kernel_rfl) (by kernel_rfl) (by kernel_rfl) (fun _ _ _ h => h) (by rfl) ?_ (HSw.out _ hB) ?_
              rotate_left
              · intro w' hLat; clear hLat; go_simp <;> with_reducible rfl
              try simp only [Act.put, List.setIfInBounds_toArray, List.set_cons_zero, List.set_cons_succ, List.getElem_toArray, List.getElem_cons_zero, List.getElem_cons_succ]
              refine take_s (i := 6) (v := ?_) rfl (by kernel_rfl) (by kernel_rfl) (by kernel_rfl) (fun _ _ _ h => h) (by rfl) ?_ (HSw.out _ hB) ?_
              rotate_left
              · intro w' hLat; clear hLat; go_simp <;> with_reducible rfl
              try simp only [Act.put, List.setIfInBounds_toArray, List.set_cons_zero, List.set_cons_succ, List.getElem_toArray, List.getElem_cons_zero, List.getElem_cons_succ]
              refine take_s (i := 7) (v := ?_) rfl (by kernel_rfl) (by kernel_rfl) (by kernel_rfl) (fun _ _ _ h => h) (by rfl) ?_ (HSw.out _ hB) ?_
              rotate_left
              · intro w' hLat; clear hLat; go_simp <;> with_reducible rfl
              try simp only [Act.put, List.setIfInBounds_toArray, List.set_cons_zero, List.set_cons_succ, List.getElem_toArray, List.getElem_cons_zero, List.getElem_cons_succ]
              refine take_s (i := 8) (v := ?_) rfl (by kernel_rfl) (by kernel_rfl) (by kernel_rfl) (fun _ _ _ h => h) (by rfl) ?_ (HSw.out _ hB) ?_
              rotate_left
              · intro w' hLat; clear hLat; go_simp <;> with_reducible rfl
              try simp only [Act.put, List.setIfInBounds_toArray, List.set_cons_zero, List.set_cons_succ, List.getElem_toArray, List.getElem_cons_zero, List.getElem_cons_succ]
              refine take_s (i := 9) (v := ?_) rfl (by kernel_rfl) (by kernel_rfl) (by kernel_rfl) (fun _ _ _ h => h) (by rfl) ?_ (HSw.out _ hB) ?_
              rotate_left
              · intro w' hLat; clear hLat; go_simp <;> with_reducible rfl
              try simp only [Act.put, List.setIfInBounds_toArray, List.set_cons_zero, List.set_cons_succ, List.getElem_toArray, List.getElem_cons_zero, List.getElem_cons_succ]
              have h3 : Box _ := ⟨st3 (HBo.out _ hB) HVl.out HZJ.out.2 HIs.out.2.2.2.2.2.1 hA n3 n4 g3.1 g3.2.1 g4.2.1 g3.2.2 g4.2.2 HW0.out⟩
              refine one_keep (i := 12) (by kernel_rfl) (keep_step rfl (by rfl) ?_)
              refine wp_store_mid 34 (.tmp 12) (.tmp 82) rfl Bm 0 V2.toArray rfl rfl h3.out.t1 hI.1 hI.2.1 ?_
              rw [List.toList_toArray]
              refine ⟨h3.out.s1, ?_⟩
              try simp only [Act.put, List.getElem_toArray, List.getElem_cons_zero, List.getElem_cons_succ]
              refine one_keep (i := 13) (by kernel_rfl) (keep_step rfl (by rfl) ?_)
              refine wp_store_mid 45 (.tmp 23) (.tmp 83) rfl b23 0 J2.toArray rfl rfl h3.out.t2 hI.2.2.1 hI.2.2.2 ?_
              rw [List.toList_toArray]
              refine ⟨h3.out.s2, ?_⟩
              try simp only [Act.put, List.getElem_toArray, List.getElem_cons_zero, List.getElem_cons_succ]
              refine one_keep (i := 14) (by kernel_rfl) (keep_step rfl (by rfl) ?_)
              refine wp_store_mid 43 (.tmp 24) (.tmp 84) rfl b24 0 (sa s1) rfl rfl h3.out.t3 HIs.out.1 (all_sa s1) ?_
              rw [HIs.out.2.1]
              refine ⟨h3.out.s3, ?_⟩
              try simp only [Act.put, List.getElem_toArray, List.getElem_cons_zero, List.getElem_cons_succ]
              refine take_s (i := 15) (v := ?_) rfl (by kernel_rfl) (by kernel_rfl) (by kernel_rfl) (fun _ _ _ h => h) (by rfl) ?_ h3.out.s3 ?_
              rotate_left
              · intro w' hLat; clear hLat; go_simp <;> with_reducible rfl
              try simp only [Act.put, List.setIfInBounds_toArray, List.set_cons_zero, List.set_cons_succ, List.getElem_toArray, List.getElem_cons_zero, List.getElem_cons_succ]
              refine wpAnyH_done (by kernel_rfl) ?_ _
              exact HRest.out b23 b24 ma mc V2 J2 _ h3.out.fz
      · as_aux_lemma =>
          refine keep_step rfl (by rfl) ?_
          unfold Oper.wp
          rw [exec_alloc 45 rfl _ HZJ.out.1]
          obtain ⟨b23, e1⟩ : ∃ b, wd.heap.size = b := ⟨_, rfl⟩
          obtain ⟨y18, e2⟩ : ∃ y, wd.alloc (.cells ZJ 45) = y := ⟨_, rfl⟩
          have hb : Below wd.heap.size wd y18 := by rw [← e2]; exact (nb_new _ _ _).2
          have n3 : Nb y18 b23 ZJ 45 := by rw [← e1, ← e2]; exact (nb_new _ _ _).1
          have g3 := HAl.out _ hB
          rw [e1] at g3
          have hB := HBd.out _ _ hB hb
          simp only [e1, e2]
          clear hb e1 e2
          refine ⟨HSw.out _ hB, ?_⟩
          try simp only [Act.put, List.setIfInBounds_toArray, List.set_cons_zero, List.set_cons_succ, List.getElem_toArray, List.getElem_cons_zero, List.getElem_cons_succ]
          refine two_keep (i := 3) (j := 11) (by kernel_rfl) ?_ ?_
          · refine keep_step rfl (by rfl) ?_
            go_simp
            refine Calls.mono (HMo.out _ hB) ?_
            rintro e y19 ⟨ma, mc, rfl, hT, hb⟩
            have hB := HBd.out _ _ hB hb
            have n3 := n3.below hb
            clear hb
            refine ⟨HSw.out _ hB, ?_⟩
            try simp only [Act.put, List.setIfInBounds_toArray, List.set_cons_zero, List.set_cons_succ, List.getElem_toArray, List.getElem_cons_zero, List.getElem_cons_succ]
            refine two_keep (i := 4) (j := 11) (by kernel_rfl) ?_ ?_
            · refine keep_step rfl (by rfl) ?_
              go_simp
              refine Calls.mono (HRa.out _ ma mc hB hT) ?_
              rintro e y20 ⟨V2, J2, rfl, hA, hI, hb⟩
              have hB := HBd.out _ _ hB hb
              have hT := hT.below hb
              have n3 := n3.below hb
              clear hb
              refine ⟨HSw.out _ hB, ?_⟩
              try simp only [Act.put, List.setIfInBounds_toArray, List.set_cons_zero, List.set_cons_succ, List.getElem_toArray, List.getElem_cons_zero, List.getElem_cons_succ]
              refine take_s (i := 5) (v := ?_) rfl (by kernel_rfl) (by kernel_rfl) (by kernel_rfl) (fun _ _ _ h => h) (by rfl) ?_ (HSw.out _ hB) ?_
              rotate_left
              · intro w' hLat; clear hLat; go_simp <;> with_reducible rfl
              try simp only [Act.put, List.setIfInBounds_toArray, List.set_cons_zero, List.set_cons_succ, List.getElem_toArray, List.getElem_cons_zero, List.getElem_cons_succ]
              refine take_s (i := 6) (v := ?_) rfl (by kernel_rfl) (by kernel_rfl) (by kernel_rfl) (fun _ _ _ h => h) (by rfl) ?_ (HSw.out _ hB) ?_
              rotate_left
              · intro w' hLat; clear hLat; go_simp <;> with_reducible rfl
              try simp only [Act.put, List.setIfInBounds_toArray, List.set_cons_zero, List.set_cons_succ, List.getElem_toArray, List.getElem_cons_zero, List.getElem_cons_succ]
              refine take_s (i := 7) (v := ?_) rfl (by kernel_rfl) (by kernel_rfl) (by kernel_rfl) (fun _ _ _ h => h) (by rfl) ?_ (HSw.out _ hB) ?_
              rotate_left
              · intro w' hLat; clear hLat; go_simp <;> with_reducible rfl
              try simp only [Act.put, List.setIfInBounds_toArray, List.set_cons_zero, List.set_cons_succ, List.getElem_toArray, List.getElem_cons_zero, List.getElem_cons_succ]
              refine take_s (i := 8) (v := ?_) rfl (by kernel_rfl) (by kernel_rfl) (by kernel_rfl) (fun _ _ _ h => h) (by rfl) ?_ (HSw.out _ hB) ?_
              rotate_left
              · intro w' hLat; clear hLat; go_simp <;> with_reducible rfl
              try simp only [Act.put, List.setIfInBounds_toArray, List.set_cons_zero, List.set_cons_succ, List.getElem_toArray, List.getElem_cons_zero, List.getElem_cons_succ]
              refine take_s (i := 9) (v := ?_) rfl (by kernel_rfl) (by kernel_rfl) (by kernel_rfl) (fun _ _ _ h => h) (by rfl) ?_ (HSw.out _ hB) ?_
              rotate_left
              · intro w' hLat; clear hLat; go_simp <;> with_reducible rfl
              try simp only [Act.put, List.setIfInBounds_toArray, List.set_cons_zero, List.set_cons_succ, List.getElem_toArray, List.getElem_cons_zero, List.getElem_cons_succ]
              refine one_keep (i := 11) (by kernel_rfl) ?_
              refine keep_step rfl (by rfl) ?_
              unfold Oper.wp
              rw [exec_alloc 43 rfl _ zeroS13]
              obtain ⟨b24, e1⟩ : ∃ b, y20.heap.size = b := ⟨_, rfl⟩
              obtain ⟨y21, e2⟩ : ∃ y, y20.alloc (.cells (sa zs) 43) = y := ⟨_, rfl⟩
              have hb : Below y20.heap.size y20 y21 := by rw [← e2]; exact (nb_new _ _ _).2
              have n4 : Nb y21 b24 (sa zs) 43 := by rw [← e1, ← e2]; exact (nb_new _ _ _).1
              have g4 := HAl.out _ hB
              rw [e1] at g4
              have hB := HBd.out _ _ hB hb
              have hT := hT.below hb
              have hA := hA.below hb
              have n3 := n3.below hb
              simp only [e1, e2]
              clear hb e1 e2
              refine ⟨HSw.out _ hB, ?_⟩
              try simp only [Act.put, List.setIfInBounds_toArray, List.set_cons_zero, List.set_cons_succ, List.getElem_toArray, List.getElem_cons_zero, List.getElem_cons_succ]
              have h3 : Box _ := ⟨st3 (HBo.out _ hB) HVl.out HZJ.out.2 HIs.out.2.2.2.2.2.1 hA n3 n4 g3.1 g3.2.1 g4.2.1 g3.2.2 g4.2.2 HW0.out⟩
              refine one_keep (i := 12) (by kernel_rfl) (keep_step rfl (by rfl) ?_)
              refine wp_store_mid 34 (.tmp 12) (.tmp 82) rfl Bm 0 V2.toArray rfl rfl h3.out.t1 hI.1 hI.2.1 ?_
              rw [List.toList_toArray]
              refine ⟨h3.out.s1, ?_⟩
              try simp only [Act.put, List.getElem_toArray, List.getElem_cons_zero, List.getElem_cons_succ]
              refine one_keep (i := 13) (by kernel_rfl) (keep_step rfl (by rfl) ?_)
              refine wp_store_mid 45 (.tmp 23) (.tmp 83) rfl b23 0 J2.toArray rfl rfl h3.out.t2 hI.2.2.1 hI.2.2.2 ?_
              rw [List.toList_toArray]
              refine ⟨h3.out.s2, ?_⟩
              try simp only [Act.put, List.getElem_toArray, List.getElem_cons_zero, List.getElem_cons_succ]
              refine one_keep (i := 14) (by kernel_rfl) (keep_step rfl (by rfl) ?_)
              refine wp_store_mid 43 (.tmp 24) (.tmp 84) rfl b24 0 (sa s1) rfl rfl h3.out.t3 HIs.out.1 (all_sa s1) ?_
              rw [HIs.out.2.1]
              refine ⟨h3.out.s3, ?_⟩
              try simp only [Act.put, List.getElem_toArray, List.getElem_cons_zero, List.getElem_cons_succ]
              refine take_s (i := 15) (v := ?_) rfl (by kernel_rfl) (by kernel_rfl) (by kernel_rfl) (fun _ _ _ h => h) (by rfl) ?_ h3.out.s3 ?_
              rotate_left
              · intro w' hLat; clear hLat; go_simp <;> with_reducible rfl
              try simp only [Act.put, List.setIfInBounds_toArray, List.set_cons_zero, List.set_cons_succ, List.getElem_toArray, List.getElem_cons_zero, List.getElem_cons_succ]
              refine wpAnyH_done (by kernel_rfl) ?_ _
              exact HRest.out b23 b24 ma mc V2 J2 _ h3.out.fz
            · refine keep_step rfl (by rfl) ?_
              unfold Oper.wp
              rw [exec_alloc 43 rfl _ zeroS13]
              obtain ⟨b24, e1⟩ : ∃ b, y19.heap.size = b := ⟨_, rfl⟩
              obtain ⟨y22, e2⟩ : ∃ y, y19.alloc (.cells (sa zs) 43) = y := ⟨_, rfl⟩
              have hb : Below y19.heap.size y19 y22 := by rw [← e2]; exact (nb_new _ _ _).2
              have n4 : Nb y22 b24 (sa zs) 43 := by rw [← e1, ← e2]; exact (nb_new _ _ _).1
              have g4 := HAl.out _ hB
              rw [e1] at g4
              have hB := HBd.out _ _ hB hb
              have hT := hT.below hb
              have n3 := n3.below hb
              simp only [e1, e2]
              clear hb e1 e2
              refine ⟨HSw.out _ hB, ?_⟩
              try simp only [Act.put, List.setIfInBounds_toArray, List.set_cons_zero, List.set_cons_succ, List.getElem_toArray, List.getElem_cons_zero, List.getElem_cons_succ]
              refine one_keep (i := 4) (by kernel_rfl) ?_
              refine keep_step rfl (by rfl) ?_
              go_simp
              refine Calls.mono (HRa.out _ ma mc hB hT) ?_
              rintro e y23 ⟨V2, J2, rfl, hA, hI, hb⟩
              have hB := HBd.out _ _ hB hb
              have hT := hT.below hb
              have n3 := n3.below hb
              have n4 := n4.below hb
              clear hb
              refine ⟨HSw.out _ hB, ?_⟩
              try simp only [Act.put, List.setIfInBounds_toArray, List.set_cons_zero, List.set_cons_succ, List.getElem_toArray, List.getElem_cons_zero, List.getElem_cons_succ]
              refine take_s (i := 5) (v := ?_) rfl (by kernel_rfl) (by kernel_rfl) (by kernel_rfl) (fun _ _ _ h => h) (by rfl) ?_ (HSw.out _ hB) ?_
              rotate_left
              · intro w' hLat; clear hLat; go_simp <;> with_reducible rfl
              try simp only [Act.put, List.setIfInBounds_toArray, List.set_cons_zero, List.set_cons_succ, List.getElem_toArray, List.getElem_cons_zero, List.getElem_cons_succ]
              refine take_s (i := 6) (v := ?_) rfl (by kernel_rfl) (by kernel_rfl) (by kernel_rfl) (fun _ _ _ h => h) (by rfl) ?_ (HSw.out _ hB) ?_
              rotate_left
              · intro w' hLat; clear hLat; go_simp <;> with_reducible rfl
              try simp only [Act.put, List.setIfInBounds_toArray, List.set_cons_zero, List.set_cons_succ, List.getElem_toArray, List.getElem_cons_zero, List.getElem_cons_succ]
              refine take_s (i := 7) (v := ?_) rfl (by kernel_rfl) (by kernel_rfl) (by kernel_rfl) (fun _ _ _ h => h) (by rfl) ?_ (HSw.out _ hB) ?_
              rotate_left
              · intro w' hLat; clear hLat; go_simp <;> with_reducible rfl
              try simp only [Act.put, List.setIfInBounds_toArray, List.set_cons_zero, List.set_cons_succ, List.getElem_toArray, List.getElem_cons_zero, List.getElem_cons_succ]
              refine take_s (i := 8) (v := ?_) rfl (by kernel_rfl) (by kernel_rfl) (by kernel_rfl) (fun _ _ _ h => h) (by rfl) ?_ (HSw.out _ hB) ?_
              rotate_left
              · intro w' hLat; clear hLat; go_simp <;> with_reducible rfl
              try simp only [Act.put, List.setIfInBounds_toArray, List.set_cons_zero, List.set_cons_succ, List.getElem_toArray, List.getElem_cons_zero, List.getElem_cons_succ]
              refine take_s (i := 9) (v := ?_) rfl (by kernel_rfl) (by kernel_rfl) (by kernel_rfl) (fun _ _ _ h => h) (by rfl) ?_ (HSw.out _ hB) ?_
              rotate_left
              · intro w' hLat; clear hLat; go_simp <;> with_reducible rfl
              try simp only [Act.put, List.setIfInBounds_toArray, List.set_cons_zero, List.set_cons_succ, List.getElem_toArray, List.getElem_cons_zero, List.getElem_cons_succ]
              have h3 : Box _ := ⟨st3 (HBo.out _ hB) HVl.out HZJ.out.2 HIs.out.2.2.2.2.2.1 hA n3 n4 g3.1 g3.2.1 g4.2.1 g3.2.2 g4.2.2 HW0.out⟩
              refine one_keep (i := 12) (by kernel_rfl) (keep_step rfl (by rfl) ?_)
              refine wp_store_mid 34 (.tmp 12) (.tmp 82) rfl Bm 0 V2.toArray rfl rfl h3.out.t1 hI.1 hI.2.1 ?_
              rw [List.toList_toArray]
              refine ⟨h3.out.s1, ?_⟩
              try simp only [Act.put, List.getElem_toArray, List.getElem_cons_zero, List.getElem_cons_succ]
              refine one_keep (i := 13) (by kernel_rfl) (keep_step rfl (by rfl) ?_)
              refine wp_store_mid 45 (.tmp 23) (.tmp 83) rfl b23 0 J2.toArray rfl rfl h3.out.t2 hI.2.2.1 hI.2.2.2 ?_
              rw [List.toList_toArray]
              refine ⟨h3.out.s2, ?_⟩
              try simp only [Act.put, List.getElem_toArray, List.getElem_cons_zero, List.getElem_cons_succ]
              refine one_keep (i := 14) (by kernel_rfl) (keep_step rfl (by rfl) ?_)
              refine wp_store_mid 43 (.tmp 24) (.tmp 84) rfl b24 0 (sa s1) rfl rfl h3.out.t3 HIs.out.1 (all_sa s1) ?_
              rw [HIs.out.2.1]
              refine ⟨h3.out.s3, ?_⟩
              try simp only [Act.put, List.getElem_toArray, List.getElem_cons_zero, List.getElem_cons_succ]
              refine take_s (i := 15) (v := ?_) rfl (by kernel_rfl) (by kernel_rfl) (by kernel_rfl) (fun _ _ _ h => h) (by rfl) ?_ h3.out.s3 ?_
              rotate_left
              · intro w' hLat; clear hLat; go_simp <;> with_reducible rfl
              try simp only [Act.put, List.setIfInBounds_toArray, List.set_cons_zero, List.set_cons_succ, List.getElem_toArray, List.getElem_cons_zero, List.getElem_cons_succ]
              refine wpAnyH_done (by kernel_rfl) ?_ _
              exact HRest.out b23 b24 ma mc V2 J2 _ h3.out.fz
          · refine keep_step rfl (by rfl) ?_
            unfold Oper.wp
            rw [exec_alloc 43 rfl _ zeroS13]
            obtain ⟨b24, e1⟩ : ∃ b, y18.heap.size = b := ⟨_, rfl⟩
            obtain ⟨y24, e2⟩ : ∃ y, y18.alloc (.cells (sa zs) 43) = y := ⟨_, rfl⟩
            have hb : Below y18.heap.size y18 y24 := by rw [← e2]; exact (nb_new _ _ _).2
            have n4 : Nb y24 b24 (sa zs) 43 := by rw [← e1, ← e2]; exact (nb_new _ _ _).1
            have g4 := HAl.out _ hB
            rw [e1] at g4
            have hB := HBd.out _ _ hB hb
            have n3 := n3.below hb
            simp only [e1, e2]
            clear hb e1 e2
            refine ⟨HSw.out _ hB, ?_⟩
            try simp only [Act.put, List.setIfInBounds_toArray, List.set_cons_zero, List.set_cons_succ, List.getElem_toArray, List.getElem_cons_zero, List.getElem_cons_succ]
            refine one_keep (i := 3) (by kernel_rfl) ?_
            refine keep_step rfl (by rfl) ?_
            go_simp
            refine Calls.mono (HMo.out _ hB) ?_
            rintro e y25 ⟨ma, mc, rfl, hT, hb⟩
            have hB := HBd.out _ _ hB hb
            have n3 := n3.below hb
            have n4 := n4.below hb
            clear hb
            refine ⟨HSw.out _ hB, ?_⟩
            try simp only [Act.put, List.setIfInBounds_toArray, List.set_cons_zero, List.set_cons_succ, List.getElem_toArray, List.getElem_cons_zero, List.getElem_cons_succ]
            refine one_keep (i := 4) (by kernel_rfl) ?_
            refine keep_step rfl (by rfl) ?_
            go_simp
            refine Calls.mono (HRa.out _ ma mc hB hT) ?_
            rintro e y26 ⟨V2, J2, rfl, hA, hI, hb⟩
            have hB := HBd.out _ _ hB hb
            have hT := hT.below hb
            have n3 := n3.below hb
            have n4 := n4.below hb
            clear hb
            refine ⟨HSw.out _ hB, ?_⟩
            try simp only [Act.put, List.setIfInBounds_toArray, List.set_cons_zero, List.set_cons_succ, List.getElem_toArray, List.getElem_cons_zero, List.getElem_cons_succ]
            refine take_s (i := 5) (v := ?_) rfl (by kernel_rfl) (by kernel_rfl) (by kernel_rfl) (fun _ _ _ h => h) (by rfl) ?_ (HSw.out _ hB) ?_
            rotate_left
            · intro w' hLat; clear hLat; go_simp <;> with_reducible rfl
            try simp only [Act.put, List.setIfInBounds_toArray, List.set_cons_zero, List.set_cons_succ, List.getElem_toArray, List.getElem_cons_zero, List.getElem_cons_succ]
            refine take_s (i := 6) (v := ?_) rfl (by kernel_rfl) (by kernel_rfl) (by kernel_rfl) (fun _ _ _ h => h) (by rfl) ?_ (HSw.out _ hB) ?_
            rotate_left
            · intro w' hLat; clear hLat; go_simp <;> with_reducible rfl
            try simp only [Act.put, List.setIfInBounds_toArray, List.set_cons_zero, List.set_cons_succ, List.getElem_toArray, List.getElem_cons_zero, List.getElem_cons_succ]
            refine take_s (i := 7) (v := ?_) rfl (by kernel_rfl) (by kernel_rfl) (by kernel_rfl) (fun _ _ _ h => h) (by rfl) ?_ (HSw.out _ hB) ?_
            rotate_left
            · intro w' hLat; clear hLat; go_simp <;> with_reducible rfl
            try simp only [Act.put, List.setIfInBounds_toArray, List.set_cons_zero, List.set_cons_succ, List.getElem_toArray, List.getElem_cons_zero, List.getElem_cons_succ]
            refine take_s (i := 8) (v := ?_) rfl (by kernel_rfl) (by kernel_rfl) (by kernel_rfl) (fun _ _ _ h => h) (by rfl) ?_ (HSw.out _ hB) ?_
            rotate_left
            · intro w' hLat; clear hLat; go_simp <;> with_reducible rfl
            try simp only [Act.put, List.setIfInBounds_toArray, List.set_cons_zero, List.set_cons_succ, List.getElem_toArray, List.getElem_cons_zero, List.getElem_cons_succ]
            refine take_s (i := 9) (v := ?_) rfl (by kernel_rfl) (by kernel_rfl) (by kernel_rfl) (fun _ _ _ h => h) (by rfl) ?_ (HSw.out _ hB) ?_
            rotate_left
            · intro w' hLat; clear hLat; go_simp <;> with_reducible rfl
            try simp only [Act.put, List.setIfInBounds_toArray, List.set_cons_zero, List.set_cons_succ, List.getElem_toArray, List.getElem_cons_zero, List.getElem_cons_succ]
            have h3 : Box _ := ⟨st3 (HBo.out _ hB) HVl.out HZJ.out.2 HIs.out.2.2.2.2.2.1 hA n3 n4 g3.1 g3.2.1 g4.2.1 g3.2.2 g4.2.2 HW0.out⟩
            refine one_keep (i := 12) (by kernel_rfl) (keep_step rfl (by rfl) ?_)
            refine wp_store_mid 34 (.tmp 12) (.tmp 82) rfl Bm 0 V2.toArray rfl rfl h3.out.t1 hI.1 hI.2.1 ?_
            rw [List.toList_toArray]
            refine ⟨h3.out.s1, ?_⟩
            try simp only [Act.put, List.getElem_toArray, List.getElem_cons_zero, List.getElem_cons_succ]
            refine one_keep (i := 13) (by kernel_rfl) (keep_step rfl (by rfl) ?_)
            refine wp_store_mid 45 (.tmp 23) (.tmp 83) rfl b23 0 J2.toArray rfl rfl h3.out.t2 hI.2.2.1 hI.2.2.2 ?_
            rw [List.toList_toArray]
            refine ⟨h3.out.s2, ?_⟩
            try simp only [Act.put, List.getElem_toArray, List.getElem_cons_zero, List.getElem_cons_succ]
            refine one_keep (i := 14) (by kernel_rfl) (keep_step rfl (by rfl) ?_)
            refine wp_store_mid 43 (.tmp 24) (.tmp 84) rfl b24 0 (sa s1) rfl rfl h3.out.t3 HIs.out.1 (all_sa s1) ?_
            rw [HIs.out.2.1]
            refine ⟨h3.out.s3, ?_⟩
            try simp only [Act.put, List.getElem_toArray, List.getElem_cons_zero, List.getElem_cons_succ]
            refine take_s (i := 15) (v := ?_) rfl (by kernel_rfl) (by kernel_rfl) (by kernel_rfl) (fun _ _ _ h => h) (by rfl) ?_ h3.out.s3 ?_
            rotate_left
            · intro w' hLat; clear hLat; go_simp <;> with_reducible rfl
            try simp only [Act.put, List.setIfInBounds_toArray, List.set_cons_zero, List.set_cons_succ, List.getElem_toArray, List.getElem_cons_zero, List.getElem_cons_succ]
            refine wpAnyH_done (by kernel_rfl) ?_ _
            exact HRest.out b23 b24 ma mc V2 J2 _ h3.out.fz
      · as_aux_lemma =>
          refine keep_step rfl (by rfl) ?_
          unfold Oper.wp
          rw [exec_alloc 43 rfl _ zeroS13]
          obtain ⟨b24, e1⟩ : ∃ b, wd.heap.size = b := ⟨_, rfl⟩
          obtain ⟨y27, e2⟩ : ∃ y, wd.alloc (.cells (sa zs) 43) = y := ⟨_, rfl⟩
          have hb : Below wd.heap.size wd y27 := by rw [← e2]; exact (nb_new _ _ _).2
          have n4 : Nb y27 b24 (sa zs) 43 := by rw [← e1, ← e2]; exact (nb_new _ _ _).1
          have g4 := HAl.out _ hB
          rw [e1] at g4
          have hB := HBd.out _ _ hB hb
          simp only [e1, e2]
          clear hb e1 e2
          refine ⟨HSw.out _ hB, ?_⟩
          try simp only [Act.put, List.setIfInBounds_toArray, List.set_cons_zero, List.set_cons_succ, List.getElem_toArray, List.getElem_cons_zero, List.getElem_cons_succ]
          refine two_keep (i := 3) (j := 10) (by kernel_rfl) ?_ ?_
          · refine keep_step rfl (by rfl) ?_
            go_simp
            refine Calls.mono (HMo.out _ hB) ?_
            rintro e y28 ⟨ma, mc, rfl, hT, hb⟩
            have hB := HBd.out _ _ hB hb
            have n4 := n4.below hb
            clear hb
            refine ⟨HSw.out _ hB, ?_⟩
            try simp only [Act.put, List.setIfInBounds_toArray, List.set_cons_zero, List.set_cons_succ, List.getElem_toArray, List.getElem_cons_zero, List.getElem_cons_succ]
            refine two_keep (i := 4) (j := 10) (by kernel_rfl) ?_ ?_
            · refine keep_step rfl (by rfl) ?_
              go_simp
              refine Calls.mono (HRa.out _ ma mc hB hT) ?_
              rintro e y29 ⟨V2, J2, rfl, hA, hI, hb⟩
              have hB := HBd.out _ _ hB hb
              have hT := hT.below hb
              have n4 := n4.below hb
              clear hb
              refine ⟨HSw.out _ hB, ?_⟩
              try simp only [Act.put, List.setIfInBounds_toArray, List.set_cons_zero, List.set_cons_succ, List.getElem_toArray, List.getElem_cons_zero, List.getElem_cons_succ]
              refine take_s (i := 5) (v := ?_) rfl (by kernel_rfl) (by kernel_rfl) (by kernel_rfl) (fun _ _ _ h => h) (by rfl) ?_ (HSw.out _ hB) ?_
              rotate_left
              · intro w' hLat; clear hLat; go_simp <;> with_reducible rfl
              try simp only [Act.put, List.setIfInBounds_toArray, List.set_cons_zero, List.set_cons_succ, List.getElem_toArray, List.getElem_cons_zero, List.getElem_cons_succ]
              refine take_s (i := 6) (v := ?_) rfl (by kernel_rfl) (by kernel_rfl) (by kernel_rfl) (fun _ _ _ h => h) (by rfl) ?_ (HSw.out _ hB) ?_
              rotate_left
              · intro w' hLat; clear hLat; go_simp <;> with_reducible rfl
              try simp only [Act.put, List.setIfInBounds_toArray, List.set_cons_zero, List.set_cons_succ, List.getElem_toArray, List.getElem_cons_zero, List.getElem_cons_succ]
              refine take_s (i := 7) (v := ?_) rfl (by kernel_rfl) (by kernel_rfl) (by kernel_rfl) (fun _ _ _ h => h) (by rfl) ?_ (HSw.out _ hB) ?_
              rotate_left
              · intro w' hLat; clear hLat; go_simp <;> with_reducible rfl
              try simp only [Act.put, List.setIfInBounds_toArray, List.set_cons_zero, List.set_cons_succ, List.getElem_toArray, List.getElem_cons_zero, List.getElem_cons_succ]
              refine take_s (i := 8) (v := ?_) rfl (by kernel_rfl) (by kernel_rfl) (by kernel_rfl) (fun _ _ _ h => h) (by rfl) ?_ (HSw.out _ hB) ?_
              rotate_left
              · intro w' hLat; clear hLat; go_simp <;> with_reducible rfl
              try simp only [Act.put, List.setIfInBounds_toArray, List.set_cons_zero, List.set_cons_succ, List.getElem_toArray, List.getElem_cons_zero, List.getElem_cons_succ]
              refine take_s (i := 9) (v := ?_) rfl (by kernel_rfl) (by kernel_rfl) (by kernel_rfl) (fun _ _ _ h => h) (by rfl) ?_ (HSw.out _ hB) ?_
              rotate_left
              · intro w' hLat; clear hLat; go_simp <;> with_reducible rfl
              try simp only [Act.put, List.setIfInBounds_toArray, List.set_cons_zero, List.set_cons_succ, List.getElem_toArray, List.getElem_cons_zero, List.getElem_cons_succ]
              refine one_keep (i := 10) (by kernel_rfl) ?_
              refine keep_step rfl (by rfl) ?_
              unfold Oper.wp
              rw [exec_alloc 45 rfl _ HZJ.out.1]
              obtain ⟨b23, e1⟩ : ∃ b, y29.heap.size = b := ⟨_, rfl⟩
              obtain ⟨y30, e2⟩ : ∃ y, y29.alloc (.cells ZJ 45) = y := ⟨_, rfl⟩
              have hb : Below y29.heap.size y29 y30 := by rw [← e2]; exact (nb_new _ _ _).2
              have n3 : Nb y30 b23 ZJ 45 := by rw [← e1, ← e2]; exact (nb_new _ _ _).1
              have g3 := HAl.out _ hB
              rw [e1] at g3
              have hB := HBd.out _ _ hB hb
              have hT := hT.below hb
              have hA := hA.below hb
              have n4 := n4.below hb
              simp only [e1, e2]
              clear hb e1 e2
              refine ⟨HSw.out _ hB, ?_⟩
              try simp only [Act.put, List.setIfInBounds_toArray, List.set_cons_zero, List.set_cons_succ, List.getElem_toArray, List.getElem_cons_zero, List.getElem_cons_succ]
              have h3 : Box _ := ⟨st3 (HBo.out _ hB) HVl.out HZJ.out.2 HIs.out.2.2.2.2.2.1 hA n3 n4 g3.1 g3.2.1 g4.2.1 g3.2.2 g4.2.2 HW0.out⟩
              refine one_keep (i := 12) (by kernel_rfl) (keep_step rfl (by rfl) ?_)
              refine wp_store_mid 34 (.tmp 12) (.tmp 82) rfl Bm 0 V2.toArray rfl rfl h3.out.t1 hI.1 hI.2.1 ?_
              rw [List.toList_toArray]
              refine ⟨h3.out.s1, ?_⟩
              try simp only [Act.put, List.getElem_toArray, List.getElem_cons_zero, List.getElem_cons_succ]
              refine one_keep (i := 13) (by kernel_rfl) (keep_step rfl (by rfl) ?_)
              refine wp_store_mid 45 (.tmp 23) (.tmp 83) rfl b23 0 J2.toArray rfl rfl h3.out.t2 hI.2.2.1 hI.2.2.2 ?_
              rw [List.toList_toArray]
              refine ⟨h3.out.s2, ?_⟩
              try simp only [Act.put, List.getElem_toArray, List.getElem_cons_zero, List.getElem_cons_succ]
              refine one_keep (i := 14) (by kernel_rfl) (keep_step rfl (by rfl) ?_)
              refine wp_store_mid 43 (.tmp 24) (.tmp 84) rfl b24 0 (sa s1) rfl rfl h3.out.t3 HIs.out.1 (all_sa s1) ?_
              rw [HIs.out.2.1]
              refine ⟨h3.out.s3, ?_⟩
              try simp only [Act.put, List.getElem_toArray, List.getElem_cons_zero, List.getElem_cons_succ]
              refine take_s (i := 15) (v := ?_) rfl (by kernel_rfl) (by kernel_rfl) (by kernel_rfl) (fun _ _ _ h => h) (by rfl) ?_ h3.out.s3 ?_
              rotate_left
              · intro w' hLat; clear hLat; go_simp <;> with_reducible rfl
              try simp only [Act.put, List.setIfInBounds_toArray, List.set_cons_zero, List.set_cons_succ, List.getElem_toArray, List.getElem_cons_zero, List.getElem_cons_succ]
              refine wpAnyH_done (by kernel_rfl) ?_ _
              exact HRest.out b23 b24 ma mc V2 J2 _ h3.out.fz
            · refine keep_step rfl (by rfl) ?_
              unfold Oper.wp
              rw [exec_alloc 45 rfl _ HZJ.out.1]
              obtain ⟨b23, e1⟩ : ∃ b, y28.heap.size = b := ⟨_, rfl⟩
              obtain ⟨y31, e2⟩ : ∃ y, y28.alloc (.cells ZJ 45) = y := ⟨_, rfl⟩
              have hb : Below y28.heap.size y28 y31 := by rw [← e2]; exact (nb_new _ _ _).2
              have n3 : Nb y31 b23 ZJ 45 := by rw [← e1, ← e2]; exact (nb_new _ _ _).1
              have g3 := HAl.out _ hB
              rw [e1] at g3
              have hB := HBd.out _ _ hB hb
              have hT := hT.below hb
              have n4 := n4.below hb
              simp only [e1, e2]
              clear hb e1 e2
              refine ⟨HSw.out _ hB, ?_⟩
              try simp only [Act.put, List.setIfInBounds_toArray, List.set_cons_zero, List.set_cons_succ, List.getElem_toArray, List.getElem_cons_zero, List.getElem_cons_succ]
              refine one_keep (i := 4) (by kernel_rfl) ?_
              refine keep_step rfl (by rfl) ?_
              go_simp
              refine Calls.mono (HRa.out _ ma mc hB hT) ?_
              rintro e y32 ⟨V2, J2, rfl, hA, hI, hb⟩
              have hB := HBd.out _ _ hB hb
              have hT := hT.below hb
              have n3 := n3.below hb
              have n4 := n4.below hb
              clear hb
              refine ⟨HSw.out _ hB, ?_⟩
              try simp only [Act.put, List.setIfInBounds_toArray, List.set_cons_zero, List.set_cons_succ, List.getElem_toArray, List.getElem_cons_zero, List.getElem_cons_succ]
              refine take_s (i := 5) (v := ?_) rfl (by kernel_rfl) (by kernel_rfl) (by kernel_rfl) (fun _ _ _ h => h) (by rfl) ?_ (HSw.out _ hB) ?_
              rotate_left
              · intro w' hLat; clear hLat; go_simp <;> with_reducible rfl
              try simp only [Act.put, List.setIfInBounds_toArray, List.set_cons_zero, List.set_cons_succ, List.getElem_toArray, List.getElem_cons_zero, List.getElem_cons_succ]
              refine take_s (i := 6) (v := ?_) rfl (by kernel_rfl) (by kernel_rfl) (by kernel_rfl) (fun _ _ _ h => h) (by rfl) ?_ (HSw.out _ hB) ?_
              rotate_left
              · intro w' hLat; clear hLat; go_simp <;> with_reducible rfl
              try simp only [Act.put, List.setIfInBounds_toArray, List.set_cons_zero, List.set_cons_succ, List.getElem_toArray, List.getElem_cons_zero, List.getElem_cons_succ]
              refine take_s (i := 7) (v := ?_) rfl (by kernel_rfl) (by kernel_rfl) (by kernel_rfl) (fun _ _ _ h => h) (by rfl) ?_ (HSw.out _ hB) ?_
              rotate_left
              · intro w' hLat; clear hLat; go_simp <;> with_reducible rfl
              try simp only [Act.put, List.setIfInBounds_toArray, List.set_cons_zero, List.set_cons_succ, List.getElem_toArray, List.getElem_cons_zero, List.getElem_cons_succ]
              refine take_s (i := 8) (v := ?_) rfl (by kernel_rfl) (by kernel_rfl) (by kernel_rfl) (fun _ _ _ h => h) (by rfl) ?_ (HSw.out _ hB) ?_
              rotate_left
              · intro w' hLat; clear hLat; go_simp <;> with_reducible rfl
              try simp only [Act.put, List.setIfInBounds_toArray, List.set_cons_zero, List.set_cons_succ, List.getElem_toArray, List.getElem_cons_zero, List.getElem_cons_succ]
              refine take_s (i := 9) (v := ?_) rfl (by kernel_rfl) (by kernel_rfl) (by kernel_rfl) (fun _ _ _ h => h) (by rfl) ?_ (HSw.out _ hB) ?_
              rotate_left
              · intro w' hLat; clear hLat; go_simp <;> with_reducible rfl
              try simp only [Act.put, List.setIfInBounds_toArray, List.set_cons_zero, List.set_cons_succ, List.getElem_toArray, List.getElem_cons_zero, List.getElem_cons_succ]
              have h3 : Box _ := ⟨st3 (HBo.out _ hB) HVl.out HZJ.out.2 HIs.out.2.2.2.2.2.1 hA n3 n4 g3.1 g3.2.1 g4.2.1 g3.2.2 g4.2.2 HW0.out⟩
              refine one_keep (i := 12) (by kernel_rfl) (keep_step rfl (by rfl) ?_)
              refine wp_store_mid 34 (.tmp 12) (.tmp 82) rfl Bm 0 V2.toArray rfl rfl h3.out.t1 hI.1 hI.2.1 ?_
              rw [List.toList_toArray]
              refine ⟨h3.out.s1, ?_⟩
              try simp only [Act.put, List.getElem_toArray, List.getElem_cons_zero, List.getElem_cons_succ]
              refine one_keep (i := 13) (by kernel_rfl) (keep_step rfl (by rfl) ?_)
              refine wp_store_mid 45 (.tmp 23) (.tmp 83) rfl b23 0 J2.toArray rfl rfl h3.out.t2 hI.2.2.1 hI.2.2.2 ?_
              rw [List.toList_toArray]
              refine ⟨h3.out.s2, ?_⟩
              try simp only [Act.put, List.getElem_toArray, List.getElem_cons_zero, List.getElem_cons_succ]
              refine one_keep (i := 14) (by kernel_rfl) (keep_step rfl (by rfl) ?_)
              refine wp_store_mid 43 (.tmp 24) (.tmp 84) rfl b24 0 (sa s1) rfl rfl h3.out.t3 HIs.out.1 (all_sa s1) ?_
              rw [HIs.out.2.1]
              refine ⟨h3.out.s3, ?_⟩
              try simp only [Act.put, List.getElem_toArray, List.getElem_cons_zero, List.getElem_cons_succ]
              refine take_s (i := 15) (v := ?_) rfl (by kernel_rfl) (by kernel_rfl) (by kernel_rfl) (fun _ _ _ h => h) (by rfl) ?_ h3.out.s3 ?_
              rotate_left
              · intro w' hLat; clear hLat; go_simp <;> with_reducible rfl
              try simp only [Act.put, List.setIfInBounds_toArray, List.set_cons_zero, List.set_cons_succ, List.getElem_toArray, List.getElem_cons_zero, List.getElem_cons_succ]
              refine wpAnyH_done (by kernel_rfl) ?_ _
              exact HRest.out b23 b24 ma mc V2 J2 _ h3.out.fz
          · refine keep_step rfl (by rfl) ?_
            unfold Oper.wp
            rw [exec_alloc 45 rfl _ HZJ.out.1]
            obtain ⟨b23, e1⟩ : ∃ b, y27.heap.size = b := ⟨_, rfl⟩
            obtain ⟨y33, e2⟩ : ∃ y, y27.alloc (.cells ZJ 45) = y := ⟨_, rfl⟩
            have hb : Below y27.heap.size y27 y33 := by rw [← e2]; exact (nb_new _ _ _).2
            have n3 : Nb y33 b23 ZJ 45 := by rw [← e1, ← e2]; exact (nb_new _ _ _).1
            have g3 := HAl.out _ hB
            rw [e1] at g3
            have hB := HBd.out _ _ hB hb
            have n4 := n4.below hb
            simp only [e1, e2]
            clear hb e1 e2
            refine ⟨HSw.out _ hB, ?_⟩
            try simp only [Act.put, List.setIfInBounds_toArray, List.set_cons_zero, List.set_cons_succ, List.getElem_toArray, List.getElem_cons_zero, List.getElem_cons_succ]
            refine one_keep (i := 3) (by kernel_rfl) ?_
            refine keep_step rfl (by rfl) ?_
            go_simp
            refine Calls.mono (HMo.out _ hB) ?_
            rintro e y34 ⟨ma, mc, rfl, hT, hb⟩
            have hB := HBd.out _ _ hB hb
            have n3 := n3.below hb
            have n4 := n4.below hb
            clear hb
            refine ⟨HSw.out _ hB, ?_⟩
            try simp only [Act.put, List.setIfInBounds_toArray, List.set_cons_zero, List.set_cons_succ, List.getElem_toArray, List.getElem_cons_zero, List.getElem_cons_succ]
            refine one_keep (i := 4) (by kernel_rfl) ?_
            refine keep_step rfl (by rfl) ?_
            go_simp
            refine Calls.mono (HRa.out _ ma mc hB hT) ?_
            rintro e y35 ⟨V2, J2, rfl, hA, hI, hb⟩
            have hB := HBd.out _ _ hB hb
            have hT := hT.below hb
            have n3 := n3.below hb
            have n4 := n4.below hb
            clear hb
            refine ⟨HSw.out _ hB, ?_⟩
            try simp only [Act.put, List.setIfInBounds_toArray, List.set_cons_zero, List.set_cons_succ, List.getElem_toArray, List.getElem_cons_zero, List.getElem_cons_succ]
            refine take_s (i := 5) (v := ?_) rfl (by kernel_rfl) (by kernel_rfl) (by kernel_rfl) (fun _ _ _ h => h) (by rfl) ?_ (HSw.out _ hB) ?_
            rotate_left
            · intro w' hLat; clear hLat; go_simp <;> with_reducible rfl
            try simp only [Act.put, List.setIfInBounds_toArray, List.set_cons_zero, List.set_cons_succ, List.getElem_toArray, List.getElem_cons_zero, List.getElem_cons_succ]
            refine take_s (i := 6) (v := ?_) rfl (by kernel_rfl) (by kernel_rfl) (by kernel_rfl) (fun _ _ _ h => h) (by rfl) ?_ (HSw.out _ hB) ?_
            rotate_left
            · intro w' hLat; clear hLat; go_simp <;> with_reducible rfl
            try simp only [Act.put, List.setIfInBounds_toArray, List.set_cons_zero, List.set_cons_succ, List.getElem_toArray, List.getElem_cons_zero, List.getElem_cons_succ]
            refine take_s (i := 7) (v := ?_) rfl (by kernel_rfl) (by kernel_rfl) (by kernel_rfl) (fun _ _ _ h => h) (by rfl) ?_ (HSw.out _ hB) ?_
            rotate_left
            · intro w' hLat; clear hLat; go_simp <;> with_reducible rfl
            try simp only [Act.put, List.setIfInBounds_toArray, List.set_cons_zero, List.set_cons_succ, List.getElem_toArray, List.getElem_cons_zero, List.getElem_cons_succ]
            refine take_s (i := 8) (v := ?_) rfl (by kernel_rfl) (by kernel_rfl) (by kernel_rfl) (fun _ _ _ h => h) (by rfl) ?_ (HSw.out _ hB) ?_
            rotate_left
            · intro w' hLat; clear hLat; go_simp <;> with_reducible rfl
            try simp only [Act.put, List.setIfInBounds_toArray, List.set_cons_zero, List.set_cons_succ, List.getElem_toArray, List.getElem_cons_zero, List.getElem_cons_succ]
            refine take_s (i := 9) (v := ?_) rfl (by kernel_rfl) (by kernel_rfl) (by kernel_rfl) (fun _ _ _ h => h) (by rfl) ?_ (HSw.out _ hB) ?_
            rotate_left
            · intro w' hLat; clear hLat; go_simp <;> with_reducible rfl
            try simp only [Act.put, List.setIfInBounds_toArray, List.set_cons_zero, List.set_cons_succ, List.getElem_toArray, List.getElem_cons_zero, List.getElem_cons_succ]
            have h3 : Box _ := ⟨st3 (HBo.out _ hB) HVl.out HZJ.out.2 HIs.out.2.2.2.2.2.1 hA n3 n4 g3.1 g3.2.1 g4.2.1 g3.2.2 g4.2.2 HW0.out⟩
            refine one_keep (i := 12) (by kernel_rfl) (keep_step rfl (by rfl) ?_)
            refine wp_store_mid 34 (.tmp 12) (.tmp 82) rfl Bm 0 V2.toArray rfl rfl h3.out.t1 hI.1 hI.2.1 ?_
            rw [List.toList_toArray]
            refine ⟨h3.out.s1, ?_⟩
            try simp only [Act.put, List.getElem_toArray, List.getElem_cons_zero, List.getElem_cons_succ]
            refine one_keep (i := 13) (by kernel_rfl) (keep_step rfl (by rfl) ?_)
            refine wp_store_mid 45 (.tmp 23) (.tmp 83) rfl b23 0 J2.toArray rfl rfl h3.out.t2 hI.2.2.1 hI.2.2.2 ?_
            rw [List.toList_toArray]
            refine ⟨h3.out.s2, ?_⟩
            try simp only [Act.put, List.getElem_toArray, List.getElem_cons_zero, List.getElem_cons_succ]
            refine one_keep (i := 14) (by kernel_rfl) (keep_step rfl (by rfl) ?_)
            refine wp_store_mid 43 (.tmp 24) (.tmp 84) rfl b24 0 (sa s1) rfl rfl h3.out.t3 HIs.out.1 (all_sa s1) ?_
            rw [HIs.out.2.1]
            refine ⟨h3.out.s3, ?_⟩
            try simp only [Act.put, List.getElem_toArray, List.getElem_cons_zero, List.getElem_cons_succ]
            refine take_s (i := 15) (v := ?_) rfl (by kernel_rfl) (by kernel_rfl) (by kernel_rfl) (fun _ _ _ h => h) (by rfl) ?_ h3.out.s3 ?_
            rotate_left
            · intro w' hLat; clear hLat; go_simp <;> with_reducible rfl
            try simp only [Act.put, List.setIfInBounds_toArray, List.set_cons_zero, List.set_cons_succ, List.getElem_toArray, List.getElem_cons_zero, List.getElem_cons_succ]
            refine wpAnyH_done (by kernel_rfl) ?_ _
            exact HRest.out b23 b24 ma mc V2 J2 _ h3.out.fz
  · as_aux_lemma =>
      refine keep_step rfl (by rfl) ?_
      go_simp
      refine Calls.mono (HMo.out _ hB) ?_
      rintro e y36 ⟨ma, mc, rfl, hT, hb⟩
      have hB := HBd.out _ _ hB hb
      clear hb
      refine ⟨HSw.out _ hB, ?_⟩
      try simp only [Act.put, List.setIfInBounds_toArray, List.set_cons_zero, List.set_cons_succ, List.getElem_toArray, List.getElem_cons_zero, List.getElem_cons_succ]
      refine wpAnyH_all (rs := [0, 10, 11]) (by kernel_rfl) (by simp) (fun q hq => ?_)
      simp only [List.mem_cons, List.not_mem_nil, or_false] at hq
      rcases hq with rfl | rfl | rfl
      · as_aux_lemma =>
          refine keep_step rfl (by rfl) ?_
          unfold Oper.wp
          rw [exec_load_mid 34 _ (.tmp 12) rfl Tryd.underlying34 rfl Bm 0 rfl V HVm.out.2.1 (HVm.out.1 _ hB)]
          refine ⟨HSw.out _ hB, ?_⟩
          try simp only [Act.put, List.setIfInBounds_toArray, List.set_cons_zero, List.set_cons_succ, List.getElem_toArray, List.getElem_cons_zero]
          refine wpAnyH_all (rs := [4, 10, 11]) (by kernel_rfl) (by simp) (fun q hq => ?_)
          simp only [List.mem_cons, List.not_mem_nil, or_false] at hq
          rcases hq with rfl | rfl | rfl
          · refine keep_step rfl (by rfl) ?_
            go_simp
            refine Calls.mono (HRa.out _ ma mc hB hT) ?_
            rintro e y38 ⟨V2, J2, rfl, hA, hI, hb⟩
            have hB := HBd.out _ _ hB hb
            have hT := hT.below hb
            clear hb
            refine ⟨HSw.out _ hB, ?_⟩
            try simp only [Act.put, List.setIfInBounds_toArray, List.set_cons_zero, List.set_cons_succ, List.getElem_toArray, List.getElem_cons_zero, List.getElem_cons_succ]
            refine take_s (i := 5) (v := ?_) rfl (by kernel_rfl) (by kernel_rfl) (by kernel_rfl) (fun _ _ _ h => h) (by rfl) ?_ (HSw.out _ hB) ?_
            rotate_left
            · intro w' hLat; clear hLat; go_simp <;> with_reducible rfl
            try simp only [Act.put, List.setIfInBounds_toArray, List.set_cons_zero, List.set_cons_succ, List.getElem_toArray, List.getElem_cons_zero, List.getElem_cons_succ]
            refine take_s (i := 6) (v := ?_) rfl (by kernel_rfl) (by kernel_rfl) (by kernel_rfl) (fun _ _ _ h => h) (by rfl) ?_ (HSw.out _ hB) ?_
            rotate_left
            · intro w' hLat; clear hLat; go_simp <;> with_reducible rfl
            try simp only [Act.put, List.setIfInBounds_toArray, List.set_cons_zero, List.set_cons_succ, List.getElem_toArray, List.getElem_cons_zero, List.getElem_cons_succ]
            refine take_s (i := 7) (v := ?_) rfl (by kernel_rfl) (by kernel_rfl) (by kernel_rfl) (fun _ _ _ h => h) (by rfl) ?_ (HSw.out _ hB) ?_
            rotate_left
            · intro w' hLat; clear hLat; go_simp <;> with_reducible rfl
            try simp only [Act.put, List.setIfInBounds_toArray, List.set_cons_zero, List.set_cons_succ, List.getElem_toArray, List.getElem_cons_zero, List.getElem_cons_succ]
            refine take_s (i := 8) (v := ?_) rfl (by kernel_rfl) (by kernel_rfl) (by kernel_rfl) (fun _ _ _ h => h) (by rfl) ?_ (HSw.out _ hB) ?_
            rotate_left
            · intro w' hLat; clear hLat; go_simp <;> with_reducible rfl
            try simp only [Act.put, List.setIfInBounds_toArray, List.set_cons_zero, List.set_cons_succ, List.getElem_toArray, List.getElem_cons_zero, List.getElem_cons_succ]
            refine take_s (i := 9) (v := ?_) rfl (by kernel_rfl) (by kernel_rfl) (by kernel_rfl) (fun _ _ _ h => h) (by rfl) ?_ (HSw.out _ hB) ?_
            rotate_left
            · intro w' hLat; clear hLat; go_simp <;> with_reducible rfl
            try simp only [Act.put, List.setIfInBounds_toArray, List.set_cons_zero, List.set_cons_succ, List.getElem_toArray, List.getElem_cons_zero, List.getElem_cons_succ]
            refine two_keep (i := 10) (j := 11) (by kernel_rfl) ?_ ?_
            · refine keep_step rfl (by rfl) ?_
              unfold Oper.wp
              rw [exec_alloc 45 rfl _ HZJ.out.1]
              obtain ⟨b23, e1⟩ : ∃ b, y38.heap.size = b := ⟨_, rfl⟩
              obtain ⟨y39, e2⟩ : ∃ y, y38.alloc (.cells ZJ 45) = y := ⟨_, rfl⟩
              have hb : Below y38.heap.size y38 y39 := by rw [← e2]; exact (nb_new _ _ _).2
              have n3 : Nb y39 b23 ZJ 45 := by rw [← e1, ← e2]; exact (nb_new _ _ _).1
              have g3 := HAl.out _ hB
              rw [e1] at g3
              have hB := HBd.out _ _ hB hb
              have hT := hT.below hb
              have hA := hA.below hb
              simp only [e1, e2]
              clear hb e1 e2
              refine ⟨HSw.out _ hB, ?_⟩
              try simp only [Act.put, List.setIfInBounds_toArray, List.set_cons_zero, List.set_cons_succ, List.getElem_toArray, List.getElem_cons_zero, List.getElem_cons_succ]
              refine one_keep (i := 11) (by kernel_rfl) ?_
              refine keep_step rfl (by rfl) ?_
              unfold Oper.wp
              rw [exec_alloc 43 rfl _ zeroS13]
              obtain ⟨b24, e1⟩ : ∃ b, y39.heap.size = b := ⟨_, rfl⟩
              obtain ⟨y40, e2⟩ : ∃ y, y39.alloc (.cells (sa zs) 43) = y := ⟨_, rfl⟩
              have hb : Below y39.heap.size y39 y40 := by rw [← e2]; exact (nb_new _ _ _).2
              have n4 : Nb y40 b24 (sa zs) 43 := by rw [← e1, ← e2]; exact (nb_new _ _ _).1
              have g4 := HAl.out _ hB
              rw [e1] at g4
              have hB := HBd.out _ _ hB hb
              have hT := hT.below hb
              have hA := hA.below hb
              have n3 := n3.below hb
              simp only [e1, e2]
              clear hb e1 e2
              refine ⟨HSw.out _ hB, ?_⟩
              try simp only [Act.put, List.setIfInBounds_toArray, List.set_cons_zero, List.set_cons_succ, List.getElem_toArray, List.getElem_cons_zero, List.getElem_cons_succ]
              have h3 : Box _ := ⟨st3 (HBo.out _ hB) HVl.out HZJ.out.2 HIs.out.2.2.2.2.2.1 hA n3 n4 g3.1 g3.2.1 g4.2.1 g3.2.2 g4.2.2 HW0.out⟩
              refine one_keep (i := 12) (by kernel_rfl) (keep_step rfl (by rfl) ?_)
              refine wp_store_mid 34 (.tmp 12) (.tmp 82) rfl Bm 0 V2.toArray rfl rfl h3.out.t1 hI.1 hI.2.1 ?_
              rw [List.toList_toArray]
              refine ⟨h3.out.s1, ?_⟩
              try simp only [Act.put, List.getElem_toArray, List.getElem_cons_zero, List.getElem_cons_succ]
              refine one_keep (i := 13) (by kernel_rfl) (keep_step rfl (by rfl) ?_)
              refine wp_store_mid 45 (.tmp 23) (.tmp 83) rfl b23 0 J2.toArray rfl rfl h3.out.t2 hI.2.2.1 hI.2.2.2 ?_
              rw [List.toList_toArray]
              refine ⟨h3.out.s2, ?_⟩
              try simp only [Act.put, List.getElem_toArray, List.getElem_cons_zero, List.getElem_cons_succ]
              refine one_keep (i := 14) (by kernel_rfl) (keep_step rfl (by rfl) ?_)
              refine wp_store_mid 43 (.tmp 24) (.tmp 84) rfl b24 0 (sa s1) rfl rfl h3.out.t3 HIs.out.1 (all_sa s1) ?_
              rw [HIs.out.2.1]
              refine ⟨h3.out.s3, ?_⟩
              try simp only [Act.put, List.getElem_toArray, List.getElem_cons_zero, List.getElem_cons_succ]
              refine take_s (i := 15) (v := ?_) rfl (by kernel_rfl) (by kernel_rfl) (by kernel_rfl) (fun _ _ _ h => h) (by rfl) ?_ h3.out.s3 ?_
              rotate_left
              · intro w' hLat; clear hLat; go_simp <;> with_reducible rfl
              try simp only [Act.put, List.setIfInBounds_toArray, List.set_cons_zero, List.set_cons_succ, List.getElem_toArray, List.getElem_cons_zero, List.getElem_cons_succ]
              refine wpAnyH_done (by kernel_rfl) ?_ _
              exact HRest.out b23 b24 ma mc V2 J2 _ h3.out.fz
            · refine keep_step rfl (by rfl) ?_
              unfold Oper.wp
              rw [exec_alloc 43 rfl _ zeroS13]
              obtain ⟨b24, e1⟩ : ∃ b, y38.heap.size = b := ⟨_, rfl⟩
              obtain ⟨y41, e2⟩ : ∃ y, y38.alloc (.cells (sa zs) 43) = y := ⟨_, rfl⟩
              have hb : Below y38.heap.size y38 y41 := by rw [← e2]; exact (nb_new _ _ _).2
              have n4 : Nb y41 b24 (sa zs) 43 := by rw [← e1, ← e2]; exact (nb_new _ _ _).1
              have g4 := HAl.out _ hB
              rw [e1] at g4
              have hB := HBd.out _ _ hB hb
              have hT := hT.below hb
              have hA := hA.below hb
              simp only [e1, e2]
              clear hb e1 e2
              refine ⟨HSw.out _ hB, ?_⟩
              try simp only [Act.put, List.setIfInBounds_toArray, List.set_cons_zero, List.set_cons_succ, List.getElem_toArray, List.getElem_cons_zero, List.getElem_cons_succ]
              refine one_keep (i := 10) (by kernel_rfl) ?_
              refine keep_step rfl (by rfl) ?_
              unfold Oper.wp
              rw [exec_alloc 45 rfl _ HZJ.out.1]
              obtain ⟨b23, e1⟩ : ∃ b, y41.heap.size = b := ⟨_, rfl⟩
              obtain ⟨y42, e2⟩ : ∃ y, y41.alloc (.cells ZJ 45) = y := ⟨_, rfl⟩
              have hb : Below y41.heap.size y41 y42 := by rw [← e2]; exact (nb_new _ _ _).2
              have n3 : Nb y42 b23 ZJ 45 := by rw [← e1, ← e2]; exact (nb_new _ _ _).1
              have g3 := HAl.out _ hB
              rw [e1] at g3
              have hB := HBd.out _ _ hB hb
              have hT := hT.below hb
              have hA := hA.below hb
              have n4 := n4.below hb
              simp only [e1, e2]
              clear hb e1 e2
              refine ⟨HSw.out _ hB, ?_⟩
              try simp only [Act.put, List.setIfInBounds_toArray, List.set_cons_zero, List.set_cons_succ, List.getElem_toArray, List.getElem_cons_zero, List.getElem_cons_succ]
              have h3 : Box _ := ⟨st3 (HBo.out _ hB) HVl.out HZJ.out.2 HIs.out.2.2.2.2.2.1 hA n3 n4 g3.1 g3.2.1 g4.2.1 g3.2.2 g4.2.2 HW0.out⟩
              refine one_keep (i := 12) (by kernel_rfl) (keep_step rfl (by rfl) ?_)
              refine wp_store_mid 34 (.tmp 12) (.tmp 82) rfl Bm 0 V2.toArray rfl rfl h3.out.t1 hI.1 hI.2.1 ?_
              rw [List.toList_toArray]
              refine ⟨h3.out.s1, ?_⟩
              try simp only [Act.put, List.getElem_toArray, List.getElem_cons_zero, List.getElem_cons_succ]
              refine one_keep (i := 13) (by kernel_rfl) (keep_step rfl (by rfl) ?_)
              refine wp_store_mid 45 (.tmp 23) (.tmp 83) rfl b23 0 J2.toArray rfl rfl h3.out.t2 hI.2.2.1 hI.2.2.2 ?_
              rw [List.toList_toArray]
              refine ⟨h3.out.s2, ?_⟩
              try simp only [Act.put, List.getElem_toArray, List.getElem_cons_zero, List.getElem_cons_succ]
              refine one_keep (i := 14) (by kernel_rfl) (keep_step rfl (by rfl) ?_)
              refine wp_store_mid 43 (.tmp 24) (.tmp 84) rfl b24 0 (sa s1) rfl rfl h3.out.t3 HIs.out.1 (all_sa s1) ?_
              rw [HIs.out.2.1]
              refine ⟨h3.out.s3, ?_⟩
              try simp only [Act.put, List.getElem_toArray, List.getElem_cons_zero, List.getElem_cons_succ]
              refine take_s (i := 15) (v := ?_) rfl (by kernel_rfl) (by kernel_rfl) (by kernel_rfl) (fun _ _ _ h => h) (by rfl) ?_ h3.out.s3 ?_
              rotate_left
              · intro w' hLat; clear hLat; go_simp <;> with_reducible rfl
              try simp only [Act.put, List.setIfInBounds_toArray, List.set_cons_zero, List.set_cons_succ, List.getElem_toArray, List.getElem_cons_zero, List.getElem_cons_succ]
              refine wpAnyH_done (by kernel_rfl) ?_ _
              exact HRest.out b23 b24 ma mc V2 J2 _ h3.out.fz
          · refine keep_step rfl (by rfl) ?_
            unfold Oper.wp
            rw [exec_alloc 45 rfl _ HZJ.out.1]
            obtain ⟨b23, e1⟩ : ∃ b, y36.heap.size = b := ⟨_, rfl⟩
            obtain ⟨y43, e2⟩ : ∃ y, y36.alloc (.cells ZJ 45) = y := ⟨_, rfl⟩
            have hb : Below y36.heap.size y36 y43 := by rw [← e2]; exact (nb_new _ _ _).2
            have n3 : Nb y43 b23 ZJ 45 := by rw [← e1, ← e2]; exact (nb_new _ _ _).1
            have g3 := HAl.out _ hB
            rw [e1] at g3
            have hB := HBd.out _ _ hB hb
            have hT := hT.below hb
            simp only [e1, e2]
            clear hb e1 e2
            refine ⟨HSw.out _ hB, ?_⟩
            try simp only [Act.put, List.setIfInBounds_toArray, List.set_cons_zero, List.set_cons_succ, List.getElem_toArray, List.getElem_cons_zero, List.getElem_cons_succ]
            refine two_keep (i := 4) (j := 11) (by kernel_rfl) ?_ ?_
            · refine keep_step rfl (by rfl) ?_
              go_simp
              refine Calls.mono (HRa.out _ ma mc hB hT) ?_
              rintro e y44 ⟨V2, J2, rfl, hA, hI, hb⟩
              have hB := HBd.out _ _ hB hb
              have hT := hT.below hb
              have n3 := n3.below hb
              clear hb
              refine ⟨HSw.out _ hB, ?_⟩
              try simp only [Act.put, List.setIfInBounds_toArray, List.set_cons_zero, List.set_cons_succ, List.getElem_toArray, List.getElem_cons_zero, List.getElem_cons_succ]
              refine take_s (i := 5) (v := ?_) rfl (by kernel_rfl) (by kernel_rfl) (by kernel_rfl) (fun _ _ _ h => h) (by rfl) ?_ (HSw.out _ hB) ?_
              rotate_left
              · intro w' hLat; clear hLat; go_simp <;> with_reducible rfl
              try simp only [Act.put, List.setIfInBounds_toArray, List.set_cons_zero, List.set_cons_succ, List.getElem_toArray, List.getElem_cons_zero, List.getElem_cons_succ]
              refine take_s (i := 6) (v := ?_) rfl (by kernel_rfl) (by kernel_rfl) (by kernel_rfl) (fun _ _ _ h => h) (by rfl) ?_ (HSw.out _ hB) ?_
              rotate_left
              · intro w' hLat; clear hLat; go_simp <;> with_reducible rfl
              try simp only [Act.put, List.setIfInBounds_toArray, List.set_cons_zero, List.set_cons_succ, List.getElem_toArray, List.getElem_cons_zero, List.getElem_cons_succ]
              refine take_s (i := 7) (v := ?_) rfl (by kernel_rfl) (by kernel_rfl) (by kernel_rfl) (fun _ _ _ h => h) (by rfl) ?_ (HSw.out _ hB) ?_
              rotate_left
              · intro w' hLat; clear hLat; go_simp <;> with_reducible rfl
              try simp only [Act.put, List.setIfInBounds_toArray, List.set_cons_zero, List.set_cons_succ, List.getElem_toArray, List.getElem_cons_zero, List.getElem_cons_succ]
              refine take_s (i := 8) (v := ?_) rfl (by kernel_rfl) (by kernel_rfl) (by kernel_rfl) (fun _ _ _ h => h) (by rfl) ?_ (HSw.out _ hB) ?_
              rotate_left
              · intro w' hLat; clear hLat; go_simp <;> with_reducible rfl
              try simp only [Act.put, List.setIfInBounds_toArray, List.set_cons_zero, List.set_cons_succ, List.getElem_toArray, List.getElem_cons_zero, List.getElem_cons_succ]
              refine take_s (i := 9) (v := ?_) rfl (by kernel_rfl) (by kernel_rfl) (by kernel_rfl) (fun _ _ _ h => h) (by rfl) ?_ (HSw.out _ hB) ?_
              rotate_left
              · intro w' hLat; clear hLat; go_simp <;> with_reducible rfl
              try simp only [Act.put, List.setIfInBounds_toArray, List.set_cons_zero, List.set_cons_succ, List.getElem_toArray, List.getElem_cons_zero, List.getElem_cons_succ]
              refine one_keep (i := 11) (by kernel_rfl) ?_
              refine keep_step rfl (by rfl) ?_
              unfold Oper.wp
              rw [exec_alloc 43 rfl _ zeroS13]
              obtain ⟨b24, e1⟩ : ∃ b, y44.heap.size = b := ⟨_, rfl⟩
              obtain ⟨y45, e2⟩ : ∃ y, y44.alloc (.cells (sa zs) 43) = y := ⟨_, rfl⟩
              have hb : Below y44.heap.size y44 y45 := by rw [← e2]; exact (nb_new _ _ _).2
              have n4 : Nb y45 b24 (sa zs) 43 := by rw [← e1, ← e2]; exact (nb_new _ _ _).1
              have g4 := HAl.out _ hB
              rw [e1] at g4
              have hB := HBd.out _ _ hB hb
              have hT := hT.below hb
              have hA := hA.below hb
              have n3 := n3.below hb
              simp only [e1, e2]
              clear hb e1 e2
              refine ⟨HSw.out _ hB, ?_⟩
              try simp only [Act.put, List.setIfInBounds_toArray, List.set_cons_zero, List.set_cons_succ, List.getElem_toArray, List.getElem_cons_zero, List.getElem_cons_succ]
              have h3 : Box _ := ⟨st3 (HBo.out _ hB) HVl.out HZJ.out.2 HIs.out.2.2.2.2.2.1 hA n3 n4 g3.1 g3.2.1 g4.2.1 g3.2.2 g4.2.2 HW0.out⟩
              refine one_keep (i := 12) (by kernel_rfl) (keep_step rfl (by rfl) ?_)
              refine wp_store_mid 34 (.tmp 12) (.tmp 82) rfl Bm 0 V2.toArray rfl rfl h3.out.t1 hI.1 hI.2.1 ?_
              rw [List.toList_toArray]
              refine ⟨h3.out.s1, ?_⟩
              try simp only [Act.put, List.getElem_toArray, List.getElem_cons_zero, List.getElem_cons_succ]
              refine one_keep (i := 13) (by kernel_rfl) (keep_step rfl (by rfl) ?_)
              refine wp_store_mid 45 (.tmp 23) (.tmp 83) rfl b23 0 J2.toArray rfl rfl h3.out.t2 hI.2.2.1 hI.2.2.2 ?_
              rw [List.toList_toArray]
              refine ⟨h3.out.s2, ?_⟩
              try simp only [Act.put, List.getElem_toArray, List.getElem_cons_zero, List.getElem_cons_succ]
              refine one_keep (i := 14) (by kernel_rfl) (keep_step rfl (by rfl) ?_)
              refine wp_store_mid 43 (.tmp 24) (.tmp 84) rfl b24 0 (sa s1) rfl rfl h3.out.t3 HIs.out.1 (all_sa s1) ?_
              rw [HIs.out.2.1]
              refine ⟨h3.out.s3, ?_⟩
              try simp only [Act.put, List.getElem_toArray, List.getElem_cons_zero, List.getElem_cons_succ]
              refine take_s (i := 15) (v := ?_) rfl (by kernel_rfl) (by kernel_rfl) (by kernel_rfl) (fun _ _ _ h => h) (by rfl) ?_ h3.out.s3 ?_
              rotate_left
              · intro w' hLat; clear hLat; go_simp <;> with_reducible rfl
              try simp only [Act.put, List.setIfInBounds_toArray, List.set_cons_zero, List.set_cons_succ, List.getElem_toArray, List.getElem_cons_zero, List.getElem_cons_succ]
              refine wpAnyH_done (by kernel_rfl) ?_ _
              exact HRest.out b23 b24 ma mc V2 J2 _ h3.out.fz
            · refine keep_step rfl (by rfl) ?_
              unfold Oper.wp
              rw [exec_alloc 43 rfl _ zeroS13]
              obtain ⟨b24, e1⟩ : ∃ b, y43.heap.size = b := ⟨_, rfl⟩
              obtain ⟨y46, e2⟩ : ∃ y, y43.alloc (.cells (sa zs) 43) = y := ⟨_, rfl⟩
              have hb : Below y43.heap.size y43 y46 := by rw [← e2]; exact (nb_new _ _ _).2
              have n4 : Nb y46 b24 (sa zs) 43 := by rw [← e1, ← e2]; exact (nb_new _ _ _).1
              have g4 := HAl.out _ hB
              rw [e1] at g4
              have hB := HBd.out _ _ hB hb
              have hT := hT.below hb
              have n3 := n3.below hb
              simp only [e1, e2]
              clear hb e1 e2
              refine ⟨HSw.out _ hB, ?_⟩
              try simp only [Act.put, List.setIfInBounds_toArray, List.set_cons_zero, List.set_cons_succ, List.getElem_toArray, List.getElem_cons_zero, List.getElem_cons_succ]
              refine one_keep (i := 4) (by kernel_rfl) ?_
              refine keep_step rfl (by rfl) ?_
              go_simp
              refine Calls.mono (HRa.out _ ma mc hB hT) ?_
              rintro e y47 ⟨V2, J2, rfl, hA, hI, hb⟩
              have hB := HBd.out _ _ hB hb
              have hT := hT.below hb
              have n3 := n3.below hb
              have n4 := n4.below hb
              clear hb
              refine ⟨HSw.out _ hB, ?_⟩
              try simp only [Act.put, List.setIfInBounds_toArray, List.set_cons_zero, List.set_cons_succ, List.getElem_toArray, List.getElem_cons_zero, List.getElem_cons_succ]
              refine take_s (i := 5) (v := ?_) rfl (by kernel_rfl) (by kernel_rfl) (by kernel_rfl) (fun _ _ _ h => h) (by rfl) ?_ (HSw.out _ hB) ?_
              rotate_left
              · intro w' hLat; clear hLat; go_simp <;> with_reducible rfl
              try simp only [Act.put, List.setIfInBounds_toArray, List.set_cons_zero, List.set_cons_succ, List.getElem_toArray, List.getElem_cons_zero, List.getElem_cons_succ]
              refine take_s (i := 6) (v := ?_) rfl (by kernel_rfl) (by kernel_rfl) (by kernel_rfl) (fun _ _ _ h => h) (by rfl) ?_ (HSw.out _ hB) ?_
              rotate_left
              · intro w' hLat; clear hLat; go_simp <;> with_reducible rfl
              try simp only [Act.put, List.setIfInBounds_toArray, List.set_cons_zero, List.set_cons_succ, List.getElem_toArray, List.getElem_cons_zero, List.getElem_cons_succ]
              refine take_s (i := 7) (v := ?_) rfl (by kernel_rfl) (by kernel_rfl) (by kernel_rfl) (fun _ _ _ h => h) (by rfl) ?_ (HSw.out _ hB) ?_
              rotate_left
              · intro w' hLat; clear hLat; go_simp <;> with_reducible rfl
              try simp only [Act.put, List.setIfInBounds_toArray, List.set_cons_zero, List.set_cons_succ, List.getElem_toArray, List.getElem_cons_zero, List.getElem_cons_succ]
              refine take_s (i := 8) (v := ?_) rfl (by kernel_rfl) (by kernel_rfl) (by kernel_rfl) (fun _ _ _ h => h) (by rfl) ?_ (HSw.out _ hB) ?_
              rotate_left
              · intro w' hLat; clear hLat; go_simp <;> with_reducible rfl
              try simp only [Act.put, List.setIfInBounds_toArray, List.set_cons_zero, List.set_cons_succ, List.getElem_toArray, List.getElem_cons_zero, List.getElem_cons_succ]
              refine take_s (i := 9) (v := ?_) rfl (by kernel_rfl) (by kernel_rfl) (by kernel_rfl) (fun _ _ _ h => h) (by rfl) ?_ (HSw.out _ hB) ?_
              rotate_left
              · intro w' hLat; clear hLat; go_simp <;> with_reducible rfl
              try simp only [Act.put, List.setIfInBounds_toArray, List.set_cons_zero, List.set_cons_succ, List.getElem_toArray, List.getElem_cons_zero, List.getElem_cons_succ]
              have h3 : Box _ := ⟨st3 (HBo.out _ hB) HVl.out HZJ.out.2 HIs.out.2.2.2.2.2.1 hA n3 n4 g3.1 g3.2.1 g4.2.1 g3.2.2 g4.2.2 HW0.out⟩
              refine one_keep (i := 12) (by kernel_rfl) (keep_step rfl (by rfl) ?_)
              refine wp_store_mid 34 (.tmp 12) (.tmp 82) rfl Bm 0 V2.toArray rfl rfl h3.out.t1 hI.1 hI.2.1 ?_
              rw [List.toList_toArray]
              refine ⟨h3.out.s1, ?_⟩
              try simp only [Act.put, List.getElem_toArray, List.getElem_cons_zero, List.getElem_cons_succ]
              refine one_keep (i := 13) (by kernel_rfl) (keep_step rfl (by rfl) ?_)
              refine wp_store_mid 45 (.tmp 23) (.tmp 83) rfl b23 0 J2.toArray rfl rfl h3.out.t2 hI.2.2.1 hI.2.2.2 ?_
              rw [List.toList_toArray]
              refine ⟨h3.out.s2, ?_⟩
              try simp only [Act.put, List.getElem_toArray, List.getElem_cons_zero, List.getElem_cons_succ]
              refine one_keep (i := 14) (by kernel_rfl) (keep_step rfl (by rfl) ?_)
              refine wp_store_mid 43 (.tmp 24) (.tmp 84) rfl b24 0 (sa s1) rfl rfl h3.out.t3 HIs.out.1 (all_sa s1) ?_
              rw [HIs.out.2.1]
              refine ⟨h3.out.s3, ?_⟩
              try simp only [Act.put, List.getElem_toArray, List.getElem_cons_zero, List.getElem_cons_succ]
              refine take_s (i := 15) (v := ?_) rfl (by kernel_rfl) (by kernel_rfl) (by kernel_rfl) (fun _ _ _ h => h) (by rfl) ?_ h3.out.s3 ?_
              rotate_left
              · intro w' hLat; clear hLat; go_simp <;> with_reducible rfl
              try simp only [Act.put, List.setIfInBounds_toArray, List.set_cons_zero, List.set_cons_succ, List.getElem_toArray, List.getElem_cons_zero, List.getElem_cons_succ]
              refine wpAnyH_done (by kernel_rfl) ?_ _
              exact HRest.out b23 b24 ma mc V2 J2 _ h3.out.fz
          · refine keep_step rfl (by rfl) ?_
            unfold Oper.wp
            rw [exec_alloc 43 rfl _ zeroS13]
            obtain ⟨b24, e1⟩ : ∃ b, y36.heap.size = b := ⟨_, rfl⟩
            obtain ⟨y48, e2⟩ : ∃ y, y36.alloc (.cells (sa zs) 43) = y := ⟨_, rfl⟩
            have hb : Below y36.heap.size y36 y48 := by rw [← e2]; exact (nb_new _ _ _).2
            have n4 : Nb y48 b24 (sa zs) 43 := by rw [← e1, ← e2]; exact (nb_new _ _ _).1
            have g4 := HAl.out _ hB
            rw [e1] at g4
            have hB := HBd.out _ _ hB hb
            have hT := hT.below hb
            simp only [e1, e2]
            clear hb e1 e2
            refine ⟨HSw.out _ hB, ?_⟩
            try simp only [Act.put, List.setIfInBounds_toArray, List.set_cons_zero, List.set_cons_succ, List.getElem_toArray, List.getElem_cons_zero, List.getElem_cons_succ]
            refine two_keep (i := 4) (j := 10) (by kernel_rfl) ?_ ?_
            · refine keep_step rfl (by rfl) ?_
              go_simp
              refine Calls.mono (HRa.out _ ma mc hB hT) ?_
              rintro e y49 ⟨V2, J2, rfl, hA, hI, hb⟩
              have hB := HBd.out _ _ hB hb
              have hT := hT.below hb
              have n4 := n4.below hb
              clear hb
              refine ⟨HSw.out _ hB, ?_⟩
              try simp only [Act.put, List.setIfInBounds_toArray, List.set_cons_zero, List.set_cons_succ, List.getElem_toArray, List.getElem_cons_zero, List.getElem_cons_succ]
              refine take_s (i := 5) (v := ?_) rfl (by kernel_rfl) (by kernel_rfl) (by kernel_rfl) (fun _ _ _ h => h) (by rfl) ?_ (HSw.out _ hB) ?_
              rotate_left
              · intro w' hLat; clear hLat; go_simp <;> with_reducible rfl
              try simp only [Act.put, List.setIfInBounds_toArray, List.set_cons_zero, List.set_cons_succ, List.getElem_toArray, List.getElem_cons_zero, List.getElem_cons_succ]
              refine take_s (i := 6) (v := ?_) rfl (by kernel_rfl) (by kernel_rfl) (by kernel_rfl) (fun _ _ _ h => h) (by rfl) ?_ (HSw.out _ hB) ?_
              rotate_left
              · intro w' hLat; clear hLat; go_simp <;> with_reducible rfl
              try simp only [Act.put, List.setIfInBounds_toArray, List.set_cons_zero, List.set_cons_succ, List.getElem_toArray, List.getElem_cons_zero, List.getElem_cons_succ]
              refine take_s (i := 7) (v := ?_) rfl (by kernel_rfl) (by kernel_rfl) (by kernel_rfl) (fun _ _ _ h => h) (by rfl) ?_ (HSw.out _ hB) ?_
              rotate_left
              · intro w' hLat; clear hLat; go_simp <;> with_reducible rfl
              try simp only [Act.put, List.setIfInBounds_toArray, List.set_cons_zero, List.set_cons_succ, List.getElem_toArray, List.getElem_cons_zero, List.getElem_cons_succ]
              refine take_s (i := 8) (v := ?_) rfl (by kernel_rfl) (by kernel_rfl) (by kernel_rfl) (fun _ _ _ h => h) (by rfl) ?_ (HSw.out _ hB) ?_
              rotate_left
              · intro w' hLat; clear hLat; go_simp <;> with_reducible rfl
              try simp only [Act.put, List.setIfInBounds_toArray, List.set_cons_zero, List.set_cons_succ, List.getElem_toArray, List.getElem_cons_zero, List.getElem_cons_succ]
              refine take_s (i := 9) (v := ?_) rfl (by kernel_rfl) (by kernel_rfl) (by kernel_rfl) (fun _ _ _ h => h) (by rfl) ?_ (HSw.out _ hB) ?_
              rotate_left
              · intro w' hLat; clear hLat; go_simp <;> with_reducible rfl
              try simp only [Act.put, List.setIfInBounds_toArray, List.set_cons_zero, List.set_cons_succ, List.getElem_toArray, List.getElem_cons_zero, List.getElem_cons_succ]
              refine one_keep (i := 10) (by kernel_rfl) ?_
              refine keep_step rfl (by rfl) ?_
              unfold Oper.wp
              rw [exec_alloc 45 rfl _ HZJ.out.1]
              obtain ⟨b23, e1⟩ : ∃ b, y49.heap.size = b := ⟨_, rfl⟩
              obtain ⟨y50, e2⟩ : ∃ y, y49.alloc (.cells ZJ 45) = y := ⟨_, rfl⟩
              have hb : Below y49.heap.size y49 y50 := by rw [← e2]; exact (nb_new _ _ _).2
              have n3 : Nb y50 b23 ZJ 45 := by rw [← e1, ← e2]; exact (nb_new _ _ _).1
              have g3 := HAl.out _ hB
              rw [e1] at g3
              have hB := HBd.out _ _ hB hb
              have hT := hT.below hb
              have hA := hA.below hb
              have n4 := n4.below hb
              simp only [e1, e2]
              clear hb e1 e2
              refine ⟨HSw.out _ hB, ?_⟩
              try simp only [Act.put, List.setIfInBounds_toArray, List.set_cons_zero, List.set_cons_succ, List.getElem_toArray, List.getElem_cons_zero, List.getElem_cons_succ]
              have h3 : Box _ := ⟨st3 (HBo.out _ hB) HVl.out HZJ.out.2 HIs.out.2.2.2.2.2.1 hA n3 n4 g3.1 g3.2.1 g4.2.1 g3.2.2 g4.2.2 HW0.out⟩
              refine one_keep (i := 12) (by kernel_rfl) (keep_step rfl (by rfl) ?_)
              refine wp_store_mid 34 (.tmp 12) (.tmp 82) rfl Bm 0 V2.toArray rfl rfl h3.out.t1 hI.1 hI.2.1 ?_
              rw [List.toList_toArray]
              refine ⟨h3.out.s1, ?_⟩
              try simp only [Act.put, List.getElem_toArray, List.getElem_cons_zero, List.getElem_cons_succ]
              refine one_keep (i := 13) (by kernel_rfl) (keep_step rfl (by rfl) ?_)
              refine wp_store_mid 45 (.tmp 23) (.tmp 83) rfl b23 0 J2.toArray rfl rfl h3.out.t2 hI.2.2.1 hI.2.2.2 ?_
              rw [List.toList_toArray]
              refine ⟨h3.out.s2, ?_⟩
              try simp only [Act.put, List.getElem_toArray, List.getElem_cons_zero, List.getElem_cons_succ]
              refine one_keep (i := 14) (by kernel_rfl) (keep_step rfl (by rfl) ?_)
              refine wp_store_mid 43 (.tmp 24) (.tmp 84) rfl b24 0 (sa s1) rfl rfl h3.out.t3 HIs.out.1 (all_sa s1) ?_
              rw [HIs.out.2.1]
              refine ⟨h3.out.s3, ?_⟩
              try simp only [Act.put, List.getElem_toArray, List.getElem_cons_zero, List.getElem_cons_succ]
              refine take_s (i := 15) (v := ?_) rfl (by kernel_rfl) (by kernel_rfl) (by kernel_rfl) (fun _ _ _ h => h) (by rfl) ?_ h3.out.s3 ?_
              rotate_left
              · intro w' hLat; clear hLat; go_simp <;> with_reducible rfl
              try simp only [Act.put, List.setIfInBounds_toArray, List.set_cons_zero, List.set_cons_succ, List.getElem_toArray, List.getElem_cons_zero, List.getElem_cons_succ]
              refine wpAnyH_done (by kernel_rfl) ?_ _
              exact HRest.out b23 b24 ma mc V2 J2 _ h3.out.fz
            · refine keep_step rfl (by rfl) ?_
              unfold Oper.wp
              rw [exec_alloc 45 rfl _ HZJ.out.1]
              obtain ⟨b23, e1⟩ : ∃ b, y48.heap.size = b := ⟨_, rfl⟩
              obtain ⟨y51, e2⟩ : ∃ y, y48.alloc (.cells ZJ 45) = y := ⟨_, rfl⟩
              have hb : Below y48.heap.size y48 y51 := by rw [← e2]; exact (nb_new _ _ _).2
              have n3 : Nb y51 b23 ZJ 45 := by rw [← e1, ← e2]; exact (nb_new _ _ _).1
              have g3 := HAl.out _ hB
              rw [e1] at g3
              have hB := HBd.out _ _ hB hb
              have hT := hT.below hb
              have n4 := n4.below hb
              simp only [e1, e2]
              clear hb e1 e2
              refine ⟨HSw.out _ hB, ?_⟩
              try simp only [Act.put, List.setIfInBounds_toArray, List.set_cons_zero, List.set_cons_succ, List.getElem_toArray, List.getElem_cons_zero, List.getElem_cons_succ]
              refine one_keep (i := 4) (by kernel_rfl) ?_
              refine keep_step rfl (by rfl) ?_
              go_simp
              refine Calls.mono (HRa.out _ ma mc hB hT) ?_
              rintro e y52 ⟨V2, J2, rfl, hA, hI, hb⟩
              have hB := HBd.out _ _ hB hb
              have hT := hT.below hb
              have n3 := n3.below hb
              have n4 := n4.below hb
              clear hb
              refine ⟨HSw.out _ hB, ?_⟩
              try simp only [Act.put, List.setIfInBounds_toArray, List.set_cons_zero, List.set_cons_succ, List.getElem_toArray, List.getElem_cons_zero, List.getElem_cons_succ]
              refine take_s (i := 5) (v := ?_) rfl (by kernel_rfl) (by kernel_rfl) (by kernel_rfl) (fun _ _ _ h => h) (by rfl) ?_ (HSw.out _ hB) ?_
              rotate_left
              · intro w' hLat; clear hLat; go_simp <;> with_reducible rfl
              try simp only [Act.put, List.setIfInBounds_toArray, List.set_cons_zero, List.set_cons_succ, List.getElem_toArray, List.getElem_cons_zero, List.getElem_cons_succ]
              refine take_s (i := 6) (v := ?_) rfl (by kernel_rfl) (by kernel_rfl) (by kernel_rfl) (fun _ _ _ h => h) (by rfl) ?_ (HSw.out _ hB) ?_
              rotate_left
              · intro w' hLat; clear hLat; go_simp <;> with_reducible rfl
              try simp only [Act.put, List.setIfInBounds_toArray, List.set_cons_zero, List.set_cons_succ, List.getElem_toArray, List.getElem_cons_zero, List.getElem_cons_succ]
              refine take_s (i := 7) (v := ?_) rfl (by kernel_rfl) (by kernel_rfl) (by kernel_rfl) (fun _ _ _ h => h) (by rfl) ?_ (HSw.out _ hB) ?_
              rotate_left
              · intro w' hLat; clear hLat; go_simp <;> with_reducible rfl
              try simp only [Act.put, List.setIfInBounds_toArray, List.set_cons_zero, List.set_cons_succ, List.getElem_toArray, List.getElem_cons_zero, List.getElem_cons_succ]
              refine take_s (i := 8) (v := ?_) rfl (by kernel_rfl) (by kernel_rfl) (by kernel_rfl) (fun _ _ _ h => h) (by rfl) ?_ (HSw.out _ hB) ?_
              rotate_left
              · intro w' hLat; clear hLat; go_simp <;> with_reducible rfl
              try simp only [Act.put, List.setIfInBounds_toArray, List.set_cons_zero, List.set_cons_succ, List.getElem_toArray, List.getElem_cons_zero, List.getElem_cons_succ]
              refine take_s (i := 9) (v := ?_) rfl (by kernel_rfl) (by kernel_rfl) (by kernel_rfl) (fun _ _ _ h => h) (by rfl) ?_ (HSw.out _ hB) ?_
              rotate_left
              · intro w' hLat; clear hLat; go_simp <;> with_reducible rfl
              try simp only [Act.put, List.setIfInBounds_toArray, List.set_cons_zero, List.set_cons_succ, List.getElem_toArray, List.getElem_cons_zero, List.getElem_cons_succ]
              have h3 : Box _ := ⟨st3 (HBo.out _ hB) HVl.out HZJ.out.2 HIs.out.2.2.2.2.2.1 hA n3 n4 g3.1 g3.2.1 g4.2.1 g3.2.2 g4.2.2 HW0.out⟩
              refine one_keep (i := 12) (by kernel_rfl) (keep_step rfl (by rfl) ?_)
              refine wp_store_mid 34 (.tmp 12) (.tmp 82) rfl Bm 0 V2.toArray rfl rfl h3.out.t1 hI.1 hI.2.1 ?_
              rw [List.toList_toArray]
              refine ⟨h3.out.s1, ?_⟩
              try simp only [Act.put, List.getElem_toArray, List.getElem_cons_zero, List.getElem_cons_succ]
              refine one_keep (i := 13) (by kernel_rfl) (keep_step rfl (by rfl) ?_)
              refine wp_store_mid 45 (.tmp 23) (.tmp 83) rfl b23 0 J2.toArray rfl rfl h3.out.t2 hI.2.2.1 hI.2.2.2 ?_
              rw [List.toList_toArray]
              refine ⟨h3.out.s2, ?_⟩
              try simp only [Act.put, List.getElem_toArray, List.getElem_cons_zero, List.getElem_cons_succ]
              refine one_keep (i := 14) (by kernel_rfl) (keep_step rfl (by rfl) ?_)
              refine wp_store_mid 43 (.tmp 24) (.tmp 84) rfl b24 0 (sa s1) rfl rfl h3.out.t3 HIs.out.1 (all_sa s1) ?_
              rw [HIs.out.2.1]
              refine ⟨h3.out.s3, ?_⟩
              try simp only [Act.put, List.getElem_toArray, List.getElem_cons_zero, List.getElem_cons_succ]
              refine take_s (i := 15) (v := ?_) rfl (by kernel_rfl) (by kernel_rfl) (by kernel_rfl) (fun _ _ _ h => h) (by rfl) ?_ h3.out.s3 ?_
              rotate_left
              · intro w' hLat; clear hLat; go_simp <;> with_reducible rfl
              try simp only [Act.put, List.setIfInBounds_toArray, List.set_cons_zero, List.set_cons_succ, List.getElem_toArray, List.getElem_cons_zero, List.getElem_cons_succ]
              refine wpAnyH_done (by kernel_rfl) ?_ _
              exact HRest.out b23 b24 ma mc V2 J2 _ h3.out.fz
      · as_aux_lemma =>
          refine keep_step rfl (by rfl) ?_
          unfold Oper.wp
          rw [exec_alloc 45 rfl _ HZJ.out.1]
          obtain ⟨b23, e1⟩ : ∃ b, y36.heap.size = b := ⟨_, rfl⟩
          obtain ⟨y53, e2⟩ : ∃ y, y36.alloc (.cells ZJ 45) = y := ⟨_, rfl⟩
          have hb : Below y36.heap.size y36 y53 := by rw [← e2]; exact (nb_new _ _ _).2
          have n3 : Nb y53 b23 ZJ 45 := by rw [← e1, ← e2]; exact (nb_new _ _ _).1
          have g3 := HAl.out _ hB
          rw [e1] at g3
          have hB := HBd.out _ _ hB hb
          have hT := hT.below hb
          simp only [e1, e2]
          clear hb e1 e2
          refine ⟨HSw.out _ hB, ?_⟩
          try simp only [Act.put, List.setIfInBounds_toArray, List.set_cons_zero, List.set_cons_succ, List.getElem_toArray, List.getElem_cons_zero, List.getElem_cons_succ]
          refine two_keep (i := 0) (j := 11) (by kernel_rfl) ?_ ?_
          · refine keep_step rfl (by rfl) ?_
            unfold Oper.wp
            rw [exec_load_mid 34 _ (.tmp 12) rfl Tryd.underlying34 rfl Bm 0 rfl V HVm.out.2.1 (HVm.out.1 _ hB)]
            refine ⟨HSw.out _ hB, ?_⟩
            try simp only [Act.put, List.setIfInBounds_toArray, List.set_cons_zero, List.set_cons_succ, List.getElem_toArray, List.getElem_cons_zero]
            refine two_keep (i := 4) (j := 11) (by kernel_rfl) ?_ ?_
            · refine keep_step rfl (by rfl) ?_
              go_simp
              refine Calls.mono (HRa.out _ ma mc hB hT) ?_
              rintro e y55 ⟨V2, J2, rfl, hA, hI, hb⟩
              have hB := HBd.out _ _ hB hb
              have hT := hT.below hb
              have n3 := n3.below hb
              clear hb
              refine ⟨HSw.out _ hB, ?_⟩
              try simp only [Act.put, List.setIfInBounds_toArray, List.set_cons_zero, List.set_cons_succ, List.getElem_toArray, List.getElem_cons_zero, List.getElem_cons_succ]
              refine take_s (i := 5) (v := ?_) rfl (by kernel_rfl) (by kernel_rfl) (by kernel_rfl) (fun _ _ _ h => h) (by rfl) ?_ (HSw.out _ hB) ?_
              rotate_left
              · intro w' hLat; clear hLat; go_simp <;> with_reducible rfl
              try simp only [Act.put, List.setIfInBounds_toArray, List.set_cons_zero, List.set_cons_succ, List.getElem_toArray, List.getElem_cons_zero, List.getElem_cons_succ]
              refine take_s (i := 6) (v := ?_) rfl (by kernel_rfl) (by kernel_rfl) (by kernel_rfl) (fun _ _ _ h => h) (by rfl) ?_ (HSw.out _ hB) ?_
              rotate_left
              · intro w' hLat; clear hLat; go_simp <;> with_reducible rfl
              try simp only [Act.put, List.setIfInBounds_toArray, List.set_cons_zero, List.set_cons_succ, List.getElem_toArray, List.getElem_cons_zero, List.getElem_cons_succ]
              refine take_s (i := 7) (v := ?_) rfl (by kernel_rfl) (by kernel_rfl) (by kernel_rfl) (fun _ _ _ h => h) (by rfl) ?_ (HSw.out _ hB) ?_
              rotate_left
              · intro w' hLat; clear hLat; go_simp <;> with_reducible rfl
              try simp only [Act.put, List.setIfInBounds_toArray, List.set_cons_zero, List.set_cons_succ, List.getElem_toArray, List.getElem_cons_zero, List.getElem_cons_succ]
              refine take_s (i := 8) (v := ?_) rfl (by kernel_rfl) (by kernel_rfl) (by kernel_rfl) (fun _ _ _ h => h) (by rfl) ?_ (HSw.out _ hB) ?_
              rotate_left
              · intro w' hLat; clear hLat; go_simp <;> with_reducible rfl
              try simp only [Act.put, List.setIfInBounds_toArray, List.set_cons_zero, List.set_cons_succ, List.getElem_toArray, List.getElem_cons_zero, List.getElem_cons_succ]
              refine take_s (i := 9) (v := ?_) rfl (by kernel_rfl) (by kernel_rfl) (by kernel_rfl) (fun _ _ _ h => h) (by rfl) ?_ (HSw.out _ hB) ?_
              rotate_left
              · intro w' hLat; clear hLat; go_simp <;> with_reducible rfl
              try simp only [Act.put, List.setIfInBounds_toArray, List.set_cons_zero, List.set_cons_succ, List.getElem_toArray, List.getElem_cons_zero, List.getElem_cons_succ]
              refine one_keep (i := 11) (by kernel_rfl) ?_
              refine keep_step rfl (by rfl) ?_
              unfold Oper.wp
              rw [exec_alloc 43 rfl _ zeroS13]
              obtain ⟨b24, e1⟩ : ∃ b, y55.heap.size = b := ⟨_, rfl⟩
              obtain ⟨y56, e2⟩ : ∃ y, y55.alloc (.cells (sa zs) 43) = y := ⟨_, rfl⟩
              have hb : Below y55.heap.size y55 y56 := by rw [← e2]; exact (nb_new _ _ _).2
              have n4 : Nb y56 b24 (sa zs) 43 := by rw [← e1, ← e2]; exact (nb_new _ _ _).1
              have g4 := HAl.out _ hB
              rw [e1] at g4
              have hB := HBd.out _ _ hB hb
              have hT := hT.below hb
              have hA := hA.below hb
              have n3 := n3.below hb
              simp only [e1, e2]
              clear hb e1 e2
              refine ⟨HSw.out _ hB, ?_⟩
              try simp only [Act.put, List.setIfInBounds_toArray, List.set_cons_zero, List.set_cons_succ, List.getElem_toArray, List.getElem_cons_zero, List.getElem_cons_succ]
              have h3 : Box _ := ⟨st3 (HBo.out _ hB) HVl.out HZJ.out.2 HIs.out.2.2.2.2.2.1 hA n3 n4 g3.1 g3.2.1 g4.2.1 g3.2.2 g4.2.2 HW0.out⟩
              refine one_keep (i := 12) (by kernel_rfl) (keep_step rfl (by rfl) ?_)
              refine wp_store_mid 34 (.tmp 12) (.tmp 82) rfl Bm 0 V2.toArray rfl rfl h3.out.t1 hI.1 hI.2.1 ?_
              rw [List.toList_toArray]
              refine ⟨h3.out.s1, ?_⟩
              try simp only [Act.put, List.getElem_toArray, List.getElem_cons_zero, List.getElem_cons_succ]
              refine one_keep (i := 13) (by kernel_rfl) (keep_step rfl (by rfl) ?_)
              refine wp_store_mid 45 (.tmp 23) (.tmp 83) rfl b23 0 J2.toArray rfl rfl h3.out.t2 hI.2.2.1 hI.2.2.2 ?_
              rw [List.toList_toArray]
              refine ⟨h3.out.s2, ?_⟩
              try simp only [Act.put, List.getElem_toArray, List.getElem_cons_zero, List.getElem_cons_succ]
              refine one_keep (i := 14) (by kernel_rfl) (keep_step rfl (by rfl) ?_)
              refine wp_store_mid 43 (.tmp 24) (.tmp 84) rfl b24 0 (sa s1) rfl rfl h3.out.t3 HIs.out.1 (all_sa s1) ?_
              rw [HIs.out.2.1]
              refine ⟨h3.out.s3, ?_⟩
              try simp only [Act.put, List.getElem_toArray, List.getElem_cons_zero, List.getElem_cons_succ]
              refine take_s (i := 15) (v := ?_) rfl (by kernel_rfl) (by kernel_rfl) (by kernel_rfl) (fun _ _ _ h => h) (by rfl) ?_ h3.out.s3 ?_
              rotate_left
              · intro w' hLat; clear hLat; go_simp <;> with_reducible rfl
              try simp only [Act.put, List.setIfInBounds_toArray, List.set_cons_zero, List.set_cons_succ, List.getElem_toArray, List.getElem_cons_zero, List.getElem_cons_succ]
              refine wpAnyH_done (by kernel_rfl) ?_ _
              exact HRest.out b23 b24 ma mc V2 J2 _ h3.out.fz
            · refine keep_step rfl (by rfl) ?_
              unfold Oper.wp
              rw [exec_alloc 43 rfl _ zeroS13]
              obtain ⟨b24, e1⟩ : ∃ b, y53.heap.size = b := ⟨_, rfl⟩
              obtain ⟨y57, e2⟩ : ∃ y, y53.alloc (.cells (sa zs) 43) = y := ⟨_, rfl⟩
              have hb : Below y53.heap.size y53 y57 := by rw [← e2]; exact (nb_new _ _ _).2
              have n4 : Nb y57 b24 (sa zs) 43 := by rw [← e1, ← e2]; exact (nb_new _ _ _).1
              have g4 := HAl.out _ hB
              rw [e1] at g4
              have hB := HBd.out _ _ hB hb
              have hT := hT.below hb
              have n3 := n3.below hb
              simp only [e1, e2]
              clear hb e1 e2
              refine ⟨HSw.out _ hB, ?_⟩
              try simp only [Act.put, List.setIfInBounds_toArray, List.set_cons_zero, List.set_cons_succ, List.getElem_toArray, List.getElem_cons_zero, List.getElem_cons_succ]
              refine one_keep (i := 4) (by kernel_rfl) ?_
              refine keep_step rfl (by rfl) ?_
              go_simp
              refine Calls.mono (HRa.out _ ma mc hB hT) ?_
              rintro e y58 ⟨V2, J2, rfl, hA, hI, hb⟩
              have hB := HBd.out _ _ hB hb
              have hT := hT.below hb
              have n3 := n3.below hb
              have n4 := n4.below hb
              clear hb
              refine ⟨HSw.out _ hB, ?_⟩
              try simp only [Act.put, List.setIfInBounds_toArray, List.set_cons_zero, List.set_cons_succ, List.getElem_toArray, List.getElem_cons_zero, List.getElem_cons_succ]
              refine take_s (i := 5) (v := ?_) rfl (by kernel_rfl) (by kernel_rfl) (by kernel_rfl) (fun _ _ _ h => h) (by rfl) ?_ (HSw.out _ hB) ?_
              rotate_left
              · intro w' hLat; clear hLat; go_simp <;> with_reducible rfl
              try simp only [Act.put, List.setIfInBounds_toArray, List.set_cons_zero, List.set_cons_succ, List.getElem_toArray, List.getElem_cons_zero, List.getElem_cons_succ]
              refine take_s (i := 6) (v := ?_) rfl (by kernel_rfl) (by kernel_rfl) (by kernel_rfl) (fun _ _ _ h => h) (by rfl) ?_ (HSw.out _ hB) ?_
              rotate_left
              · intro w' hLat; clear hLat; go_simp <;> with_reducible rfl
              try simp only [Act.put, List.setIfInBounds_toArray, List.set_cons_zero, List.set_cons_succ, List.getElem_toArray, List.getElem_cons_zero, List.getElem_cons_succ]
              refine take_s (i := 7) (v := ?_) rfl (by kernel_rfl) (by kernel_rfl) (by kernel_rfl) (fun _ _ _ h => h) (by rfl) ?_ (HSw.out _ hB) ?_
              rotate_left
              · intro w' hLat; clear hLat; go_simp <;> with_reducible rfl
              try simp only [Act.put, List.setIfInBounds_toArray, List.set_cons_zero, List.set_cons_succ, List.getElem_toArray, List.getElem_cons_zero, List.getElem_cons_succ]
              refine take_s (i := 8) (v := ?_) rfl (by kernel_rfl) (by kernel_rfl) (by kernel_rfl) (fun _ _ _ h => h) (by rfl) ?_ (HSw.out _ hB) ?_
              rotate_left
              · intro w' hLat; clear hLat; go_simp <;> with_reducible rfl
              try simp only [Act.put, List.setIfInBounds_toArray, List.set_cons_zero, List.set_cons_succ, List.getElem_toArray, List.getElem_cons_zero, List.getElem_cons_succ]
              refine take_s (i := 9) (v := ?_) rfl (by kernel_rfl) (by kernel_rfl) (by kernel_rfl) (fun _ _ _ h => h) (by rfl) ?_ (HSw.out _ hB) ?_
              rotate_left
              · intro w' hLat; clear hLat; go_simp <;> with_reducible rfl
              try simp only [Act.put, List.setIfInBounds_toArray, List.set_cons_zero, List.set_cons_succ, List.getElem_toArray, List.getElem_cons_zero, List.getElem_cons_succ]
              have h3 : Box _ := ⟨st3 (HBo.out _ hB) HVl.out HZJ.out.2 HIs.out.2.2.2.2.2.1 hA n3 n4 g3.1 g3.2.1 g4.2.1 g3.2.2 g4.2.2 HW0.out⟩
              refine one_keep (i := 12) (by kernel_rfl) (keep_step rfl (by rfl) ?_)
              refine wp_store_mid 34 (.tmp 12) (.tmp 82) rfl Bm 0 V2.toArray rfl rfl h3.out.t1 hI.1 hI.2.1 ?_
              rw [List.toList_toArray]
              refine ⟨h3.out.s1, ?_⟩
              try simp only [Act.put, List.getElem_toArray, List.getElem_cons_zero, List.getElem_cons_succ]
              refine one_keep (i := 13) (by kernel_rfl) (keep_step rfl (by rfl) ?_)
              refine wp_store_mid 45 (.tmp 23) (.tmp 83) rfl b23 0 J2.toArray rfl rfl h3.out.t2 hI.2.2.1 hI.2.2.2 ?_
              rw [List.toList_toArray]
              refine ⟨h3.out.s2, ?_⟩
              try simp only [Act.put, List.getElem_toArray, List.getElem_cons_zero, List.getElem_cons_succ]
              refine one_keep (i := 14) (by kernel_rfl) (keep_step rfl (by rfl) ?_)
              refine wp_store_mid 43 (.tmp 24) (.tmp 84) rfl b24 0 (sa s1) rfl rfl h3.out.t3 HIs.out.1 (all_sa s1) ?_
              rw [HIs.out.2.1]
              refine ⟨h3.out.s3, ?_⟩
              try simp only [Act.put, List.getElem_toArray, List.getElem_cons_zero, List.getElem_cons_succ]
              refine take_s (i := 15) (v := ?_) rfl (by kernel_rfl) (by kernel_rfl) (by kernel_rfl) (fun _ _ _ h => h) (by rfl) ?_ h3.out.s3 ?_
              rotate_left
              · intro w' hLat; clear hLat; go_simp <;> with_reducible rfl
              try simp only [Act.put, List.setIfInBounds_toArray, List.set_cons_zero, List.set_cons_succ, List.getElem_toArray, List.getElem_cons_zero, List.getElem_cons_succ]
              refine wpAnyH_done (by kernel_rfl) ?_ _
              exact HRest.out b23 b24 ma mc V2 J2 _ h3.out.fz
          · refine keep_step rfl (by rfl) ?_
            unfold Oper.wp
            rw [exec_alloc 43 rfl _ zeroS13]
            obtain ⟨b24, e1⟩ : ∃ b, y53.heap.size = b := ⟨_, rfl⟩
            obtain ⟨y59, e2⟩ : ∃ y, y53.alloc (.cells (sa zs) 43) = y := ⟨_, rfl⟩
            have hb : Below y53.heap.size y53 y59 := by rw [← e2]; exact (nb_new _ _ _).2
            have n4 : Nb y59 b24 (sa zs) 43 := by rw [← e1, ← e2]; exact (nb_new _ _ _).1
            have g4 := HAl.out _ hB
            rw [e1] at g4
            have hB := HBd.out _ _ hB hb
            have hT := hT.below hb
            have n3 := n3.below hb
            simp only [e1, e2]
            clear hb e1 e2
            refine ⟨HSw.out _ hB, ?_⟩
            try simp only [Act.put, List.setIfInBounds_toArray, List.set_cons_zero, List.set_cons_succ, List.getElem_toArray, List.getElem_cons_zero, List.getElem_cons_succ]
            refine one_keep (i := 0) (by kernel_rfl) ?_
            refine keep_step rfl (by rfl) ?_
            unfold Oper.wp
            rw [exec_load_mid 34 _ (.tmp 12) rfl Tryd.underlying34 rfl Bm 0 rfl V HVm.out.2.1 (HVm.out.1 _ hB)]
            refine ⟨HSw.out _ hB, ?_⟩
            try simp only [Act.put, List.setIfInBounds_toArray, List.set_cons_zero, List.set_cons_succ, List.getElem_toArray, List.getElem_cons_zero]
            refine one_keep (i := 4) (by kernel_rfl) ?_
            refine keep_step rfl (by rfl) ?_
            go_simp
            refine Calls.mono (HRa.out _ ma mc hB hT) ?_
            rintro e y61 ⟨V2, J2, rfl, hA, hI, hb⟩
            have hB := HBd.out _ _ hB hb
            have hT := hT.below hb
            have n3 := n3.below hb
            have n4 := n4.below hb
            clear hb
            refine ⟨HSw.out _ hB, ?_⟩
            try simp only [Act.put, List.setIfInBounds_toArray, List.set_cons_zero, List.set_cons_succ, List.getElem_toArray, List.getElem_cons_zero, List.getElem_cons_succ]
            refine take_s (i := 5) (v := ?_) rfl (by kernel_rfl) (by kernel_rfl) (by kernel_rfl) (fun _ _ _ h => h) (by rfl) ?_ (HSw.out _ hB) ?_
            rotate_left
            · intro w' hLat; clear hLat; go_simp <;> with_reducible rfl
            try simp only [Act.put, List.setIfInBounds_toArray, List.set_cons_zero, List.set_cons_succ, List.getElem_toArray, List.getElem_cons_zero, List.getElem_cons_succ]
            refine take_s (i := 6) (v := ?_) rfl (by kernel_rfl) (by kernel_rfl) (by kernel_rfl) (fun _ _ _ h => h) (by rfl) ?_ (HSw.out _ hB) ?_
            rotate_left
            · intro w' hLat; clear hLat; go_simp <;> with_reducible rfl
            try simp only [Act.put, List.setIfInBounds_toArray, List.set_cons_zero, List.set_cons_succ, List.getElem_toArray, List.getElem_cons_zero, List.getElem_cons_succ]
            refine take_s (i := 7) (v := ?_) rfl (by kernel_rfl) (by kernel_rfl) (by kernel_rfl) (fun _ _ _ h => h) (by rfl) ?_ (HSw.out _ hB) ?_
            rotate_left
            · intro w' hLat; clear hLat; go_simp <;> with_reducible rfl
            try simp only [Act.put, List.setIfInBounds_toArray, List.set_cons_zero, List.set_cons_succ, List.getElem_toArray, List.getElem_cons_zero, List.getElem_cons_succ]
            refine take_s (i := 8) (v := ?_) rfl (by kernel_rfl) (by kernel_rfl) (by kernel_rfl) (fun _ _ _ h => h) (by rfl) ?_ (HSw.out _ hB) ?_
            rotate_left
            · intro w' hLat; clear hLat; go_simp <;> with_reducible rfl
            try simp only [Act.put, List.setIfInBounds_toArray, List.set_cons_zero, List.set_cons_succ, List.getElem_toArray, List.getElem_cons_zero, List.getElem_cons_succ]
            refine take_s (i := 9) (v := ?_) rfl (by kernel_rfl) (by kernel_rfl) (by kernel_rfl) (fun _ _ _ h => h) (by rfl) ?_ (HSw.out _ hB) ?_
            rotate_left
            · intro w' hLat; clear hLat; go_simp <;> with_reducible rfl
            try simp only [Act.put, List.setIfInBounds_toArray, List.set_cons_zero, List.set_cons_succ, List.getElem_toArray, List.getElem_cons_zero, List.getElem_cons_succ]
            have h3 : Box _ := ⟨st3 (HBo.out _ hB) HVl.out HZJ.out.2 HIs.out.2.2.2.2.2.1 hA n3 n4 g3.1 g3.2.1 g4.2.1 g3.2.2 g4.2.2 HW0.out⟩
            refine one_keep (i := 12) (by kernel_rfl) (keep_step rfl (by rfl) ?_)
            refine wp_store_mid 34 (.tmp 12) (.tmp 82) rfl Bm 0 V2.toArray rfl rfl h3.out.t1 hI.1 hI.2.1 ?_
            rw [List.toList_toArray]
            refine ⟨h3.out.s1, ?_⟩
            try simp only [Act.put, List.getElem_toArray, List.getElem_cons_zero, List.getElem_cons_succ]
            refine one_keep (i := 13) (by kernel_rfl) (keep_step rfl (by rfl) ?_)
            refine wp_store_mid 45 (.tmp 23) (.tmp 83) rfl b23 0 J2.toArray rfl rfl h3.out.t2 hI.2.2.1 hI.2.2.2 ?_
            rw [List.toList_toArray]
            refine ⟨h3.out.s2, ?_⟩
            try simp only [Act.put, List.getElem_toArray, List.getElem_cons_zero, List.getElem_cons_succ]
            refine one_keep (i := 14) (by kernel_rfl) (keep_step rfl (by rfl) ?_)
            refine wp_store_mid 43 (.tmp 24) (.tmp 84) rfl b24 0 (sa s1) rfl rfl h3.out.t3 HIs.out.1 (all_sa s1) ?_
            rw [HIs.out.2.1]
            refine ⟨h3.out.s3, ?_⟩
            try simp only [Act.put, List.getElem_toArray, List.getElem_cons_zero, List.getElem_cons_succ]
            refine take_s (i := 15) (v := ?_) rfl (by kernel_rfl) (by kernel_rfl) (by kernel_rfl) (fun _ _ _ h => h) (by rfl) ?_ h3.out.s3 ?_
            rotate_left
            · intro w' hLat; clear hLat; go_simp <;> with_reducible rfl
            try simp only [Act.put, List.setIfInBounds_toArray, List.set_cons_zero, List.set_cons_succ, List.getElem_toArray, List.getElem_cons_zero, List.getElem_cons_succ]
            refine wpAnyH_done (by kernel_rfl) ?_ _
            exact HRest.out b23 b24 ma mc V2 J2 _ h3.out.fz
      · as_aux_lemma =>
          refine keep_step rfl (by rfl) ?_
          unfold Oper.wp
          rw [exec_alloc 43 rfl _ zeroS13]
          obtain ⟨b24, e1⟩ : ∃ b, y36.heap.size = b := ⟨_, rfl⟩
          obtain ⟨y62, e2⟩ : ∃ y, y36.alloc (.cells (sa zs) 43) = y := ⟨_, rfl⟩
          have hb : Below y36.heap.size y36 y62 := by rw [← e2]; exact (nb_new _ _ _).2
          have n4 : Nb y62 b24 (sa zs) 43 := by rw [← e1, ← e2]; exact (nb_new _ _ _).1
          have g4 := HAl.out _ hB
          rw [e1] at g4
          have hB := HBd.out _ _ hB hb
          have hT := hT.below hb
          simp only [e1, e2]
          clear hb e1 e2
          refine ⟨HSw.out _ hB, ?_⟩
          try simp only [Act.put, List.setIfInBounds_toArray, List.set_cons_zero, List.set_cons_succ, List.getElem_toArray, List.getElem_cons_zero, List.getElem_cons_succ]
          refine two_keep (i := 0) (j := 10) (by kernel_rfl) ?_ ?_
          · refine keep_step rfl (by rfl) ?_
            unfold Oper.wp
            rw [exec_load_mid 34 _ (.tmp 12) rfl Tryd.underlying34 rfl Bm 0 rfl V HVm.out.2.1 (HVm.out.1 _ hB)]
            refine ⟨HSw.out _ hB, ?_⟩
            try simp only [Act.put, List.setIfInBounds_toArray, List.set_cons_zero, List.set_cons_succ, List.getElem_toArray, List.getElem_cons_zero]
            refine two_keep (i := 4) (j := 10) (by kernel_rfl) ?_ ?_
            · refine keep_step rfl (by rfl) ?_
              go_simp
              refine Calls.mono (HRa.out _ ma mc hB hT) ?_
              rintro e y64 ⟨V2, J2, rfl, hA, hI, hb⟩
              have hB := HBd.out _ _ hB hb
              have hT := hT.below hb
              have n4 := n4.below hb
              clear hb
              refine ⟨HSw.out _ hB, ?_⟩
              try simp only [Act.put, List.setIfInBounds_toArray, List.set_cons_zero, List.set_cons_succ, List.getElem_toArray, List.getElem_cons_zero, List.getElem_cons_succ]
              refine take_s (i := 5) (v := ?_) rfl (by kernel_rfl) (by kernel_rfl) (by kernel_rfl) (fun _ _ _ h => h) (by rfl) ?_ (HSw.out _ hB) ?_
              rotate_left
              · intro w' hLat; clear hLat; go_simp <;> with_reducible rfl
              try simp only [Act.put, List.setIfInBounds_toArray, List.set_cons_zero, List.set_cons_succ, List.getElem_toArray, List.getElem_cons_zero, List.getElem_cons_succ]
              refine take_s (i := 6) (v := ?_) rfl (by kernel_rfl) (by kernel_rfl) (by kernel_rfl) (fun _ _ _ h => h) (by rfl) ?_ (HSw.out _ hB) ?_
              rotate_left
              · intro w' hLat; clear hLat; go_simp <;> with_reducible rfl
              try simp only [Act.put, List.setIfInBounds_toArray, List.set_cons_zero, List.set_cons_succ, List.getElem_toArray, List.getElem_cons_zero, List.getElem_cons_succ]
              refine take_s (i := 7) (v := ?_) rfl (by kernel_rfl) (by kernel_rfl) (by kernel_rfl) (fun _ _ _ h => h) (by rfl) ?_ (HSw.out _ hB) ?_
              rotate_left
              · intro w' hLat; clear hLat; go_simp <;> with_reducible rfl
              try simp only [Act.put, List.setIfInBounds_toArray, List.set_cons_zero, List.set_cons_succ, List.getElem_toArray, List.getElem_cons_zero, List.getElem_cons_succ]
              refine take_s (i := 8) (v := ?_) rfl (by kernel_rfl) (by kernel_rfl) (by kernel_rfl) (fun _ _ _ h => h) (by rfl) ?_ (HSw.out _ hB) ?_
              rotate_left
              · intro w' hLat; clear hLat; go_simp <;> with_reducible rfl
              try simp only [Act.put, List.setIfInBounds_toArray, List.set_cons_zero, List.set_cons_succ, List.getElem_toArray, List.getElem_cons_zero, List.getElem_cons_succ]
              refine take_s (i := 9) (v := ?_) rfl (by kernel_rfl) (by kernel_rfl) (by kernel_rfl) (fun _ _ _ h => h) (by rfl) ?_ (HSw.out _ hB) ?_
              rotate_left
              · intro w' hLat; clear hLat; go_simp <;> with_reducible rfl
              try simp only [Act.put, List.setIfInBounds_toArray, List.set_cons_zero, List.set_cons_succ, List.getElem_toArray, List.getElem_cons_zero, List.getElem_cons_succ]
              refine one_keep (i := 10) (by kernel_rfl) ?_
              refine keep_step rfl (by rfl) ?_
              unfold Oper.wp
              rw [exec_alloc 45 rfl _ HZJ.out.1]
              obtain ⟨b23, e1⟩ : ∃ b, y64.heap.size = b := ⟨_, rfl⟩
              obtain ⟨y65, e2⟩ : ∃ y, y64.alloc (.cells ZJ 45) = y := ⟨_, rfl⟩
              have hb : Below y64.heap.size y64 y65 := by rw [← e2]; exact (nb_new _ _ _).2
              have n3 : Nb y65 b23 ZJ 45 := by rw [← e1, ← e2]; exact (nb_new _ _ _).1
              have g3 := HAl.out _ hB
              rw [e1] at g3
              have hB := HBd.out _ _ hB hb
              have hT := hT.below hb
              have hA := hA.below hb
              have n4 := n4.below hb
              simp only [e1, e2]
              clear hb e1 e2
              refine ⟨HSw.out _ hB, ?_⟩
              try simp only [Act.put, List.setIfInBounds_toArray, List.set_cons_zero, List.set_cons_succ, List.getElem_toArray, List.getElem_cons_zero, List.getElem_cons_succ]
              have h3 : Box _ := ⟨st3 (HBo.out _ hB) HVl.out HZJ.out.2 HIs.out.2.2.2.2.2.1 hA n3 n4 g3.1 g3.2.1 g4.2.1 g3.2.2 g4.2.2 HW0.out⟩
              refine one_keep (i := 12) (by kernel_rfl) (keep_step rfl (by rfl) ?_)
              refine wp_store_mid 34 (.tmp 12) (.tmp 82) rfl Bm 0 V2.toArray rfl rfl h3.out.t1 hI.1 hI.2.1 ?_
              rw [List.toList_toArray]
              refine ⟨h3.out.s1, ?_⟩
              try simp only [Act.put, List.getElem_toArray, List.getElem_cons_zero, List.getElem_cons_succ]
              refine one_keep (i := 13) (by kernel_rfl) (keep_step rfl (by rfl) ?_)
              refine wp_store_mid 45 (.tmp 23) (.tmp 83) rfl b23 0 J2.toArray rfl rfl h3.out.t2 hI.2.2.1 hI.2.2.2 ?_
              rw [List.toList_toArray]
              refine ⟨h3.out.s2, ?_⟩
              try simp only [Act.put, List.getElem_toArray, List.getElem_cons_zero, List.getElem_cons_succ]
              refine one_keep (i := 14) (by kernel_rfl) (keep_step rfl (by rfl) ?_)
              refine wp_store_mid 43 (.tmp 24) (.tmp 84) rfl b24 0 (sa s1) rfl rfl h3.out.t3 HIs.out.1 (all_sa s1) ?_
              rw [HIs.out.2.1]
              refine ⟨h3.out.s3, ?_⟩
              try simp only [Act.put, List.getElem_toArray, List.getElem_cons_zero, List.getElem_cons_succ]
              refine take_s (i := 15) (v := ?_) rfl (by kernel_rfl) (by kernel_rfl) (by kernel_rfl) (fun _ _ _ h => h) (by rfl) ?_ h3.out.s3 ?_
              rotate_left
              · intro w' hLat; clear hLat; go_simp <;> with_reducible rfl
              try simp only [Act.put, List.setIfInBounds_toArray, List.set_cons_zero, List.set_cons_succ, List.getElem_toArray, List.getElem_cons_zero, List.getElem_cons_succ]
              refine wpAnyH_done (by kernel_rfl) ?_ _
              exact HRest.out b23 b24 ma mc V2 J2 _ h3.out.fz
            · refine keep_step rfl (by rfl) ?_
              unfold Oper.wp
              rw [exec_alloc 45 rfl _ HZJ.out.1]
              obtain ⟨b23, e1⟩ : ∃ b, y62.heap.size = b := ⟨_, rfl⟩
              obtain ⟨y66, e2⟩ : ∃ y, y62.alloc (.cells ZJ 45) = y := ⟨_, rfl⟩
              have hb : Below y62.heap.size y62 y66 := by rw [← e2]; exact (nb_new _ _ _).2
              have n3 : Nb y66 b23 ZJ 45 := by rw [← e1, ← e2]; exact (nb_new _ _ _).1
              have g3 := HAl.out _ hB
              rw [e1] at g3
              have hB := HBd.out _ _ hB hb
              have hT := hT.below hb
              have n4 := n4.below hb
              simp only [e1, e2]
              clear hb e1 e2
              refine ⟨HSw.out _ hB, ?_⟩
              try simp only [Act.put, List.setIfInBounds_toArray, List.set_cons_zero, List.set_cons_succ, List.getElem_toArray, List.getElem_cons_zero, List.getElem_cons_succ]
              refine one_keep (i := 4) (by kernel_rfl) ?_
              refine keep_step rfl (by rfl) ?_
              go_simp
              refine Calls.mono (HRa.out _ ma mc hB hT) ?_
              rintro e y67 ⟨V2, J2, rfl, hA, hI, hb⟩
              have hB := HBd.out _ _ hB hb
              have hT := hT.below hb
              have n3 := n3.below hb
              have n4 := n4.below hb
              clear hb
              refine ⟨HSw.out _ hB, ?_⟩
              try simp only [Act.put, List.setIfInBounds_toArray, List.set_cons_zero, List.set_cons_succ, List.getElem_toArray, List.getElem_cons_zero, List.getElem_cons_succ]
              refine take_s (i := 5) (v := ?_) rfl (by kernel_rfl) (by kernel_rfl) (by kernel_rfl) (fun _ _ _ h => h) (by rfl) ?_ (HSw.out _ hB) ?_
              rotate_left
              · intro w' hLat; clear hLat; go_simp <;> with_reducible rfl
              try simp only [Act.put, List.setIfInBounds_toArray, List.set_cons_zero, List.set_cons_succ, List.getElem_toArray, List.getElem_cons_zero, List.getElem_cons_succ]
              refine take_s (i := 6) (v := ?_) rfl (by kernel_rfl) (by kernel_rfl) (by kernel_rfl) (fun _ _ _ h => h) (by rfl) ?_ (HSw.out _ hB) ?_
              rotate_left
              · intro w' hLat; clear hLat; go_simp <;> with_reducible rfl
              try simp only [Act.put, List.setIfInBounds_toArray, List.set_cons_zero, List.set_cons_succ, List.getElem_toArray, List.getElem_cons_zero, List.getElem_cons_succ]
              refine take_s (i := 7) (v := ?_) rfl (by kernel_rfl) (by kernel_rfl) (by kernel_rfl) (fun _ _ _ h => h) (by rfl) ?_ (HSw.out _ hB) ?_
              rotate_left
              · intro w' hLat; clear hLat; go_simp <;> with_reducible rfl
              try simp only [Act.put, List.setIfInBounds_toArray, List.set_cons_zero, List.set_cons_succ, List.getElem_toArray, List.getElem_cons_zero, List.getElem_cons_succ]
              refine take_s (i := 8) (v := ?_) rfl (by kernel_rfl) (by kernel_rfl) (by kernel_rfl) (fun _ _ _ h => h) (by rfl) ?_ (HSw.out _ hB) ?_
              rotate_left
              · intro w' hLat; clear hLat; go_simp <;> with_reducible rfl
              try simp only [Act.put, List.setIfInBounds_toArray, List.set_cons_zero, List.set_cons_succ, List.getElem_toArray, List.getElem_cons_zero, List.getElem_cons_succ]
              refine take_s (i := 9) (v := ?_) rfl (by kernel_rfl) (by kernel_rfl) (by kernel_rfl) (fun _ _ _ h => h) (by rfl) ?_ (HSw.out _ hB) ?_
              rotate_left
              · intro w' hLat; clear hLat; go_simp <;> with_reducible rfl
              try simp only [Act.put, List.setIfInBounds_toArray, List.set_cons_zero, List.set_cons_succ, List.getElem_toArray, List.getElem_cons_zero, List.getElem_cons_succ]
              have h3 : Box _ := ⟨st3 (HBo.out _ hB) HVl.out HZJ.out.2 HIs.out.2.2.2.2.2.1 hA n3 n4 g3.1 g3.2.1 g4.2.1 g3.2.2 g4.2.2 HW0.out⟩
              refine one_keep (i := 12) (by kernel_rfl) (keep_step rfl (by rfl) ?_)
              refine wp_store_mid 34 (.tmp 12) (.tmp 82) rfl Bm 0 V2.toArray rfl rfl h3.out.t1 hI.1 hI.2.1 ?_
              rw [List.toList_toArray]
              refine ⟨h3.out.s1, ?_⟩
              try simp only [Act.put, List.getElem_toArray, List.getElem_cons_zero, List.getElem_cons_succ]
              refine one_keep (i := 13) (by kernel_rfl) (keep_step rfl (by rfl) ?_)
              refine wp_store_mid 45 (.tmp 23) (.tmp 83) rfl b23 0 J2.toArray rfl rfl h3.out.t2 hI.2.2.1 hI.2.2.2 ?_
              rw [List.toList_toArray]
              refine ⟨h3.out.s2, ?_⟩
              try simp only [Act.put, List.getElem_toArray, List.getElem_cons_zero, List.getElem_cons_succ]
              refine one_keep (i := 14) (by kernel_rfl) (keep_step rfl (by rfl) ?_)
              refine wp_store_mid 43 (.tmp 24) (.tmp 84) rfl b24 0 (sa s1) rfl rfl h3.out.t3 HIs.out.1 (all_sa s1) ?_
              rw [HIs.out.2.1]
              refine ⟨h3.out.s3, ?_⟩
              try simp only [Act.put, List.getElem_toArray, List.getElem_cons_zero, List.getElem_cons_succ]
              refine take_s (i := 15) (v := ?_) rfl (by kernel_rfl) (by kernel_rfl) (by kernel_rfl) (fun _ _ _ h => h) (by rfl) ?_ h3.out.s3 ?_
              rotate_left
              · intro w' hLat; clear hLat; go_simp <;> with_reducible rfl
              try simp only [Act.put, List.setIfInBounds_toArray, List.set_cons_zero, List.set_cons_succ, List.getElem_toArray, List.getElem_cons_zero, List.getElem_cons_succ]
              refine wpAnyH_done (by kernel_rfl) ?_ _
              exact HRest.out b23 b24 ma mc V2 J2 _ h3.out.fz
          · refine keep_step rfl (by rfl) ?_
            unfold Oper.wp
            rw [exec_alloc 45 rfl _ HZJ.out.1]
            obtain ⟨b23, e1⟩ : ∃ b, y62.heap.size = b := ⟨_, rfl⟩
            obtain ⟨y68, e2⟩ : ∃ y, y62.alloc (.cells ZJ 45) = y := ⟨_, rfl⟩
            have hb : Below y62.heap.size y62 y68 := by rw [← e2]; exact (nb_new _ _ _).2
            have n3 : Nb y68 b23 ZJ 45 := by rw [← e1, ← e2]; exact (nb_new _ _ _).1
            have g3 := HAl.out _ hB
            rw [e1] at g3
            have hB := HBd.out _ _ hB hb
            have hT := hT.below hb
            have n4 := n4.below hb
            simp only [e1, e2]
            clear hb e1 e2
            refine ⟨HSw.out _ hB, ?_⟩
            try simp only [Act.put, List.setIfInBounds_toArray, List.set_cons_zero, List.set_cons_succ, List.getElem_toArray, List.getElem_cons_zero, List.getElem_cons_succ]
            refine one_keep (i := 0) (by kernel_rfl) ?_
            refine keep_step rfl (by rfl) ?_
            unfold Oper.wp
            rw [exec_load_mid 34 _ (.tmp 12) rfl Tryd.underlying34 rfl Bm 0 rfl V HVm.out.2.1 (HVm.out.1 _ hB)]
            refine ⟨HSw.out _ hB, ?_⟩
            try simp only [Act.put, List.setIfInBounds_toArray, List.set_cons_zero, List.set_cons_succ, List.getElem_toArray, List.getElem_cons_zero]
            refine one_keep (i := 4) (by kernel_rfl) ?_
            refine keep_step rfl (by rfl) ?_
            go_simp
            refine Calls.mono (HRa.out _ ma mc hB hT) ?_
            rintro e y70 ⟨V2, J2, rfl, hA, hI, hb⟩
            have hB := HBd.out _ _ hB hb
            have hT := hT.below hb
            have n3 := n3.below hb
            have n4 := n4.below hb
            clear hb
            refine ⟨HSw.out _ hB, ?_⟩
            try simp only [Act.put, List.setIfInBounds_toArray, List.set_cons_zero, List.set_cons_succ, List.getElem_toArray, List.getElem_cons_zero, List.getElem_cons_succ]
            refine take_s (i := 5) (v := ?_) rfl (by kernel_rfl) (by kernel_rfl) (by kernel_rfl) (fun _ _ _ h => h) (by rfl) ?_ (HSw.out _ hB) ?_
            rotate_left
            · intro w' hLat; clear hLat; go_simp <;> with_reducible rfl
            try simp only [Act.put, List.setIfInBounds_toArray, List.set_cons_zero, List.set_cons_succ, List.getElem_toArray, List.getElem_cons_zero, List.getElem_cons_succ]
            refine take_s (i := 6) (v := ?_) rfl (by kernel_rfl) (by kernel_rfl) (by kernel_rfl) (fun _ _ _ h => h) (by rfl) ?_ (HSw.out _ hB) ?_
            rotate_left
            · intro w' hLat; clear hLat; go_simp <;> with_reducible rfl
            try simp only [Act.put, List.setIfInBounds_toArray, List.set_cons_zero, List.set_cons_succ, List.getElem_toArray, List.getElem_cons_zero, List.getElem_cons_succ]
            refine take_s (i := 7) (v := ?_) rfl (by kernel_rfl) (by kernel_rfl) (by kernel_rfl) (fun _ _ _ h => h) (by rfl) ?_ (HSw.out _ hB) ?_
            rotate_left
            · intro w' hLat; clear hLat; go_simp <;> with_reducible rfl
            try simp only [Act.put, List.setIfInBounds_toArray, List.set_cons_zero, List.set_cons_succ, List.getElem_toArray, List.getElem_cons_zero, List.getElem_cons_succ]
            refine take_s (i := 8) (v := ?_) rfl (by kernel_rfl) (by kernel_rfl) (by kernel_rfl) (fun _ _ _ h => h) (by rfl) ?_ (HSw.out _ hB) ?_
            rotate_left
            · intro w' hLat; clear hLat; go_simp <;> with_reducible rfl
            try simp only [Act.put, List.setIfInBounds_toArray, List.set_cons_zero, List.set_cons_succ, List.getElem_toArray, List.getElem_cons_zero, List.getElem_cons_succ]
            refine take_s (i := 9) (v := ?_) rfl (by kernel_rfl) (by kernel_rfl) (by kernel_rfl) (fun _ _ _ h => h) (by rfl) ?_ (HSw.out _ hB) ?_
            rotate_left
            · intro w' hLat; clear hLat; go_simp <;> with_reducible rfl
            try simp only [Act.put, List.setIfInBounds_toArray, List.set_cons_zero, List.set_cons_succ, List.getElem_toArray, List.getElem_cons_zero, List.getElem_cons_succ]
            have h3 : Box _ := ⟨st3 (HBo.out _ hB) HVl.out HZJ.out.2 HIs.out.2.2.2.2.2.1 hA n3 n4 g3.1 g3.2.1 g4.2.1 g3.2.2 g4.2.2 HW0.out⟩
            refine one_keep (i := 12) (by kernel_rfl) (keep_step rfl (by rfl) ?_)
            refine wp_store_mid 34 (.tmp 12) (.tmp 82) rfl Bm 0 V2.toArray rfl rfl h3.out.t1 hI.1 hI.2.1 ?_
            rw [List.toList_toArray]
            refine ⟨h3.out.s1, ?_⟩
            try simp only [Act.put, List.getElem_toArray, List.getElem_cons_zero, List.getElem_cons_succ]
            refine one_keep (i := 13) (by kernel_rfl) (keep_step rfl (by rfl) ?_)
            refine wp_store_mid 45 (.tmp 23) (.tmp 83) rfl b23 0 J2.toArray rfl rfl h3.out.t2 hI.2.2.1 hI.2.2.2 ?_
            rw [List.toList_toArray]
            refine ⟨h3.out.s2, ?_⟩
            try simp only [Act.put, List.getElem_toArray, List.getElem_cons_zero, List.getElem_cons_succ]
            refine one_keep (i := 14) (by kernel_rfl) (keep_step rfl (by rfl) ?_)
            refine wp_store_mid 43 (.tmp 24) (.tmp 84) rfl b24 0 (sa s1) rfl rfl h3.out.t3 HIs.out.1 (all_sa s1) ?_
            rw [HIs.out.2.1]
            refine ⟨h3.out.s3, ?_⟩
            try simp only [Act.put, List.getElem_toArray, List.getElem_cons_zero, List.getElem_cons_succ]
            refine take_s (i := 15) (v := ?_) rfl (by kernel_rfl) (by kernel_rfl) (by kernel_rfl) (fun _ _ _ h => h) (by rfl) ?_ h3.out.s3 ?_
            rotate_left
            · intro w' hLat; clear hLat; go_simp <;> with_reducible rfl
            try simp only [Act.put, List.setIfInBounds_toArray, List.set_cons_zero, List.set_cons_succ, List.getElem_toArray, List.getElem_cons_zero, List.getElem_cons_succ]
            refine wpAnyH_done (by kernel_rfl) ?_ _
            exact HRest.out b23 b24 ma mc V2 J2 _ h3.out.fz
  · as_aux_lemma =>
      refine keep_step rfl (by rfl) ?_
      unfold Oper.wp
      rw [exec_alloc 45 rfl _ HZJ.out.1]
      obtain ⟨b23, e1⟩ : ∃ b, wd.heap.size = b := ⟨_, rfl⟩
      obtain ⟨y71, e2⟩ : ∃ y, wd.alloc (.cells ZJ 45) = y := ⟨_, rfl⟩
      have hb : Below wd.heap.size wd y71 := by rw [← e2]; exact (nb_new _ _ _).2
      have n3 : Nb y71 b23 ZJ 45 := by rw [← e1, ← e2]; exact (nb_new _ _ _).1
      have g3 := HAl.out _ hB
      rw [e1] at g3
      have hB := HBd.out _ _ hB hb
      simp only [e1, e2]
      clear hb e1 e2
      refine ⟨HSw.out _ hB, ?_⟩
      try simp only [Act.put, List.setIfInBounds_toArray, List.set_cons_zero, List.set_cons_succ, List.getElem_toArray, List.getElem_cons_zero, List.getElem_cons_succ]
      refine wpAnyH_all (rs := [0, 3, 11]) (by kernel_rfl) (by simp) (fun q hq => ?_)
      simp only [List.mem_cons, List.not_mem_nil, or_false] at hq
      rcases hq with rfl | rfl | rfl
      · as_aux_lemma =>
          refine keep_step rfl (by rfl) ?_
          unfold Oper.wp
          rw [exec_load_mid 34 _ (.tmp 12) rfl Tryd.underlying34 rfl Bm 0 rfl V HVm.out.2.1 (HVm.out.1 _ hB)]
          refine ⟨HSw.out _ hB, ?_⟩
          try simp only [Act.put, List.setIfInBounds_toArray, List.set_cons_zero, List.set_cons_succ, List.getElem_toArray, List.getElem_cons_zero]
          refine two_keep (i := 3) (j := 11) (by kernel_rfl) ?_ ?_
          · refine keep_step rfl (by rfl) ?_
            go_simp
            refine Calls.mono (HMo.out _ hB) ?_
            rintro e y73 ⟨ma, mc, rfl, hT, hb⟩
            have hB := HBd.out _ _ hB hb
            have n3 := n3.below hb
            clear hb
            refine ⟨HSw.out _ hB, ?_⟩
            try simp only [Act.put, List.setIfInBounds_toArray, List.set_cons_zero, List.set_cons_succ, List.getElem_toArray, List.getElem_cons_zero, List.getElem_cons_succ]
            refine two_keep (i := 4) (j := 11) (by kernel_rfl) ?_ ?_
            · refine keep_step rfl (by rfl) ?_
              go_simp
              refine Calls.mono (HRa.out _ ma mc hB hT) ?_
              rintro e y74 ⟨V2, J2, rfl, hA, hI, hb⟩
              have hB := HBd.out _ _ hB hb
              have hT := hT.below hb
              have n3 := n3.below hb
              clear hb
              refine ⟨HSw.out _ hB, ?_⟩
              try simp only [Act.put, List.setIfInBounds_toArray, List.set_cons_zero, List.set_cons_succ, List.getElem_toArray, List.getElem_cons_zero, List.getElem_cons_succ]
              refine take_s (i := 5) (v := ?_) rfl (by kernel_rfl) (by kernel_rfl) (by kernel_rfl) (fun _ _ _ h => h) (by rfl) ?_ (HSw.out _ hB) ?_
              rotate_left
              · intro w' hLat; clear hLat; go_simp <;> with_reducible rfl
              try simp only [Act.put, List.setIfInBounds_toArray, List.set_cons_zero, List.set_cons_succ, List.getElem_toArray, List.getElem_cons_zero, List.getElem_cons_succ]
              refine take_s (i := 6) (v := ?_) rfl (by kernel_rfl) (by kernel_rfl) (by kernel_rfl) (fun _ _ _ h => h) (by rfl) ?_ (HSw.out _ hB) ?_
              rotate_left
              · intro w' hLat; clear hLat; go_simp <;> with_reducible rfl
              try simp only [Act.put, List.setIfInBounds_toArray, List.set_cons_zero, List.set_cons_succ, List.getElem_toArray, List.getElem_cons_zero, List.getElem_cons_succ]
              refine take_s (i := 7) (v := ?_) rfl (by kernel_rfl) (by kernel_rfl) (by kernel_rfl) (fun _ _ _ h => h) (by rfl) ?_ (HSw.out _ hB) ?_
              rotate_left
              · intro w' hLat; clear hLat; go_simp <;> with_reducible rfl
              try simp only [Act.put, List.setIfInBounds_toArray, List.set_cons_zero, List.set_cons_succ, List.getElem_toArray, List.getElem_cons_zero, List.getElem_cons_succ]
              refine take_s (i := 8) (v := ?_) rfl (by kernel_rfl) (by kernel_rfl) (by kernel_rfl) (fun _ _ _ h => h) (by rfl) ?_ (HSw.out _ hB) ?_
              rotate_left
              · intro w' hLat; clear hLat; go_simp <;> with_reducible rfl
              try simp only [Act.put, List.setIfInBounds_toArray, List.set_cons_zero, List.set_cons_succ, List.getElem_toArray, List.getElem_cons_zero, List.getElem_cons_succ]
              refine take_s (i := 9) (v := ?_) rfl (by kernel_rfl) (by kernel_rfl) (by kernel_rfl) (fun _ _ _ h => h) (by rfl) ?_ (HSw.out _ hB) ?_
              rotate_left
              · intro w' hLat; clear hLat; go_simp <;> with_reducible rfl
              try simp only [Act.put, List.setIfInBounds_toArray, List.set_cons_zero, List.set_cons_succ, List.getElem_toArray, List.getElem_cons_zero, List.getElem_cons_succ]
              refine one_keep (i := 11) (by kernel_rfl) ?_
              refine keep_step rfl (by rfl) ?_
              unfold Oper.wp
              rw [exec_alloc 43 rfl _ zeroS13]
              obtain ⟨b24, e1⟩ : ∃ b, y74.heap.size = b := ⟨_, rfl⟩
              obtain ⟨y75, e2⟩ : ∃ y, y74.alloc (.cells (sa zs) 43) = y := ⟨_, rfl⟩
              have hb : Below y74.heap.size y74 y75 := by rw [← e2]; exact (nb_new _ _ _).2
              have n4 : Nb y75 b24 (sa zs) 43 := by rw [← e1, ← e2]; exact (nb_new _ _ _).1
              have g4 := HAl.out _ hB
              rw [e1] at g4
              have hB := HBd.out _ _ hB hb
              have hT := hT.below hb
              have hA := hA.below hb
              have n3 := n3.below hb
              simp only [e1, e2]
              clear hb e1 e2
              refine ⟨HSw.out _ hB, ?_⟩
              try simp only [Act.put, List.setIfInBounds_toArray, List.set_cons_zero, List.set_cons_succ, List.getElem_toArray, List.getElem_cons_zero, List.getElem_cons_succ]
              have h3 : Box _ := ⟨st3 (HBo.out _ hB) HVl.out HZJ.out.2 HIs.out.2.2.2.2.2.1 hA n3 n4 g3.1 g3.2.1 g4.2.1 g3.2.2 g4.2.2 HW0.out⟩
              refine one_keep (i := 12) (by kernel_rfl) (keep_step rfl (by rfl) ?_)
              refine wp_store_mid 34 (.tmp 12) (.tmp 82) rfl Bm 0 V2.toArray rfl rfl h3.out.t1 hI.1 hI.2.1 ?_
              rw [List.toList_toArray]
              refine ⟨h3.out.s1, ?_⟩
              try simp only [Act.put, List.getElem_toArray, List.getElem_cons_zero, List.getElem_cons_succ]
              refine one_keep (i := 13) (by kernel_rfl) (keep_step rfl (by rfl) ?_)
              refine wp_store_mid 45 (.tmp 23) (.tmp 83) rfl b23 0 J2.toArray rfl rfl h3.out.t2 hI.2.2.1 hI.2.2.2 ?_
              rw [List.toList_toArray]
              refine ⟨h3.out.s2, ?_⟩
              try simp only [Act.put, List.getElem_toArray, List.getElem_cons_zero, List.getElem_cons_succ]
              refine one_keep (i := 14) (by kernel_rfl) (keep_step rfl (by rfl) ?_)
              refine wp_store_mid 43 (.tmp 24) (.tmp 84) rfl b24 0 (sa s1) rfl rfl h3.out.t3 HIs.out.1 (all_sa s1) ?_
              rw [HIs.out.2.1]
              refine ⟨h3.out.s3, ?_⟩
              try simp only [Act.put, List.getElem_toArray, List.getElem_cons_zero, List.getElem_cons_succ]
              refine take_s (i := 15) (v := ?_) rfl (by kernel_rfl) (by kernel_rfl) (by kernel_rfl) (fun _ _ _ h => h) (by rfl) ?_ h3.out.s3 ?_
              rotate_left
              · intro w' hLat; clear hLat; go_simp <;> with_reducible rfl
              try simp only [Act.put, List.setIfInBounds_toArray, List.set_cons_zero, List.set_cons_succ, List.getElem_toArray, List.getElem_cons_zero, List.getElem_cons_succ]
              refine wpAnyH_done (by kernel_rfl) ?_ _
              exact HRest.out b23 b24 ma mc V2 J2 _ h3.out.fz
            · refine keep_step rfl (by rfl) ?_
              unfold Oper.wp
              rw [exec_alloc 43 rfl _ zeroS13]
              obtain ⟨b24, e1⟩ : ∃ b, y73.heap.size = b := ⟨_, rfl⟩
              obtain ⟨y76, e2⟩ : ∃ y, y73.alloc (.cells (sa zs) 43) = y := ⟨_, rfl⟩
              have hb : Below y73.heap.size y73 y76 := by rw [← e2]; exact (nb_new _ _ _).2
              have n4 : Nb y76 b24 (sa zs) 43 := by rw [← e1, ← e2]; exact (nb_new _ _ _).1
              have g4 := HAl.out _ hB
              rw [e1] at g4
              have hB := HBd.out _ _ hB hb
              have hT := hT.below hb
              have n3 := n3.below hb
              simp only [e1, e2]
              clear hb e1 e2
              refine ⟨HSw.out _ hB, ?_⟩
              try simp only [Act.put, List.setIfInBounds_toArray, List.set_cons_zero, List.set_cons_succ, List.getElem_toArray, List.getElem_cons_zero, List.getElem_cons_succ]
              refine one_keep (i := 4) (by kernel_rfl) ?_
              refine keep_step rfl (by rfl) ?_
              go_simp
              refine Calls.mono (HRa.out _ ma mc hB hT) ?_
              rintro e y77 ⟨V2, J2, rfl, hA, hI, hb⟩
              have hB := HBd.out _ _ hB hb
              have hT := hT.below hb
              have n3 := n3.below hb
              have n4 := n4.below hb
              clear hb
              refine ⟨HSw.out _ hB, ?_⟩
              try simp only [Act.put, List.setIfInBounds_toArray, List.set_cons_zero, List.set_cons_succ, List.getElem_toArray, List.getElem_cons_zero, List.getElem_cons_succ]
              refine take_s (i := 5) (v := ?_) rfl (by kernel_rfl) (by kernel_rfl) (by kernel_rfl) (fun _ _ _ h => h) (by rfl) ?_ (HSw.out _ hB) ?_
              rotate_left
              · intro w' hLat; clear hLat; go_simp <;> with_reducible rfl
              try simp only [Act.put, List.setIfInBounds_toArray, List.set_cons_zero, List.set_cons_succ, List.getElem_toArray, List.getElem_cons_zero, List.getElem_cons_succ]
              refine take_s (i := 6) (v := ?_) rfl (by kernel_rfl) (by kernel_rfl) (by kernel_rfl) (fun _ _ _ h => h) (by rfl) ?_ (HSw.out _ hB) ?_
              rotate_left
              · intro w' hLat; clear hLat; go_simp <;> with_reducible rfl
              try simp only [Act.put, List.setIfInBounds_toArray, List.set_cons_zero, List.set_cons_succ, List.getElem_toArray, List.getElem_cons_zero, List.getElem_cons_succ]
              refine take_s (i := 7) (v := ?_) rfl (by kernel_rfl) (by kernel_rfl) (by kernel_rfl) (fun _ _ _ h => h) (by rfl) ?_ (HSw.out _ hB) ?_
              rotate_left
              · intro w' hLat; clear hLat; go_simp <;> with_reducible rfl
              try simp only [Act.put, List.setIfInBounds_toArray, List.set_cons_zero, List.set_cons_succ, List.getElem_toArray, List.getElem_cons_zero, List.getElem_cons_succ]
              refine take_s (i := 8) (v := ?_) rfl (by kernel_rfl) (by kernel_rfl) (by kernel_rfl) (fun _ _ _ h => h) (by rfl) ?_ (HSw.out _ hB) ?_
              rotate_left
              · intro w' hLat; clear hLat; go_simp <;> with_reducible rfl
              try simp only [Act.put, List.setIfInBounds_toArray, List.set_cons_zero, List.set_cons_succ, List.getElem_toArray, List.getElem_cons_zero, List.getElem_cons_succ]
              refine take_s (i := 9) (v := ?_) rfl (by kernel_rfl) (by kernel_rfl) (by kernel_rfl) (fun _ _ _ h => h) (by rfl) ?_ (HSw.out _ hB) ?_
              rotate_left
              · intro w' hLat; clear hLat; go_simp <;> with_reducible rfl
              try simp only [Act.put, List.setIfInBounds_toArray, List.set_cons_zero, List.set_cons_succ, List.getElem_toArray, List.getElem_cons_zero, List.getElem_cons_succ]
              have h3 : Box _ := ⟨st3 (HBo.out _ hB) HVl.out HZJ.out.2 HIs.out.2.2.2.2.2.1 hA n3 n4 g3.1 g3.2.1 g4.2.1 g3.2.2 g4.2.2 HW0.out⟩
              refine one_keep (i := 12) (by kernel_rfl) (keep_step rfl (by rfl) ?_)
              refine wp_store_mid 34 (.tmp 12) (.tmp 82) rfl Bm 0 V2.toArray rfl rfl h3.out.t1 hI.1 hI.2.1 ?_
              rw [List.toList_toArray]
              refine ⟨h3.out.s1, ?_⟩
              try simp only [Act.put, List.getElem_toArray, List.getElem_cons_zero, List.getElem_cons_succ]
              refine one_keep (i := 13) (by kernel_rfl) (keep_step rfl (by rfl) ?_)
              refine wp_store_mid 45 (.tmp 23) (.tmp 83) rfl b23 0 J2.toArray rfl rfl h3.out.t2 hI.2.2.1 hI.2.2.2 ?_
              rw [List.toList_toArray]
              refine ⟨h3.out.s2, ?_⟩
              try simp only [Act.put, List.getElem_toArray, List.getElem_cons_zero, List.getElem_cons_succ]
              refine one_keep (i := 14) (by kernel_rfl) (keep_step rfl (by rfl) ?_)
              refine wp_store_mid 43 (.tmp 24) (.tmp 84) rfl b24 0 (sa s1) rfl rfl h3.out.t3 HIs.out.1 (all_sa s1) ?_
              rw [HIs.out.2.1]
              refine ⟨h3.out.s3, ?_⟩
              try simp only [Act.put, List.getElem_toArray, List.getElem_cons_zero, List.getElem_cons_succ]
              refine take_s (i := 15) (v := ?_) rfl (by kernel_rfl) (by kernel_rfl) (by kernel_rfl) (fun _ _ _ h => h) (by rfl) ?_ h3.out.s3 ?_
              rotate_left
              · intro w' hLat; clear hLat; go_simp <;> with_reducible rfl
              try simp only [Act.put, List.setIfInBounds_toArray, List.set_cons_zero, List.set_cons_succ, List.getElem_toArray, List.getElem_cons_zero, List.getElem_cons_succ]
              refine wpAnyH_done (by kernel_rfl) ?_ _
              exact HRest.out b23 b24 ma mc V2 J2 _ h3.out.fz
          · refine keep_step rfl (by rfl) ?_
            unfold Oper.wp
            rw [exec_alloc 43 rfl _ zeroS13]
            obtain ⟨b24, e1⟩ : ∃ b, y71.heap.size = b := ⟨_, rfl⟩
            obtain ⟨y78, e2⟩ : ∃ y, y71.alloc (.cells (sa zs) 43) = y := ⟨_, rfl⟩
            have hb : Below y71.heap.size y71 y78 := by rw [← e2]; exact (nb_new _ _ _).2
            have n4 : Nb y78 b24 (sa zs) 43 := by rw [← e1, ← e2]; exact (nb_new _ _ _).1
            have g4 := HAl.out _ hB
            rw [e1] at g4
            have hB := HBd.out _ _ hB hb
            have n3 := n3.below hb
            simp only [e1, e2]
            clear hb e1 e2
            refine ⟨HSw.out _ hB, ?_⟩
            try simp only [Act.put, List.setIfInBounds_toArray, List.set_cons_zero, List.set_cons_succ, List.getElem_toArray, List.getElem_cons_zero, List.getElem_cons_succ]
            refine one_keep (i := 3) (by kernel_rfl) ?_
            refine keep_step rfl (by rfl) ?_
            go_simp
            refine Calls.mono (HMo.out _ hB) ?_
            rintro e y79 ⟨ma, mc, rfl, hT, hb⟩
            have hB := HBd.out _ _ hB hb
            have n3 := n3.below hb
            have n4 := n4.below hb
            clear hb
            refine ⟨HSw.out _ hB, ?_⟩
            try simp only [Act.put, List.setIfInBounds_toArray, List.set_cons_zero, List.set_cons_succ, List.getElem_toArray, List.getElem_cons_zero, List.getElem_cons_succ]
            refine one_keep (i := 4) (by kernel_rfl) ?_
            refine keep_step rfl (by rfl) ?_
            go_simp
            refine Calls.mono (HRa.out _ ma mc hB hT) ?_
            rintro e y80 ⟨V2, J2, rfl, hA, hI, hb⟩
            have hB := HBd.out _ _ hB hb
            have hT := hT.below hb
            have n3 := n3.below hb
            have n4 := n4.below hb
            clear hb
            refine ⟨HSw.out _ hB, ?_⟩
            try simp only [Act.put, List.setIfInBounds_toArray, List.set_cons_zero, List.set_cons_succ, List.getElem_toArray, List.getElem_cons_zero, List.getElem_cons_succ]
            refine take_s (i := 5) (v := ?_) rfl (by kernel_rfl) (by kernel_rfl) (by kernel_rfl) (fun _ _ _ h => h) (by rfl) ?_ (HSw.out _ hB) ?_
            rotate_left
            · intro w' hLat; clear hLat; go_simp <;> with_reducible rfl
            try simp only [Act.put, List.setIfInBounds_toArray, List.set_cons_zero, List.set_cons_succ, List.getElem_toArray, List.getElem_cons_zero, List.getElem_cons_succ]
            refine take_s (i := 6) (v := ?_) rfl (by kernel_rfl) (by kernel_rfl) (by kernel_rfl) (fun _ _ _ h => h) (by rfl) ?_ (HSw.out _ hB) ?_
            rotate_left
            · intro w' hLat; clear hLat; go_simp <;> with_reducible rfl
            try simp only [Act.put, List.setIfInBounds_toArray, List.set_cons_zero, List.set_cons_succ, List.getElem_toArray, List.getElem_cons_zero, List.getElem_cons_succ]
            refine take_s (i := 7) (v := ?_) rfl (by kernel_rfl) (by kernel_rfl) (by kernel_rfl) (fun _ _ _ h => h) (by rfl) ?_ (HSw.out _ hB) ?_
            rotate_left
            · intro w' hLat; clear hLat; go_simp <;> with_reducible rfl
            try simp only [Act.put, List.setIfInBounds_toArray, List.set_cons_zero, List.set_cons_succ, List.getElem_toArray, List.getElem_cons_zero, List.getElem_cons_succ]
            refine take_s (i := 8) (v := ?_) rfl (by kernel_rfl) (by kernel_rfl) (by kernel_rfl) (fun _ _ _ h => h) (by rfl) ?_ (HSw.out _ hB) ?_
            rotate_left
            · intro w' hLat; clear hLat; go_simp <;> with_reducible rfl
            try simp only [Act.put, List.setIfInBounds_toArray, List.set_cons_zero, List.set_cons_succ, List.getElem_toArray, List.getElem_cons_zero, List.getElem_cons_succ]
            refine take_s (i := 9) (v := ?_) rfl (by kernel_rfl) (by kernel_rfl) (by kernel_rfl) (fun _ _ _ h => h) (by rfl) ?_ (HSw.out _ hB) ?_
            rotate_left
            · intro w' hLat; clear hLat; go_simp <;> with_reducible rfl
            try simp only [Act.put, List.setIfInBounds_toArray, List.set_cons_zero, List.set_cons_succ, List.getElem_toArray, List.getElem_cons_zero, List.getElem_cons_succ]
            have h3 : Box _ := ⟨st3 (HBo.out _ hB) HVl.out HZJ.out.2 HIs.out.2.2.2.2.2.1 hA n3 n4 g3.1 g3.2.1 g4.2.1 g3.2.2 g4.2.2 HW0.out⟩
            refine one_keep (i := 12) (by kernel_rfl) (keep_step rfl (by rfl) ?_)
            refine wp_store_mid 34 (.tmp 12) (.tmp 82) rfl Bm 0 V2.toArray rfl rfl h3.out.t1 hI.1 hI.2.1 ?_
            rw [List.toList_toArray]
            refine ⟨h3.out.s1, ?_⟩
            try simp only [Act.put, List.getElem_toArray, List.getElem_cons_zero, List.getElem_cons_succ]
            refine one_keep (i := 13) (by kernel_rfl) (keep_step rfl (by rfl) ?_)
            refine wp_store_mid 45 (.tmp 23) (.tmp 83) rfl b23 0 J2.toArray rfl rfl h3.out.t2 hI.2.2.1 hI.2.2.2 ?_
            rw [List.toList_toArray]
            refine ⟨h3.out.s2, ?_⟩
            try simp only [Act.put, List.getElem_toArray, List.getElem_cons_zero, List.getElem_cons_succ]
            refine one_keep (i := 14) (by kernel_rfl) (keep_step rfl (by rfl) ?_)
            refine wp_store_mid 43 (.tmp 24) (.tmp 84) rfl b24 0 (sa s1) rfl rfl h3.out.t3 HIs.out.1 (all_sa s1) ?_
            rw [HIs.out.2.1]
            refine ⟨h3.out.s3, ?_⟩
            try simp only [Act.put, List.getElem_toArray, List.getElem_cons_zero, List.getElem_cons_succ]
            refine take_s (i := 15) (v := ?_) rfl (by kernel_rfl) (by kernel_rfl) (by kernel_rfl) (fun _ _ _ h => h) (by rfl) ?_ h3.out.s3 ?_
            rotate_left
            · intro w' hLat; clear hLat; go_simp <;> with_reducible rfl
            try simp only [Act.put, List.setIfInBounds_toArray, List.set_cons_zero, List.set_cons_succ, List.getElem_toArray, List.getElem_cons_zero, List.getElem_cons_succ]
            refine wpAnyH_done (by kernel_rfl) ?_ _
            exact HRest.out b23 b24 ma mc V2 J2 _ h3.out.fz
      · as_aux_lemma =>
          refine keep_step rfl (by rfl) ?_
          go_simp
          refine Calls.mono (HMo.out _ hB) ?_
          rintro e y81 ⟨ma, mc, rfl, hT, hb⟩
          have hB := HBd.out _ _ hB hb
          have n3 := n3.below hb
          clear hb
          refine ⟨HSw.out _ hB, ?_⟩
          try simp only [Act.put, List.setIfInBounds_toArray, List.set_cons_zero, List.set_cons_succ, List.getElem_toArray, List.getElem_cons_zero, List.getElem_cons_succ]
          refine two_keep (i := 0) (j := 11) (by kernel_rfl) ?_ ?_
          · refine keep_step rfl (by rfl) ?_
            unfold Oper.wp
            rw [exec_load_mid 34 _ (.tmp 12) rfl Tryd.underlying34 rfl Bm 0 rfl V HVm.out.2.1 (HVm.out.1 _ hB)]
            refine ⟨HSw.out _ hB, ?_⟩
            try simp only [Act.put, List.setIfInBounds_toArray, List.set_cons_zero, List.set_cons_succ, List.getElem_toArray, List.getElem_cons_zero]
            refine two_keep (i := 4) (j := 11) (by kernel_rfl) ?_ ?_
            · refine keep_step rfl (by rfl) ?_
              go_simp
              refine Calls.mono (HRa.out _ ma mc hB hT) ?_
              rintro e y83 ⟨V2, J2, rfl, hA, hI, hb⟩
              have hB := HBd.out _ _ hB hb
              have hT := hT.below hb
              have n3 := n3.below hb
              clear hb
              refine ⟨HSw.out _ hB, ?_⟩
              try simp only [Act.put, List.setIfInBounds_toArray, List.set_cons_zero, List.set_cons_succ, List.getElem_toArray, List.getElem_cons_zero, List.getElem_cons_succ]
              refine take_s (i := 5) (v := ?_) rfl (by kernel_rfl) (by kernel_rfl) (by kernel_rfl) (fun _ _ _ h => h) (by rfl) ?_ (HSw.out _ hB) ?_
              rotate_left
              · intro w' hLat; clear hLat; go_simp <;> with_reducible rfl
              try simp only [Act.put, List.setIfInBounds_toArray, List.set_cons_zero, List.set_cons_succ, List.getElem_toArray, List.getElem_cons_zero, List.getElem_cons_succ]
              refine take_s (i := 6) (v := ?_) rfl (by kernel_rfl) (by kernel_rfl) (by kernel_rfl) (fun _ _ _ h => h) (by rfl) ?_ (HSw.out _ hB) ?_
              rotate_left
              · intro w' hLat; clear hLat; go_simp <;> with_reducible rfl
              try simp only [Act.put, List.setIfInBounds_toArray, List.set_cons_zero, List.set_cons_succ, List.getElem_toArray, List.getElem_cons_zero, List.getElem_cons_succ]
              refine take_s (i := 7) (v := ?_) rfl (by kernel_rfl) (by kernel_rfl) (by kernel_rfl) (fun _ _ _ h => h) (by rfl) ?_ (HSw.out _ hB) ?_
              rotate_left
              · intro w' hLat; clear hLat; go_simp <;> with_reducible rfl
              try simp only [Act.put, List.setIfInBounds_toArray, List.set_cons_zero, List.set_cons_succ, List.getElem_toArray, List.getElem_cons_zero, List.getElem_cons_succ]
              refine take_s (i := 8) (v := ?_) rfl (by kernel_rfl) (by kernel_rfl) (by kernel_rfl) (fun _ _ _ h => h) (by rfl) ?_ (HSw.out _ hB) ?_
              rotate_left
              · intro w' hLat; clear hLat; go_simp <;> with_reducible rfl
              try simp only [Act.put, List.setIfInBounds_toArray, List.set_cons_zero, List.set_cons_succ, List.getElem_toArray, List.getElem_cons_zero, List.getElem_cons_succ]
              refine take_s (i := 9) (v := ?_) rfl (by kernel_rfl) (by kernel_rfl) (by kernel_rfl) (fun _ _ _ h => h) (by rfl) ?_ (HSw.out _ hB) ?_
              rotate_left
              · intro w' hLat; clear hLat; go_simp <;> with_reducible rfl
              try simp only [Act.put, List.setIfInBounds_toArray, List.set_cons_zero, List.set_cons_succ, List.getElem_toArray, List.getElem_cons_zero, List.getElem_cons_succ]
              refine one_keep (i := 11) (by kernel_rfl) ?_
              refine keep_step rfl (by rfl) ?_
              unfold Oper.wp
              rw [exec_alloc 43 rfl _ zeroS13]
              obtain ⟨b24, e1⟩ : ∃ b, y83.heap.size = b := ⟨_, rfl⟩
              obtain ⟨y84, e2⟩ : ∃ y, y83.alloc (.cells (sa zs) 43) = y := ⟨_, rfl⟩
              have hb : Below y83.heap.size y83 y84 := by rw [← e2]; exact (nb_new _ _ _).2
              have n4 : Nb y84 b24 (sa zs) 43 := by rw [← e1, ← e2]; exact (nb_new _ _ _).1
              have g4 := HAl.out _ hB
              rw [e1] at g4
              have hB := HBd.out _ _ hB hb
              have hT := hT.below hb
              have hA := hA.below hb
              have n3 := n3.below hb
              simp only [e1, e2]
              clear hb e1 e2
              refine ⟨HSw.out _ hB, ?_⟩
              try simp only [Act.put, List.setIfInBounds_toArray, List.set_cons_zero, List.set_cons_succ, List.getElem_toArray, List.getElem_cons_zero, List.getElem_cons_succ]
              have h3 : Box _ := ⟨st3 (HBo.out _ hB) HVl.out HZJ.out.2 HIs.out.2.2.2.2.2.1 hA n3 n4 g3.1 g3.2.1 g4.2.1 g3.2.2 g4.2.2 HW0.out⟩
              refine one_keep (i := 12) (by kernel_rfl) (keep_step rfl (by rfl) ?_)
              refine wp_store_mid 34 (.tmp 12) (.tmp 82) rfl Bm 0 V2.toArray rfl rfl h3.out.t1 hI.1 hI.2.1 ?_
              rw [List.toList_toArray]
              refine ⟨h3.out.s1, ?_⟩
              try simp only [Act.put, List.getElem_toArray, List.getElem_cons_zero, List.getElem_cons_succ]
              refine one_keep (i := 13) (by kernel_rfl) (keep_step rfl (by rfl) ?_)
              refine wp_store_mid 45 (.tmp 23) (.tmp 83) rfl b23 0 J2.toArray rfl rfl h3.out.t2 hI.2.2.1 hI.2.2.2 ?_
              rw [List.toList_toArray]
              refine ⟨h3.out.s2, ?_⟩
              try simp only [Act.put, List.getElem_toArray, List.getElem_cons_zero, List.getElem_cons_succ]
              refine one_keep (i := 14) (by kernel_rfl) (keep_step rfl (by rfl) ?_)
              refine wp_store_mid 43 (.tmp 24) (.tmp 84) rfl b24 0 (sa s1) rfl rfl h3.out.t3 HIs.out.1 (all_sa s1) ?_
              rw [HIs.out.2.1]
              refine ⟨h3.out.s3, ?_⟩
              try simp only [Act.put, List.getElem_toArray, List.getElem_cons_zero, List.getElem_cons_succ]
              refine take_s (i := 15) (v := ?_) rfl (by kernel_rfl) (by kernel_rfl) (by kernel_rfl) (fun _ _ _ h => h) (by rfl) ?_ h3.out.s3 ?_
              rotate_left
              · intro w' hLat; clear hLat; go_simp <;> with_reducible rfl
              try simp only [Act.put, List.setIfInBounds_toArray, List.set_cons_zero, List.set_cons_succ, List.getElem_toArray, List.getElem_cons_zero, List.getElem_cons_succ]
              refine wpAnyH_done (by kernel_rfl) ?_ _
              exact HRest.out b23 b24 ma mc V2 J2 _ h3.out.fz
            · refine keep_step rfl (by rfl) ?_
              unfold Oper.wp
              rw [exec_alloc 43 rfl _ zeroS13]
              obtain ⟨b24, e1⟩ : ∃ b, y81.heap.size = b := ⟨_, rfl⟩
              obtain ⟨y85, e2⟩ : ∃ y, y81.alloc (.cells (sa zs) 43) = y := ⟨_, rfl⟩
              have hb : Below y81.heap.size y81 y85 := by rw [← e2]; exact (nb_new _ _ _).2
              have n4 : Nb y85 b24 (sa zs) 43 := by rw [← e1, ← e2]; exact (nb_new _ _ _).1
              have g4 := HAl.out _ hB
              rw [e1] at g4
              have hB := HBd.out _ _ hB hb
              have hT := hT.below hb
              have n3 := n3.below hb
              simp only [e1, e2]
              clear hb e1 e2
              refine ⟨HSw.out _ hB, ?_⟩
              try simp only [Act.put, List.setIfInBounds_toArray, List.set_cons_zero, List.set_cons_succ, List.getElem_toArray, List.getElem_cons_zero, List.getElem_cons_succ]
              refine one_keep (i := 4) (by kernel_rfl) ?_
              refine keep_step rfl (by rfl) ?_
              go_simp
              refine Calls.mono (HRa.out _ ma mc hB hT) ?_
              rintro e y86 ⟨V2, J2, rfl, hA, hI, hb⟩
              have hB := HBd.out _ _ hB hb
              have hT := hT.below hb
              have n3 := n3.below hb
              have n4 := n4.below hb
              clear hb
              refine ⟨HSw.out _ hB, ?_⟩
              try simp only [Act.put, List.setIfInBounds_toArray, List.set_cons_zero, List.set_cons_succ, List.getElem_toArray, List.getElem_cons_zero, List.getElem_cons_succ]
              refine take_s (i := 5) (v := ?_) rfl (by kernel_rfl) (by kernel_rfl) (by kernel_rfl) (fun _ _ _ h => h) (by rfl) ?_ (HSw.out _ hB) ?_
              rotate_left
              · intro w' hLat; clear hLat; go_simp <;> with_reducible rfl
              try simp only [Act.put, List.setIfInBounds_toArray, List.set_cons_zero, List.set_cons_succ, List.getElem_toArray, List.getElem_cons_zero, List.getElem_cons_succ]
              refine take_s (i := 6) (v := ?_) rfl (by kernel_rfl) (by kernel_rfl) (by kernel_rfl) (fun _ _ _ h => h) (by rfl) ?_ (HSw.out _ hB) ?_
              rotate_left
              · intro w' hLat; clear hLat; go_simp <;> with_reducible rfl
              try simp only [Act.put, List.setIfInBounds_toArray, List.set_cons_zero, List.set_cons_succ, List.getElem_toArray, List.getElem_cons_zero, List.getElem_cons_succ]
              refine take_s (i := 7) (v := ?_) rfl (by kernel_rfl) (by kernel_rfl) (by kernel_rfl) (fun _ _ _ h => h) (by rfl) ?_ (HSw.out _ hB) ?_
              rotate_left
              · intro w' hLat; clear hLat; go_simp <;> with_reducible rfl
              try simp only [Act.put, List.setIfInBounds_toArray, List.set_cons_zero, List.set_cons_succ, List.getElem_toArray, List.getElem_cons_zero, List.getElem_cons_succ]
              refine take_s (i := 8) (v := ?_) rfl (by kernel_rfl) (by kernel_rfl) (by kernel_rfl) (fun _ _ _ h => h) (by rfl) ?_ (HSw.out _ hB) ?_
              rotate_left
              · intro w' hLat; clear hLat; go_simp <;> with_reducible rfl
              try simp only [Act.put, List.setIfInBounds_toArray, List.set_cons_zero, List.set_cons_succ, List.getElem_toArray, List.getElem_cons_zero, List.getElem_cons_succ]
              refine take_s (i := 9) (v := ?_) rfl (by kernel_rfl) (by kernel_rfl) (by kernel_rfl) (fun _ _ _ h => h) (by rfl) ?_ (HSw.out _ hB) ?_
              rotate_left
              · intro w' hLat; clear hLat; go_simp <;> with_reducible rfl
              try simp only [Act.put, List.setIfInBounds_toArray, List.set_cons_zero, List.set_cons_succ, List.getElem_toArray, List.getElem_cons_zero, List.getElem_cons_succ]
              have h3 : Box _ := ⟨st3 (HBo.out _ hB) HVl.out HZJ.out.2 HIs.out.2.2.2.2.2.1 hA n3 n4 g3.1 g3.2.1 g4.2.1 g3.2.2 g4.2.2 HW0.out⟩
              refine one_keep (i := 12) (by kernel_rfl) (keep_step rfl (by rfl) ?_)
              refine wp_store_mid 34 (.tmp 12) (.tmp 82) rfl Bm 0 V2.toArray rfl rfl h3.out.t1 hI.1 hI.2.1 ?_
              rw [List.toList_toArray]
              refine ⟨h3.out.s1, ?_⟩
              try simp only [Act.put, List.getElem_toArray, List.getElem_cons_zero, List.getElem_cons_succ]
              refine one_keep (i := 13) (by kernel_rfl) (keep_step rfl (by rfl) ?_)
              refine wp_store_mid 45 (.tmp 23) (.tmp 83) rfl b23 0 J2.toArray rfl rfl h3.out.t2 hI.2.2.1 hI.2.2.2 ?_
              rw [List.toList_toArray]
              refine ⟨h3.out.s2, ?_⟩
              try simp only [Act.put, List.getElem_toArray, List.getElem_cons_zero, List.getElem_cons_succ]
              refine one_keep (i := 14) (by kernel_rfl) (keep_step rfl (by rfl) ?_)
              refine wp_store_mid 43 (.tmp 24) (.tmp 84) rfl b24 0 (sa s1) rfl rfl h3.out.t3 HIs.out.1 (all_sa s1) ?_
              rw [HIs.out.2.1]
              refine ⟨h3.out.s3, ?_⟩
              try simp only [Act.put, List.getElem_toArray, List.getElem_cons_zero, List.getElem_cons_succ]
              refine take_s (i := 15) (v := ?_) rfl (by kernel_rfl) (by kernel_rfl) (by kernel_rfl) (fun _ _ _ h => h) (by rfl) ?_ h3.out.s3 ?_
              rotate_left
              · intro w' hLat; clear hLat; go_simp <;> with_reducible rfl
              try simp only [Act.put, List.setIfInBounds_toArray, List.set_cons_zero, List.set_cons_succ, List.getElem_toArray, List.getElem_cons_zero, List.getElem_cons_succ]
              refine wpAnyH_done (by kernel_rfl) ?_ _
              exact HRest.out b23 b24 ma mc V2 J2 _ h3.out.fz
          · refine keep_step rfl (by rfl) ?_
            unfold Oper.wp
            rw [exec_alloc 43 rfl _ zeroS13]
            obtain ⟨b24, e1⟩ : ∃ b, y81.heap.size = b := ⟨_, rfl⟩
            obtain ⟨y87, e2⟩ : ∃ y, y81.alloc (.cells (sa zs) 43) = y := ⟨_, rfl⟩
            have hb : Below y81.heap.size y81 y87 := by rw [← e2]; exact (nb_new _ _ _).2
            have n4 : Nb y87 b24 (sa zs) 43 := by rw [← e1, ← e2]; exact (nb_new _ _ _).1
            have g4 := HAl.out _ hB
            rw [e1] at g4
            have hB := HBd.out _ _ hB hb
            have hT := hT.below hb
            have n3 := n3.below hb
            simp only [e1, e2]
            clear hb e1 e2
            refine ⟨HSw.out _ hB, ?_⟩
            try simp only [Act.put, List.setIfInBounds_toArray, List.set_cons_zero, List.set_cons_succ, List.getElem_toArray, List.getElem_cons_zero, List.getElem_cons_succ]
            refine one_keep (i := 0) (by kernel_rfl) ?_
            refine keep_step rfl (by rfl) ?_
            unfold Oper.wp
            rw [exec_load_mid 34 _ (.tmp 12) rfl Tryd.underlying34 rfl Bm 0 rfl V HVm.out.2.1 (HVm.out.1 _ hB)]
            refine ⟨HSw.out _ hB, ?_⟩
            try simp only [Act.put, List.setIfInBounds_toArray, List.set_cons_zero, List.set_cons_succ, List.getElem_toArray, List.getElem_cons_zero]
            refine one_keep (i := 4) (by kernel_rfl) ?_
            refine keep_step rfl (by rfl) ?_
            go_simp
            refine Calls.mono (HRa.out _ ma mc hB hT) ?_
            rintro e y89 ⟨V2, J2, rfl, hA, hI, hb⟩
            have hB := HBd.out _ _ hB hb
            have hT := hT.below hb
            have n3 := n3.below hb
            have n4 := n4.below hb
            clear hb
            refine ⟨HSw.out _ hB, ?_⟩
            try simp only [Act.put, List.setIfInBounds_toArray, List.set_cons_zero, List.set_cons_succ, List.getElem_toArray, List.getElem_cons_zero, List.getElem_cons_succ]
            refine take_s (i := 5) (v := ?_) rfl (by kernel_rfl) (by kernel_rfl) (by kernel_rfl) (fun _ _ _ h => h) (by rfl) ?_ (HSw.out _ hB) ?_
            rotate_left
            · intro w' hLat; clear hLat; go_simp <;> with_reducible rfl
            try simp only [Act.put, List.setIfInBounds_toArray, List.set_cons_zero, List.set_cons_succ, List.getElem_toArray, List.getElem_cons_zero, List.getElem_cons_succ]
            refine take_s (i := 6) (v := ?_) rfl (by kernel_rfl) (by kernel_rfl) (by kernel_rfl) (fun _ _ _ h => h) (by rfl) ?_ (HSw.out _ hB) ?_
            rotate_left
            · intro w' hLat; clear hLat; go_simp <;> with_reducible rfl
            try simp only [Act.put, List.setIfInBounds_toArray, List.set_cons_zero, List.set_cons_succ, List.getElem_toArray, List.getElem_cons_zero, List.getElem_cons_succ]
            refine take_s (i := 7) (v := ?_) rfl (by kernel_rfl) (by kernel_rfl) (by kernel_rfl) (fun _ _ _ h => h) (by rfl) ?_ (HSw.out _ hB) ?_
            rotate_left
            · intro w' hLat; clear hLat; go_simp <;> with_reducible rfl
            try simp only [Act.put, List.setIfInBounds_toArray, List.set_cons_zero, List.set_cons_succ, List.getElem_toArray, List.getElem_cons_zero, List.getElem_cons_succ]
            refine take_s (i := 8) (v := ?_) rfl (by kernel_rfl) (by kernel_rfl) (by kernel_rfl) (fun _ _ _ h => h) (by rfl) ?_ (HSw.out _ hB) ?_
            rotate_left
            · intro w' hLat; clear hLat; go_simp <;> with_reducible rfl
            try simp only [Act.put, List.setIfInBounds_toArray, List.set_cons_zero, List.set_cons_succ, List.getElem_toArray, List.getElem_cons_zero, List.getElem_cons_succ]
            refine take_s (i := 9) (v := ?_) rfl (by kernel_rfl) (by kernel_rfl) (by kernel_rfl) (fun _ _ _ h => h) (by rfl) ?_ (HSw.out _ hB) ?_
            rotate_left
            · intro w' hLat; clear hLat; go_simp <;> with_reducible rfl
            try simp only [Act.put, List.setIfInBounds_toArray, List.set_cons_zero, List.set_cons_succ, List.getElem_toArray, List.getElem_cons_zero, List.getElem_cons_succ]
            have h3 : Box _ := ⟨st3 (HBo.out _ hB) HVl.out HZJ.out.2 HIs.out.2.2.2.2.2.1 hA n3 n4 g3.1 g3.2.1 g4.2.1 g3.2.2 g4.2.2 HW0.out⟩
            refine one_keep (i := 12) (by kernel_rfl) (keep_step rfl (by rfl) ?_)
            refine wp_store_mid 34 (.tmp 12) (.tmp 82) rfl Bm 0 V2.toArray rfl rfl h3.out.t1 hI.1 hI.2.1 ?_
            rw [List.toList_toArray]
            refine ⟨h3.out.s1, ?_⟩
            try simp only [Act.put, List.getElem_toArray, List.getElem_cons_zero, List.getElem_cons_succ]
            refine one_keep (i := 13) (by kernel_rfl) (keep_step rfl (by rfl) ?_)
            refine wp_store_mid 45 (.tmp 23) (.tmp 83) rfl b23 0 J2.toArray rfl rfl h3.out.t2 hI.2.2.1 hI.2.2.2 ?_
            rw [List.toList_toArray]
            refine ⟨h3.out.s2, ?_⟩
            try simp only [Act.put, List.getElem_toArray, List.getElem_cons_zero, List.getElem_cons_succ]
            refine one_keep (i := 14) (by kernel_rfl) (keep_step rfl (by rfl) ?_)
            refine wp_store_mid 43 (.tmp 24) (.tmp 84) rfl b24 0 (sa s1) rfl rfl h3.out.t3 HIs.out.1 (all_sa s1) ?_
            rw [HIs.out.2.1]
            refine ⟨h3.out.s3, ?_⟩
            try simp only [Act.put, List.getElem_toArray, List.getElem_cons_zero, List.getElem_cons_succ]
            refine take_s (i := 15) (v := ?_) rfl (by kernel_rfl) (by kernel_rfl) (by kernel_rfl) (fun _ _ _ h => h) (by rfl) ?_ h3.out.s3 ?_
            rotate_left
            · intro w' hLat; clear hLat; go_simp <;> with_reducible rfl
            try simp only [Act.put, List.setIfInBounds_toArray, List.set_cons_zero, List.set_cons_succ, List.getElem_toArray, List.getElem_cons_zero, List.getElem_cons_succ]
            refine wpAnyH_done (by kernel_rfl) ?_ _
            exact HRest.out b23 b24 ma mc V2 J2 _ h3.out.fz
      · as_aux_lemma =>
          refine keep_step rfl (by rfl) ?_
          unfold Oper.wp
          rw [exec_alloc 43 rfl _ zeroS13]
          obtain ⟨b24, e1⟩ : ∃ b, y71.heap.size = b := ⟨_, rfl⟩
          obtain ⟨y90, e2⟩ : ∃ y, y71.alloc (.cells (sa zs) 43) = y := ⟨_, rfl⟩
          have hb : Below y71.heap.size y71 y90 := by rw [← e2]; exact (nb_new _ _ _).2
          have n4 : Nb y90 b24 (sa zs) 43 := by rw [← e1, ← e2]; exact (nb_new _ _ _).1
          have g4 := HAl.out _ hB
          rw [e1] at g4
          have hB := HBd.out _ _ hB hb
          have n3 := n3.below hb
          simp only [e1, e2]
          clear hb e1 e2
          refine ⟨HSw.out _ hB, ?_⟩
          try simp only [Act.put, List.setIfInBounds_toArray, List.set_cons_zero, List.set_cons_succ, List.getElem_toArray, List.getElem_cons_zero, List.getElem_cons_succ]
          refine two_keep (i := 0) (j := 3) (by kernel_rfl) ?_ ?_
          · refine keep_step rfl (by rfl) ?_
            unfold Oper.wp
            rw [exec_load_mid 34 _ (.tmp 12) rfl Tryd.underlying34 rfl Bm 0 rfl V HVm.out.2.1 (HVm.out.1 _ hB)]
            refine ⟨HSw.out _ hB, ?_⟩
            try simp only [Act.put, List.setIfInBounds_toArray, List.set_cons_zero, List.set_cons_succ, List.getElem_toArray, List.getElem_cons_zero]
            refine one_keep (i := 3) (by kernel_rfl) ?_
            refine keep_step rfl (by rfl) ?_
            go_simp
            refine Calls.mono (HMo.out _ hB) ?_
            rintro e y92 ⟨ma, mc, rfl, hT, hb⟩
            have hB := HBd.out _ _ hB hb
            have n3 := n3.below hb
            have n4 := n4.below hb
            clear hb
            refine ⟨HSw.out _ hB, ?_⟩
            try simp only [Act.put, List.setIfInBounds_toArray, List.set_cons_zero, List.set_cons_succ, List.getElem_toArray, List.getElem_cons_zero, List.getElem_cons_succ]
            refine one_keep (i := 4) (by kernel_rfl) ?_
            refine keep_step rfl (by rfl) ?_
            go_simp
            refine Calls.mono (HRa.out _ ma mc hB hT) ?_
            rintro e y93 ⟨V2, J2, rfl, hA, hI, hb⟩
            have hB := HBd.out _ _ hB hb
            have hT := hT.below hb
            have n3 := n3.below hb
            have n4 := n4.below hb
            clear hb
            refine ⟨HSw.out _ hB, ?_⟩
            try simp only [Act.put, List.setIfInBounds_toArray, List.set_cons_zero, List.set_cons_succ, List.getElem_toArray, List.getElem_cons_zero, List.getElem_cons_succ]
            refine take_s (i := 5) (v := ?_) rfl (by kernel_rfl) (by kernel_rfl) (by kernel_rfl) (fun _ _ _ h => h) (by rfl) ?_ (HSw.out _ hB) ?_
            rotate_left
            · intro w' hLat; clear hLat; go_simp <;> with_reducible rfl
            try simp only [Act.put, List.setIfInBounds_toArray, List.set_cons_zero, List.set_cons_succ, List.getElem_toArray, List.getElem_cons_zero, List.getElem_cons_succ]
            refine take_s (i := 6) (v := ?_) rfl (by kernel_rfl) (by kernel_rfl) (by kernel_rfl) (fun _ _ _ h => h) (by rfl) ?_ (HSw.out _ hB) ?_
            rotate_left
            · intro w' hLat; clear hLat; go_simp <;> with_reducible rfl
            try simp only [Act.put, List.setIfInBounds_toArray, List.set_cons_zero, List.set_cons_succ, List.getElem_toArray, List.getElem_cons_zero, List.getElem_cons_succ]
            refine take_s (i := 7) (v := ?_) rfl (by kernel_rfl) (by kernel_rfl) (by kernel_rfl) (fun _ _ _ h => h) (by rfl) ?_ (HSw.out _ hB) ?_
            rotate_left
            · intro w' hLat; clear hLat; go_simp <;> with_reducible rfl
            try simp only [Act.put, List.setIfInBounds_toArray, List.set_cons_zero, List.set_cons_succ, List.getElem_toArray, List.getElem_cons_zero, List.getElem_cons_succ]
            refine take_s (i := 8) (v := ?_) rfl (by kernel_rfl) (by kernel_rfl) (by kernel_rfl) (fun _ _ _ h => h) (by rfl) ?_ (HSw.out _ hB) ?_
            rotate_left
            · intro w' hLat; clear hLat; go_simp <;> with_reducible rfl
            try simp only [Act.put, List.setIfInBounds_toArray, List.set_cons_zero, List.set_cons_succ, List.getElem_toArray, List.getElem_cons_zero, List.getElem_cons_succ]
            refine take_s (i := 9) (v := ?_) rfl (by kernel_rfl) (by kernel_rfl) (by kernel_rfl) (fun _ _ _ h => h) (by rfl) ?_ (HSw.out _ hB) ?_
            rotate_left
            · intro w' hLat; clear hLat; go_simp <;> with_reducible rfl
            try simp only [Act.put, List.setIfInBounds_toArray, List.set_cons_zero, List.set_cons_succ, List.getElem_toArray, List.getElem_cons_zero, List.getElem_cons_succ]
            have h3 : Box _ := ⟨st3 (HBo.out _ hB) HVl.out HZJ.out.2 HIs.out.2.2.2.2.2.1 hA n3 n4 g3.1 g3.2.1 g4.2.1 g3.2.2 g4.2.2 HW0.out⟩
            refine one_keep (i := 12) (by kernel_rfl) (keep_step rfl (by rfl) ?_)
            refine wp_store_mid 34 (.tmp 12) (.tmp 82) rfl Bm 0 V2.toArray rfl rfl h3.out.t1 hI.1 hI.2.1 ?_
            rw [List.toList_toArray]
            refine ⟨h3.out.s1, ?_⟩
            try simp only [Act.put, List.getElem_toArray, List.getElem_cons_zero, List.getElem_cons_succ]
            refine one_keep (i := 13) (by kernel_rfl) (keep_step rfl (by rfl) ?_)
            refine wp_store_mid 45 (.tmp 23) (.tmp 83) rfl b23 0 J2.toArray rfl rfl h3.out.t2 hI.2.2.1 hI.2.2.2 ?_
            rw [List.toList_toArray]
            refine ⟨h3.out.s2, ?_⟩
            try simp only [Act.put, List.getElem_toArray, List.getElem_cons_zero, List.getElem_cons_succ]
            refine one_keep (i := 14) (by kernel_rfl) (keep_step rfl (by rfl) ?_)
            refine wp_store_mid 43 (.tmp 24) (.tmp 84) rfl b24 0 (sa s1) rfl rfl h3.out.t3 HIs.out.1 (all_sa s1) ?_
            rw [HIs.out.2.1]
            refine ⟨h3.out.s3, ?_⟩
            try simp only [Act.put, List.getElem_toArray, List.getElem_cons_zero, List.getElem_cons_succ]
            refine take_s (i := 15) (v := ?_) rfl (by kernel_rfl) (by kernel_rfl) (by kernel_rfl) (fun _ _ _ h => h) (by rfl) ?_ h3.out.s3 ?_
            rotate_left
            · intro w' hLat; clear hLat; go_simp <;> with_reducible rfl
            try simp only [Act.put, List.setIfInBounds_toArray, List.set_cons_zero, List.set_cons_succ, List.getElem_toArray, List.getElem_cons_zero, List.getElem_cons_succ]
            refine wpAnyH_done (by kernel_rfl) ?_ _
            exact HRest.out b23 b24 ma mc V2 J2 _ h3.out.fz
          · refine keep_step rfl (by rfl) ?_
            go_simp
            refine Calls.mono (HMo.out _ hB) ?_
            rintro e y94 ⟨ma, mc, rfl, hT, hb⟩
            have hB := HBd.out _ _ hB hb
            have n3 := n3.below hb
            have n4 := n4.below hb
            clear hb
            refine ⟨HSw.out _ hB, ?_⟩
            try simp only [Act.put, List.setIfInBounds_toArray, List.set_cons_zero, List.set_cons_succ, List.getElem_toArray, List.getElem_cons_zero, List.getElem_cons_succ]
            refine one_keep (i := 0) (by kernel_rfl) ?_
            refine keep_step rfl (by rfl) ?_
            unfold Oper.wp
            rw [exec_load_mid 34 _ (.tmp 12) rfl Tryd.underlying34 rfl Bm 0 rfl V HVm.out.2.1 (HVm.out.1 _ hB)]
            refine ⟨HSw.out _ hB, ?_⟩
            try simp only [Act.put, List.setIfInBounds_toArray, List.set_cons_zero, List.set_cons_succ, List.getElem_toArray, List.getElem_cons_zero]
            refine one_keep (i := 4) (by kernel_rfl) ?_
            refine keep_step rfl (by rfl) ?_
            go_simp
            refine Calls.mono (HRa.out _ ma mc hB hT) ?_
            rintro e y96 ⟨V2, J2, rfl, hA, hI, hb⟩
            have hB := HBd.out _ _ hB hb
            have hT := hT.below hb
            have n3 := n3.below hb
            have n4 := n4.below hb
            clear hb
            refine ⟨HSw.out _ hB, ?_⟩
            try simp only [Act.put, List.setIfInBounds_toArray, List.set_cons_zero, List.set_cons_succ, List.getElem_toArray, List.getElem_cons_zero, List.getElem_cons_succ]
            refine take_s (i := 5) (v := ?_) rfl (by kernel_rfl) (by kernel_rfl) (by kernel_rfl) (fun _ _ _ h => h) (by rfl) ?_ (HSw.out _ hB) ?_
            rotate_left
            · intro w' hLat; clear hLat; go_simp <;> with_reducible rfl
            try simp only [Act.put, List.setIfInBounds_toArray, List.set_cons_zero, List.set_cons_succ, List.getElem_toArray, List.getElem_cons_zero, List.getElem_cons_succ]
            refine take_s (i := 6) (v := ?_) rfl (by kernel_rfl) (by kernel_rfl) (by kernel_rfl) (fun _ _ _ h => h) (by rfl) ?_ (HSw.out _ hB) ?_
            rotate_left
            · intro w' hLat; clear hLat; go_simp <;> with_reducible rfl
            try simp only [Act.put, List.setIfInBounds_toArray, List.set_cons_zero, List.set_cons_succ, List.getElem_toArray, List.getElem_cons_zero, List.getElem_cons_succ]
            refine take_s (i := 7) (v := ?_) rfl (by kernel_rfl) (by kernel_rfl) (by kernel_rfl) (fun _ _ _ h => h) (by rfl) ?_ (HSw.out _ hB) ?_
            rotate_left
            · intro w' hLat; clear hLat; go_simp <;> with_reducible rfl
            try simp only [Act.put, List.setIfInBounds_toArray, List.set_cons_zero, List.set_cons_succ, List.getElem_toArray, List.getElem_cons_zero, List.getElem_cons_succ]
            refine take_s (i := 8) (v := ?_) rfl (by kernel_rfl) (by kernel_rfl) (by kernel_rfl) (fun _ _ _ h => h) (by rfl) ?_ (HSw.out _ hB) ?_
            rotate_left
            · intro w' hLat; clear hLat; go_simp <;> with_reducible rfl
            try simp only [Act.put, List.setIfInBounds_toArray, List.set_cons_zero, List.set_cons_succ, List.getElem_toArray, List.getElem_cons_zero, List.getElem_cons_succ]
            refine take_s (i := 9) (v := ?_) rfl (by kernel_rfl) (by kernel_rfl) (by kernel_rfl) (fun _ _ _ h => h) (by rfl) ?_ (HSw.out _ hB) ?_
            rotate_left
            · intro w' hLat; clear hLat; go_simp <;> with_reducible rfl
            try simp only [Act.put, List.setIfInBounds_toArray, List.set_cons_zero, List.set_cons_succ, List.getElem_toArray, List.getElem_cons_zero, List.getElem_cons_succ]
            have h3 : Box _ := ⟨st3 (HBo.out _ hB) HVl.out HZJ.out.2 HIs.out.2.2.2.2.2.1 hA n3 n4 g3.1 g3.2.1 g4.2.1 g3.2.2 g4.2.2 HW0.out⟩
            refine one_keep (i := 12) (by kernel_rfl) (keep_step rfl (by rfl) ?_)
            refine wp_store_mid 34 (.tmp 12) (.tmp 82) rfl Bm 0 V2.toArray rfl rfl h3.out.t1 hI.1 hI.2.1 ?_
            rw [List.toList_toArray]
            refine ⟨h3.out.s1, ?_⟩
            try simp only [Act.put, List.getElem_toArray, List.getElem_cons_zero, List.getElem_cons_succ]
            refine one_keep (i := 13) (by kernel_rfl) (keep_step rfl (by rfl) ?_)
            refine wp_store_mid 45 (.tmp 23) (.tmp 83) rfl b23 0 J2.toArray rfl rfl h3.out.t2 hI.2.2.1 hI.2.2.2 ?_
            rw [List.toList_toArray]
            refine ⟨h3.out.s2, ?_⟩
            try simp only [Act.put, List.getElem_toArray, List.getElem_cons_zero, List.getElem_cons_succ]
            refine one_keep (i := 14) (by kernel_rfl) (keep_step rfl (by rfl) ?_)
            refine wp_store_mid 43 (.tmp 24) (.tmp 84) rfl b24 0 (sa s1) rfl rfl h3.out.t3 HIs.out.1 (all_sa s1) ?_
            rw [HIs.out.2.1]
            refine ⟨h3.out.s3, ?_⟩
            try simp only [Act.put, List.getElem_toArray, List.getElem_cons_zero, List.getElem_cons_succ]
            refine take_s (i := 15) (v := ?_) rfl (by kernel_rfl) (by kernel_rfl) (by kernel_rfl) (fun _ _ _ h => h) (by rfl) ?_ h3.out.s3 ?_
            rotate_left
            · intro w' hLat; clear hLat; go_simp <;> with_reducible rfl
            try simp only [Act.put, List.setIfInBounds_toArray, List.set_cons_zero, List.set_cons_succ, List.getElem_toArray, List.getElem_cons_zero, List.getElem_cons_succ]
            refine wpAnyH_done (by kernel_rfl) ?_ _
            exact HRest.out b23 b24 ma mc V2 J2 _ h3.out.fz
  · as_aux_lemma =>
      refine keep_step rfl (by rfl) ?_
      unfold Oper.wp
      rw [exec_alloc 43 rfl _ zeroS13]
      obtain ⟨b24, e1⟩ : ∃ b, wd.heap.size = b := ⟨_, rfl⟩
      obtain ⟨y97, e2⟩ : ∃ y, wd.alloc (.cells (sa zs) 43) = y := ⟨_, rfl⟩
      have hb : Below wd.heap.size wd y97 := by rw [← e2]; exact (nb_new _ _ _).2
      have n4 : Nb y97 b24 (sa zs) 43 := by rw [← e1, ← e2]; exact (nb_new _ _ _).1
      have g4 := HAl.out _ hB
      rw [e1] at g4
      have hB := HBd.out _ _ hB hb
      simp only [e1, e2]
      clear hb e1 e2
      refine ⟨HSw.out _ hB, ?_⟩
      try simp only [Act.put, List.setIfInBounds_toArray, List.set_cons_zero, List.set_cons_succ, List.getElem_toArray, List.getElem_cons_zero, List.getElem_cons_succ]
      refine wpAnyH_all (rs := [0, 3, 10]) (by kernel_rfl) (by simp) (fun q hq => ?_)
      simp only [List.mem_cons, List.not_mem_nil, or_false] at hq
      rcases hq with rfl | rfl | rfl
      · as_aux_lemma =>
          refine keep_step rfl (by rfl) ?_
          unfold Oper.wp
          rw [exec_load_mid 34 _ (.tmp 12) rfl Tryd.underlying34 rfl Bm 0 rfl V HVm.out.2.1 (HVm.out.1 _ hB)]
          refine ⟨HSw.out _ hB, ?_⟩
          try simp only [Act.put, List.setIfInBounds_toArray, List.set_cons_zero, List.set_cons_succ, List.getElem_toArray, List.getElem_cons_zero]
          refine two_keep (i := 3) (j := 10) (by kernel_rfl) ?_ ?_
          · refine keep_step rfl (by rfl) ?_
            go_simp
            refine Calls.mono (HMo.out _ hB) ?_
            rintro e y99 ⟨ma, mc, rfl, hT, hb⟩
            have hB := HBd.out _ _ hB hb
            have n4 := n4.below hb
            clear hb
            refine ⟨HSw.out _ hB, ?_⟩
            try simp only [Act.put, List.setIfInBounds_toArray, List.set_cons_zero, List.set_cons_succ, List.getElem_toArray, List.getElem_cons_zero, List.getElem_cons_succ]
            refine two_keep (i := 4) (j := 10) (by kernel_rfl) ?_ ?_
            · refine keep_step rfl (by rfl) ?_
              go_simp
              refine Calls.mono (HRa.out _ ma mc hB hT) ?_
              rintro e y100 ⟨V2, J2, rfl, hA, hI, hb⟩
              have hB := HBd.out _ _ hB hb
              have hT := hT.below hb
              have n4 := n4.below hb
              clear hb
              refine ⟨HSw.out _ hB, ?_⟩
              try simp only [Act.put, List.setIfInBounds_toArray, List.set_cons_zero, List.set_cons_succ, List.getElem_toArray, List.getElem_cons_zero, List.getElem_cons_succ]
              refine take_s (i := 5) (v := ?_) rfl (by kernel_rfl) (by kernel_rfl) (by kernel_rfl) (fun _ _ _ h => h) (by rfl) ?_ (HSw.out _ hB) ?_
              rotate_left
              · intro w' hLat; clear hLat; go_simp <;> with_reducible rfl
              try simp only [Act.put, List.setIfInBounds_toArray, List.set_cons_zero, List.set_cons_succ, List.getElem_toArray, List.getElem_cons_zero, List.getElem_cons_succ]
              refine take_s (i := 6) (v := ?_) rfl (by kernel_rfl) (by kernel_rfl) (by kernel_rfl) (fun _ _ _ h => h) (by rfl) ?_ (HSw.out _ hB) ?_
              rotate_left
              · intro w' hLat; clear hLat; go_simp <;> with_reducible rfl
              try simp only [Act.put, List.setIfInBounds_toArray, List.set_cons_zero, List.set_cons_succ, List.getElem_toArray, List.getElem_cons_zero, List.getElem_cons_succ]
              refine take_s (i := 7) (v := ?_) rfl (by kernel_rfl) (by kernel_rfl) (by kernel_rfl) (fun _ _ _ h => h) (by rfl) ?_ (HSw.out _ hB) ?_
              rotate_left
              · intro w' hLat; clear hLat; go_simp <;> with_reducible rfl
              try simp only [Act.put, List.setIfInBounds_toArray, List.set_cons_zero, List.set_cons_succ, List.getElem_toArray, List.getElem_cons_zero, List.getElem_cons_succ]
              refine take_s (i := 8) (v := ?_) rfl (by kernel_rfl) (by kernel_rfl) (by kernel_rfl) (fun _ _ _ h => h) (by rfl) ?_ (HSw.out _ hB) ?_
              rotate_left
              · intro w' hLat; clear hLat; go_simp <;> with_reducible rfl
              try simp only [Act.put, List.setIfInBounds_toArray, List.set_cons_zero, List.set_cons_succ, List.getElem_toArray, List.getElem_cons_zero, List.getElem_cons_succ]
              refine take_s (i := 9) (v := ?_) rfl (by kernel_rfl) (by kernel_rfl) (by kernel_rfl) (fun _ _ _ h => h) (by rfl) ?_ (HSw.out _ hB) ?_
              rotate_left
              · intro w' hLat; clear hLat; go_simp <;> with_reducible rfl
              try simp only [Act.put, List.setIfInBounds_toArray, List.set_cons_zero, List.set_cons_succ, List.getElem_toArray, List.getElem_cons_zero, List.getElem_cons_succ]
              refine one_keep (i := 10) (by kernel_rfl) ?_
              refine keep_step rfl (by rfl) ?_
              unfold Oper.wp
              rw [exec_alloc 45 rfl _ HZJ.out.1]
              obtain ⟨b23, e1⟩ : ∃ b, y100.heap.size = b := ⟨_, rfl⟩
              obtain ⟨y101, e2⟩ : ∃ y, y100.alloc (.cells ZJ 45) = y := ⟨_, rfl⟩
              have hb : Below y100.heap.size y100 y101 := by rw [← e2]; exact (nb_new _ _ _).2
              have n3 : Nb y101 b23 ZJ 45 := by rw [← e1, ← e2]; exact (nb_new _ _ _).1
              have g3 := HAl.out _ hB
              rw [e1] at g3
              have hB := HBd.out _ _ hB hb
              have hT := hT.below hb
              have hA := hA.below hb
              have n4 := n4.below hb
              simp only [e1, e2]
              clear hb e1 e2
              refine ⟨HSw.out _ hB, ?_⟩
              try simp only [Act.put, List.setIfInBounds_toArray, List.set_cons_zero, List.set_cons_succ, List.getElem_toArray, List.getElem_cons_zero, List.getElem_cons_succ]
              have h3 : Box _ := ⟨st3 (HBo.out _ hB) HVl.out HZJ.out.2 HIs.out.2.2.2.2.2.1 hA n3 n4 g3.1 g3.2.1 g4.2.1 g3.2.2 g4.2.2 HW0.out⟩
              refine one_keep (i := 12) (by kernel_rfl) (keep_step rfl (by rfl) ?_)
              refine wp_store_mid 34 (.tmp 12) (.tmp 82) rfl Bm 0 V2.toArray rfl rfl h3.out.t1 hI.1 hI.2.1 ?_
              rw [List.toList_toArray]
              refine ⟨h3.out.s1, ?_⟩
              try simp only [Act.put, List.getElem_toArray, List.getElem_cons_zero, List.getElem_cons_succ]
              refine one_keep (i := 13) (by kernel_rfl) (keep_step rfl (by rfl) ?_)
              refine wp_store_mid 45 (.tmp 23) (.tmp 83) rfl b23 0 J2.toArray rfl rfl h3.out.t2 hI.2.2.1 hI.2.2.2 ?_
              rw [List.toList_toArray]
              refine ⟨h3.out.s2, ?_⟩
              try simp only [Act.put, List.getElem_toArray, List.getElem_cons_zero, List.getElem_cons_succ]
              refine one_keep (i := 14) (by kernel_rfl) (keep_step rfl (by rfl) ?_)
              refine wp_store_mid 43 (.tmp 24) (.tmp 84) rfl b24 0 (sa s1) rfl rfl h3.out.t3 HIs.out.1 (all_sa s1) ?_
              rw [HIs.out.2.1]
              refine ⟨h3.out.s3, ?_⟩
              try simp only [Act.put, List.getElem_toArray, List.getElem_cons_zero, List.getElem_cons_succ]
              refine take_s (i := 15) (v := ?_) rfl (by kernel_rfl) (by kernel_rfl) (by kernel_rfl) (fun _ _ _ h => h) (by rfl) ?_ h3.out.s3 ?_
              rotate_left
              · intro w' hLat; clear hLat; go_simp <;> with_reducible rfl
              try simp only [Act.put, List.setIfInBounds_toArray, List.set_cons_zero, List.set_cons_succ, List.getElem_toArray, List.getElem_cons_zero, List.getElem_cons_succ]
              refine wpAnyH_done (by kernel_rfl) ?_ _
              exact HRest.out b23 b24 ma mc V2 J2 _ h3.out.fz
            · refine keep_step rfl (by rfl) ?_
              unfold Oper.wp
              rw [exec_alloc 45 rfl _ HZJ.out.1]
              obtain ⟨b23, e1⟩ : ∃ b, y99.heap.size = b := ⟨_, rfl⟩
              obtain ⟨y102, e2⟩ : ∃ y, y99.alloc (.cells ZJ 45) = y := ⟨_, rfl⟩
              have hb : Below y99.heap.size y99 y102 := by rw [← e2]; exact (nb_new _ _ _).2
              have n3 : Nb y102 b23 ZJ 45 := by rw [← e1, ← e2]; exact (nb_new _ _ _).1
              have g3 := HAl.out _ hB
              rw [e1] at g3
              have hB := HBd.out _ _ hB hb
              have hT := hT.below hb
              have n4 := n4.below hb
              simp only [e1, e2]
              clear hb e1 e2
              refine ⟨HSw.out _ hB, ?_⟩
              try simp only [Act.put, List.setIfInBounds_toArray, List.set_cons_zero, List.set_cons_succ, List.getElem_toArray, List.getElem_cons_zero, List.getElem_cons_succ]
              refine one_keep (i := 4) (by kernel_rfl) ?_
              refine keep_step rfl (by rfl) ?_
              go_simp
              refine Calls.mono (HRa.out _ ma mc hB hT) ?_
              rintro e y103 ⟨V2, J2, rfl, hA, hI, hb⟩
              have hB := HBd.out _ _ hB hb
              have hT := hT.below hb
              have n3 := n3.below hb
              have n4 := n4.below hb
              clear hb
              refine ⟨HSw.out _ hB, ?_⟩
              try simp only [Act.put, List.setIfInBounds_toArray, List.set_cons_zero, List.set_cons_succ, List.getElem_toArray, List.getElem_cons_zero, List.getElem_cons_succ]
              refine take_s (i := 5) (v := ?_) rfl (by kernel_rfl) (by kernel_rfl) (by kernel_rfl) (fun _ _ _ h => h) (by rfl) ?_ (HSw.out _ hB) ?_
              rotate_left
              · intro w' hLat; clear hLat; go_simp <;> with_reducible rfl
              try simp only [Act.put, List.setIfInBounds_toArray, List.set_cons_zero, List.set_cons_succ, List.getElem_toArray, List.getElem_cons_zero, List.getElem_cons_succ]
              refine take_s (i := 6) (v := ?_) rfl (by kernel_rfl) (by kernel_rfl) (by kernel_rfl) (fun _ _ _ h => h) (by rfl) ?_ (HSw.out _ hB) ?_
              rotate_left
              · intro w' hLat; clear hLat; go_simp <;> with_reducible rfl
              try simp only [Act.put, List.setIfInBounds_toArray, List.set_cons_zero, List.set_cons_succ, List.getElem_toArray, List.getElem_cons_zero, List.getElem_cons_succ]
              refine take_s (i := 7) (v := ?_) rfl (by kernel_rfl) (by kernel_rfl) (by kernel_rfl) (fun _ _ _ h => h) (by rfl) ?_ (HSw.out _ hB) ?_
              rotate_left
              · intro w' hLat; clear hLat; go_simp <;> with_reducible rfl
              try simp only [Act.put, List.setIfInBounds_toArray, List.set_cons_zero, List.set_cons_succ, List.getElem_toArray, List.getElem_cons_zero, List.getElem_cons_succ]
              refine take_s (i := 8) (v := ?_) rfl (by kernel_rfl) (by kernel_rfl) (by kernel_rfl) (fun _ _ _ h => h) (by rfl) ?_ (HSw.out _ hB) ?_
              rotate_left
              · intro w' hLat; clear hLat; go_simp <;> with_reducible rfl
              try simp only [Act.put, List.setIfInBounds_toArray, List.set_cons_zero, List.set_cons_succ, List.getElem_toArray, List.getElem_cons_zero, List.getElem_cons_succ]
              refine take_s (i := 9) (v := ?_) rfl (by kernel_rfl) (by kernel_rfl) (by kernel_rfl) (fun _ _ _ h => h) (by rfl) ?_ (HSw.out _ hB) ?_
              rotate_left
              · intro w' hLat; clear hLat; go_simp <;> with_reducible rfl
              try simp only [Act.put, List.setIfInBounds_toArray, List.set_cons_zero, List.set_cons_succ, List.getElem_toArray, List.getElem_cons_zero, List.getElem_cons_succ]
              have h3 : Box _ := ⟨st3 (HBo.out _ hB) HVl.out HZJ.out.2 HIs.out.2.2.2.2.2.1 hA n3 n4 g3.1 g3.2.1 g4.2.1 g3.2.2 g4.2.2 HW0.out⟩
              refine one_keep (i := 12) (by kernel_rfl) (keep_step rfl (by rfl) ?_)
              refine wp_store_mid 34 (.tmp 12) (.tmp 82) rfl Bm 0 V2.toArray rfl rfl h3.out.t1 hI.1 hI.2.1 ?_
              rw [List.toList_toArray]
              refine ⟨h3.out.s1, ?_⟩
              try simp only [Act.put, List.getElem_toArray, List.getElem_cons_zero, List.getElem_cons_succ]
              refine one_keep (i := 13) (by kernel_rfl) (keep_step rfl (by rfl) ?_)
              refine wp_store_mid 45 (.tmp 23) (.tmp 83) rfl b23 0 J2.toArray rfl rfl h3.out.t2 hI.2.2.1 hI.2.2.2 ?_
              rw [List.toList_toArray]
              refine ⟨h3.out.s2, ?_⟩
              try simp only [Act.put, List.getElem_toArray, List.getElem_cons_zero, List.getElem_cons_succ]
              refine one_keep (i := 14) (by kernel_rfl) (keep_step rfl (by rfl) ?_)
              refine wp_store_mid 43 (.tmp 24) (.tmp 84) rfl b24 0 (sa s1) rfl rfl h3.out.t3 HIs.out.1 (all_sa s1) ?_
              rw [HIs.out.2.1]
              refine ⟨h3.out.s3, ?_⟩
              try simp only [Act.put, List.getElem_toArray, List.getElem_cons_zero, List.getElem_cons_succ]
              refine take_s (i := 15) (v := ?_) rfl (by kernel_rfl) (by kernel_rfl) (by kernel_rfl) (fun _ _ _ h => h) (by rfl) ?_ h3.out.s3 ?_
              rotate_left
              · intro w' hLat; clear hLat; go_simp <;> with_reducible rfl
              try simp only [Act.put, List.setIfInBounds_toArray, List.set_cons_zero, List.set_cons_succ, List.getElem_toArray, List.getElem_cons_zero, List.getElem_cons_succ]
              refine wpAnyH_done (by kernel_rfl) ?_ _
              exact HRest.out b23 b24 ma mc V2 J2 _ h3.out.fz
          · refine keep_step rfl (by rfl) ?_
            unfold Oper.wp
            rw [exec_alloc 45 rfl _ HZJ.out.1]
            obtain ⟨b23, e1⟩ : ∃ b, y97.heap.size = b := ⟨_, rfl⟩
            obtain ⟨y104, e2⟩ : ∃ y, y97.alloc (.cells ZJ 45) = y := ⟨_, rfl⟩
            have hb : Below y97.heap.size y97 y104 := by rw [← e2]; exact (nb_new _ _ _).2
            have n3 : Nb y104 b23 ZJ 45 := by rw [← e1, ← e2]; exact (nb_new _ _ _).1
            have g3 := HAl.out _ hB
            rw [e1] at g3
            have hB := HBd.out _ _ hB hb
            have n4 := n4.below hb
            simp only [e1, e2]
            clear hb e1 e2
            refine ⟨HSw.out _ hB, ?_⟩
            try simp only [Act.put, List.setIfInBounds_toArray, List.set_cons_zero, List.set_cons_succ, List.getElem_toArray, List.getElem_cons_zero, List.getElem_cons_succ]
            refine one_keep (i := 3) (by kernel_rfl) ?_
            refine keep_step rfl (by rfl) ?_
            go_simp
            refine Calls.mono (HMo.out _ hB) ?_
            rintro e y105 ⟨ma, mc, rfl, hT, hb⟩
            have hB := HBd.out _ _ hB hb
            have n3 := n3.below hb
            have n4 := n4.below hb
            clear hb
            refine ⟨HSw.out _ hB, ?_⟩
            try simp only [Act.put, List.setIfInBounds_toArray, List.set_cons_zero, List.set_cons_succ, List.getElem_toArray, List.getElem_cons_zero, List.getElem_cons_succ]
            refine one_keep (i := 4) (by kernel_rfl) ?_
            refine keep_step rfl (by rfl) ?_
            go_simp
            refine Calls.mono (HRa.out _ ma mc hB hT) ?_
            rintro e y106 ⟨V2, J2, rfl, hA, hI, hb⟩
            have hB := HBd.out _ _ hB hb
            have hT := hT.below hb
            have n3 := n3.below hb
            have n4 := n4.below hb
            clear hb
            refine ⟨HSw.out _ hB, ?_⟩
            try simp only [Act.put, List.setIfInBounds_toArray, List.set_cons_zero, List.set_cons_succ, List.getElem_toArray, List.getElem_cons_zero, List.getElem_cons_succ]
            refine take_s (i := 5) (v := ?_) rfl (by kernel_rfl) (by kernel_rfl) (by kernel_rfl) (fun _ _ _ h => h) (by rfl) ?_ (HSw.out _ hB) ?_
            rotate_left
            · intro w' hLat; clear hLat; go_simp <;> with_reducible rfl
            try simp only [Act.put, List.setIfInBounds_toArray, List.set_cons_zero, List.set_cons_succ, List.getElem_toArray, List.getElem_cons_zero, List.getElem_cons_succ]
            refine take_s (i := 6) (v := ?_) rfl (by kernel_rfl) (by kernel_rfl) (by kernel_rfl) (fun _ _ _ h => h) (by rfl) ?_ (HSw.out _ hB) ?_
            rotate_left
            · intro w' hLat; clear hLat; go_simp <;> with_reducible rfl
            try simp only [Act.put, List.setIfInBounds_toArray, List.set_cons_zero, List.set_cons_succ, List.getElem_toArray, List.getElem_cons_zero, List.getElem_cons_succ]
            refine take_s (i := 7) (v := ?_) rfl (by kernel_rfl) (by kernel_rfl) (by kernel_rfl) (fun _ _ _ h => h) (by rfl) ?_ (HSw.out _ hB) ?_
            rotate_left
            · intro w' hLat; clear hLat; go_simp <;> with_reducible rfl
            try simp only [Act.put, List.setIfInBounds_toArray, List.set_cons_zero, List.set_cons_succ, List.getElem_toArray, List.getElem_cons_zero, List.getElem_cons_succ]
            refine take_s (i := 8) (v := ?_) rfl (by kernel_rfl) (by kernel_rfl) (by kernel_rfl) (fun _ _ _ h => h) (by rfl) ?_ (HSw.out _ hB) ?_
            rotate_left
            · intro w' hLat; clear hLat; go_simp <;> with_reducible rfl
            try simp only [Act.put, List.setIfInBounds_toArray, List.set_cons_zero, List.set_cons_succ, List.getElem_toArray, List.getElem_cons_zero, List.getElem_cons_succ]
            refine take_s (i := 9) (v := ?_) rfl (by kernel_rfl) (by kernel_rfl) (by kernel_rfl) (fun _ _ _ h => h) (by rfl) ?_ (HSw.out _ hB) ?_
            rotate_left
            · intro w' hLat; clear hLat; go_simp <;> with_reducible rfl
            try simp only [Act.put, List.setIfInBounds_toArray, List.set_cons_zero, List.set_cons_succ, List.getElem_toArray, List.getElem_cons_zero, List.getElem_cons_succ]
            have h3 : Box _ := ⟨st3 (HBo.out _ hB) HVl.out HZJ.out.2 HIs.out.2.2.2.2.2.1 hA n3 n4 g3.1 g3.2.1 g4.2.1 g3.2.2 g4.2.2 HW0.out⟩
            refine one_keep (i := 12) (by kernel_rfl) (keep_step rfl (by rfl) ?_)
            refine wp_store_mid 34 (.tmp 12) (.tmp 82) rfl Bm 0 V2.toArray rfl rfl h3.out.t1 hI.1 hI.2.1 ?_
            rw [List.toList_toArray]
            refine ⟨h3.out.s1, ?_⟩
            try simp only [Act.put, List.getElem_toArray, List.getElem_cons_zero, List.getElem_cons_succ]
            refine one_keep (i := 13) (by kernel_rfl) (keep_step rfl (by rfl) ?_)
            refine wp_store_mid 45 (.tmp 23) (.tmp 83) rfl b23 0 J2.toArray rfl rfl h3.out.t2 hI.2.2.1 hI.2.2.2 ?_
            rw [List.toList_toArray]
            refine ⟨h3.out.s2, ?_⟩
            try simp only [Act.put, List.getElem_toArray, List.getElem_cons_zero, List.getElem_cons_succ]
            refine one_keep (i := 14) (by kernel_rfl) (keep_step rfl (by rfl) ?_)
            refine wp_store_mid 43 (.tmp 24) (.tmp 84) rfl b24 0 (sa s1) rfl rfl h3.out.t3 HIs.out.1 (all_sa s1) ?_
            rw [HIs.out.2.1]
            refine ⟨h3.out.s3, ?_⟩
            try simp only [Act.put, List.getElem_toArray, List.getElem_cons_zero, List.getElem_cons_succ]
            refine take_s (i := 15) (v := ?_) rfl (by kernel_rfl) (by kernel_rfl) (by kernel_rfl) (fun _ _ _ h => h) (by rfl) ?_ h3.out.s3 ?_
            rotate_left
            · intro w' hLat; clear hLat; go_simp <;> with_reducible rfl
            try simp only [Act.put, List.setIfInBounds_toArray, List.set_cons_zero, List.set_cons_succ, List.getElem_toArray, List.getElem_cons_zero, List.getElem_cons_succ]
            refine wpAnyH_done (by kernel_rfl) ?_ _
            exact HRest.out b23 b24 ma mc V2 J2 _ h3.out.fz
      · as_aux_lemma =>
          refine keep_step rfl (by rfl) ?_
          go_simp
          refine Calls.mono (HMo.out _ hB) ?_
          rintro e y107 ⟨ma, mc, rfl, hT, hb⟩
          have hB := HBd.out _ _ hB hb
          have n4 := n4.below hb
          clear hb
          refine ⟨HSw.out _ hB, ?_⟩
          try simp only [Act.put, List.setIfInBounds_toArray, List.set_cons_zero, List.set_cons_succ, List.getElem_toArray, List.getElem_cons_zero, List.getElem_cons_succ]
          refine two_keep (i := 0) (j := 10) (by kernel_rfl) ?_ ?_
          · refine keep_step rfl (by rfl) ?_
            unfold Oper.wp
            rw [exec_load_mid 34 _ (.tmp 12) rfl Tryd.underlying34 rfl Bm 0 rfl V HVm.out.2.1 (HVm.out.1 _ hB)]
            refine ⟨HSw.out _ hB, ?_⟩
            try simp only [Act.put, List.setIfInBounds_toArray, List.set_cons_zero, List.set_cons_succ, List.getElem_toArray, List.getElem_cons_zero]
            refine two_keep (i := 4) (j := 10) (by kernel_rfl) ?_ ?_
            · refine keep_step rfl (by rfl) ?_
              go_simp
              refine Calls.mono (HRa.out _ ma mc hB hT) ?_
              rintro e y109 ⟨V2, J2, rfl, hA, hI, hb⟩
              have hB := HBd.out _ _ hB hb
              have hT := hT.below hb
              have n4 := n4.below hb
              clear hb
              refine ⟨HSw.out _ hB, ?_⟩
              try simp only [Act.put, List.setIfInBounds_toArray, List.set_cons_zero, List.set_cons_succ, List.getElem_toArray, List.getElem_cons_zero, List.getElem_cons_succ]
              refine take_s (i := 5) (v := ?_) rfl (by kernel_rfl) (by kernel_rfl) (by kernel_rfl) (fun _ _ _ h => h) (by rfl) ?_ (HSw.out _ hB) ?_
              rotate_left
              · intro w' hLat; clear hLat; go_simp <;> with_reducible rfl
              try simp only [Act.put, List.setIfInBounds_toArray, List.set_cons_zero, List.set_cons_succ, List.getElem_toArray, List.getElem_cons_zero, List.getElem_cons_succ]
              refine take_s (i := 6) (v := ?_) rfl (by kernel_rfl) (by kernel_rfl) (by kernel_rfl) (fun _ _ _ h => h) (by rfl) ?_ (HSw.out _ hB) ?_
              rotate_left
              · intro w' hLat; clear hLat; go_simp <;> with_reducible rfl
              try simp only [Act.put, List.setIfInBounds_toArray, List.set_cons_zero, List.set_cons_succ, List.getElem_toArray, List.getElem_cons_zero, List.getElem_cons_succ]
              refine take_s (i := 7) (v := ?_) rfl (by kernel_rfl) (by kernel_rfl) (by kernel_rfl) (fun _ _ _ h => h) (by rfl) ?_ (HSw.out _ hB) ?_
              rotate_left
              · intro w' hLat; clear hLat; go_simp <;> with_reducible rfl
              try simp only [Act.put, List.setIfInBounds_toArray, List.set_cons_zero, List.set_cons_succ, List.getElem_toArray, List.getElem_cons_zero, List.getElem_cons_succ]
              refine take_s (i := 8) (v := ?_) rfl (by kernel_rfl) (by kernel_rfl) (by kernel_rfl) (fun _ _ _ h => h) (by rfl) ?_ (HSw.out _ hB) ?_
              rotate_left
              · intro w' hLat; clear hLat; go_simp <;> with_reducible rfl
              try simp only [Act.put, List.setIfInBounds_toArray, List.set_cons_zero, List.set_cons_succ, List.getElem_toArray, List.getElem_cons_zero, List.getElem_cons_succ]
              refine take_s (i := 9) (v := ?_) rfl (by kernel_rfl) (by kernel_rfl) (by kernel_rfl) (fun _ _ _ h => h) (by rfl) ?_ (HSw.out _ hB) ?_
              rotate_left
              · intro w' hLat; clear hLat; go_simp <;> with_reducible rfl
              try simp only [Act.put, List.setIfInBounds_toArray, List.set_cons_zero, List.set_cons_succ, List.getElem_toArray, List.getElem_cons_zero, List.getElem_cons_succ]
              refine one_keep (i := 10) (by kernel_rfl) ?_
              refine keep_step rfl (by rfl) ?_
              unfold Oper.wp
              rw [exec_alloc 45 rfl _ HZJ.out.1]
              obtain ⟨b23, e1⟩ : ∃ b, y109.heap.size = b := ⟨_, rfl⟩
              obtain ⟨y110, e2⟩ : ∃ y, y109.alloc (.cells ZJ 45) = y := ⟨_, rfl⟩
              have hb : Below y109.heap.size y109 y110 := by rw [← e2]; exact (nb_new _ _ _).2
              have n3 : Nb y110 b23 ZJ 45 := by rw [← e1, ← e2]; exact (nb_new _ _ _).1
              have g3 := HAl.out _ hB
              rw [e1] at g3
              have hB := HBd.out _ _ hB hb
              have hT := hT.below hb
              have hA := hA.below hb
              have n4 := n4.below hb
              simp only [e1, e2]
              clear hb e1 e2
              refine ⟨HSw.out _ hB, ?_⟩
              try simp only [Act.put, List.setIfInBounds_toArray, List.set_cons_zero, List.set_cons_succ, List.getElem_toArray, List.getElem_cons_zero, List.getElem_cons_succ]
              have h3 : Box _ := ⟨st3 (HBo.out _ hB) HVl.out HZJ.out.2 HIs.out.2.2.2.2.2.1 hA n3 n4 g3.1 g3.2.1 g4.2.1 g3.2.2 g4.2.2 HW0.out⟩
              refine one_keep (i := 12) (by kernel_rfl) (keep_step rfl (by rfl) ?_)
              refine wp_store_mid 34 (.tmp 12) (.tmp 82) rfl Bm 0 V2.toArray rfl rfl h3.out.t1 hI.1 hI.2.1 ?_
              rw [List.toList_toArray]
              refine ⟨h3.out.s1, ?_⟩
              try simp only [Act.put, List.getElem_toArray, List.getElem_cons_zero, List.getElem_cons_succ]
              refine one_keep (i := 13) (by kernel_rfl) (keep_step rfl (by rfl) ?_)
              refine wp_store_mid 45 (.tmp 23) (.tmp 83) rfl b23 0 J2.toArray rfl rfl h3.out.t2 hI.2.2.1 hI.2.2.2 ?_
              rw [List.toList_toArray]
              refine ⟨h3.out.s2, ?_⟩
              try simp only [Act.put, List.getElem_toArray, List.getElem_cons_zero, List.getElem_cons_succ]
              refine one_keep (i := 14) (by kernel_rfl) (keep_step rfl (by rfl) ?_)
              refine wp_store_mid 43 (.tmp 24) (.tmp 84) rfl b24 0 (sa s1) rfl rfl h3.out.t3 HIs.out.1 (all_sa s1) ?_
              rw [HIs.out.2.1]
              refine ⟨h3.out.s3, ?_⟩
              try simp only [Act.put, List.getElem_toArray, List.getElem_cons_zero, List.getElem_cons_succ]
              refine take_s (i := 15) (v := ?_) rfl (by kernel_rfl) (by kernel_rfl) (by kernel_rfl) (fun _ _ _ h => h) (by rfl) ?_ h3.out.s3 ?_
              rotate_left
              · intro w' hLat; clear hLat; go_simp <;> with_reducible rfl
              try simp only [Act.put, List.setIfInBounds_toArray, List.set_cons_zero, List.set_cons_succ, List.getElem_toArray, List.getElem_cons_zero, List.getElem_cons_succ]
              refine wpAnyH_done (by kernel_rfl) ?_ _
              exact HRest.out b23 b24 ma mc V2 J2 _ h3.out.fz
            · refine keep_step rfl (by rfl) ?_
              unfold Oper.wp
              rw [exec_alloc 45 rfl _ HZJ.out.1]
              obtain ⟨b23, e1⟩ : ∃ b, y107.heap.size = b := ⟨_, rfl⟩
              obtain ⟨y111, e2⟩ : ∃ y, y107.alloc (.cells ZJ 45) = y := ⟨_, rfl⟩
              have hb : Below y107.heap.size y107 y111 := by rw [← e2]; exact (nb_new _ _ _).2
              have n3 : Nb y111 b23 ZJ 45 := by rw [← e1, ← e2]; exact (nb_new _ _ _).1
              have g3 := HAl.out _ hB
              rw [e1] at g3
              have hB := HBd.out _ _ hB hb
              have hT := hT.below hb
              have n4 := n4.below hb
              simp only [e1, e2]
              clear hb e1 e2
              refine ⟨HSw.out _ hB, ?_⟩
              try simp only [Act.put, List.setIfInBounds_toArray, List.set_cons_zero, List.set_cons_succ, List.getElem_toArray, List.getElem_cons_zero, List.getElem_cons_succ]
              refine one_keep (i := 4) (by kernel_rfl) ?_
              refine keep_step rfl (by rfl) ?_
              go_simp
              refine Calls.mono (HRa.out _ ma mc hB hT) ?_
              rintro e y112 ⟨V2, J2, rfl, hA, hI, hb⟩
              have hB := HBd.out _ _ hB hb
              have hT := hT.below hb
              have n3 := n3.below hb
              have n4 := n4.below hb
              clear hb
              refine ⟨HSw.out _ hB, ?_⟩
              try simp only [Act.put, List.setIfInBounds_toArray, List.set_cons_zero, List.set_cons_succ, List.getElem_toArray, List.getElem_cons_zero, List.getElem_cons_succ]
              refine take_s (i := 5) (v := ?_) rfl (by kernel_rfl) (by kernel_rfl) (by kernel_rfl) (fun _ _ _ h => h) (by rfl) ?_ (HSw.out _ hB) ?_
              rotate_left
              · intro w' hLat; clear hLat; go_simp <;> with_reducible rfl
              try simp only [Act.put, List.setIfInBounds_toArray, List.set_cons_zero, List.set_cons_succ, List.getElem_toArray, List.getElem_cons_zero, List.getElem_cons_succ]
              refine take_s (i := 6) (v := ?_) rfl (by kernel_rfl) (by kernel_rfl) (by kernel_rfl) (fun _ _ _ h => h) (by rfl) ?_ (HSw.out _ hB) ?_
              rotate_left
              · intro w' hLat; clear hLat; go_simp <;> with_reducible rfl
              try simp only [Act.put, List.setIfInBounds_toArray, List.set_cons_zero, List.set_cons_succ, List.getElem_toArray, List.getElem_cons_zero, List.getElem_cons_succ]
              refine take_s (i := 7) (v := ?_) rfl (by kernel_rfl) (by kernel_rfl) (by kernel_rfl) (fun _ _ _ h => h) (by rfl) ?_ (HSw.out _ hB) ?_
              rotate_left
              · intro w' hLat; clear hLat; go_simp <;> with_reducible rfl
              try simp only [Act.put, List.setIfInBounds_toArray, List.set_cons_zero, List.set_cons_succ, List.getElem_toArray, List.getElem_cons_zero, List.getElem_cons_succ]
              refine take_s (i := 8) (v := ?_) rfl (by kernel_rfl) (by kernel_rfl) (by kernel_rfl) (fun _ _ _ h => h) (by rfl) ?_ (HSw.out _ hB) ?_
              rotate_left
              · intro w' hLat; clear hLat; go_simp <;> with_reducible rfl
              try simp only [Act.put, List.setIfInBounds_toArray, List.set_cons_zero, List.set_cons_succ, List.getElem_toArray, List.getElem_cons_zero, List.getElem_cons_succ]
              refine take_s (i := 9) (v := ?_) rfl (by kernel_rfl) (by kernel_rfl) (by kernel_rfl) (fun _ _ _ h => h) (by rfl) ?_ (HSw.out _ hB) ?_
              rotate_left
              · intro w' hLat; clear hLat; go_simp <;> with_reducible rfl
              try simp only [Act.put, List.setIfInBounds_toArray, List.set_cons_zero, List.set_cons_succ, List.getElem_toArray, List.getElem_cons_zero, List.getElem_cons_succ]
              have h3 : Box _ := ⟨st3 (HBo.out _ hB) HVl.out HZJ.out.2 HIs.out.2.2.2.2.2.1 hA n3 n4 g3.1 g3.2.1 g4.2.1 g3.2.2 g4.2.2 HW0.out⟩
              refine one_keep (i := 12) (by kernel_rfl) (keep_step rfl (by rfl) ?_)
              refine wp_store_mid 34 (.tmp 12) (.tmp 82) rfl Bm 0 V2.toArray rfl rfl h3.out.t1 hI.1 hI.2.1 ?_
              rw [List.toList_toArray]
              refine ⟨h3.out.s1, ?_⟩
              try simp only [Act.put, List.getElem_toArray, List.getElem_cons_zero, List.getElem_cons_succ]
              refine one_keep (i := 13) (by kernel_rfl) (keep_step rfl (by rfl) ?_)
              refine wp_store_mid 45 (.tmp 23) (.tmp 83) rfl b23 0 J2.toArray rfl rfl h3.out.t2 hI.2.2.1 hI.2.2.2 ?_
              rw [List.toList_toArray]
              refine ⟨h3.out.s2, ?_⟩
              try simp only [Act.put, List.getElem_toArray, List.getElem_cons_zero, List.getElem_cons_succ]
              refine one_keep (i := 14) (by kernel_rfl) (keep_step rfl (by rfl) ?_)
              refine wp_store_mid 43 (.tmp 24) (.tmp 84) rfl b24 0 (sa s1) rfl rfl h3.out.t3 HIs.out.1 (all_sa s1) ?_
              rw [HIs.out.2.1]
              refine ⟨h3.out.s3, ?_⟩
              try simp only [Act.put, List.getElem_toArray, List.getElem_cons_zero, List.getElem_cons_succ]
              refine take_s (i := 15) (v := ?_) rfl (by kernel_rfl) (by kernel_rfl) (by kernel_rfl) (fun _ _ _ h => h) (by rfl) ?_ h3.out.s3 ?_
              rotate_left
              · intro w' hLat; clear hLat; go_simp <;> with_reducible rfl
              try simp only [Act.put, List.setIfInBounds_toArray, List.set_cons_zero, List.set_cons_succ, List.getElem_toArray, List.getElem_cons_zero, List.getElem_cons_succ]
              refine wpAnyH_done (by kernel_rfl) ?_ _
              exact HRest.out b23 b24 ma mc V2 J2 _ h3.out.fz
          · refine keep_step rfl (by rfl) ?_
            unfold Oper.wp
            rw [exec_alloc 45 rfl _ HZJ.out.1]
            obtain ⟨b23, e1⟩ : ∃ b, y107.heap.size = b := ⟨_, rfl⟩
            obtain ⟨y113, e2⟩ : ∃ y, y107.alloc (.cells ZJ 45) = y := ⟨_, rfl⟩
            have hb : Below y107.heap.size y107 y113 := by rw [← e2]; exact (nb_new _ _ _).2
            have n3 : Nb y113 b23 ZJ 45 := by rw [← e1, ← e2]; exact (nb_new _ _ _).1
            have g3 := HAl.out _ hB
            rw [e1] at g3
            have hB := HBd.out _ _ hB hb
            have hT := hT.below hb
            have n4 := n4.below hb
            simp only [e1, e2]
            clear hb e1 e2
            refine ⟨HSw.out _ hB, ?_⟩
            try simp only [Act.put, List.setIfInBounds_toArray, List.set_cons_zero, List.set_cons_succ, List.getElem_toArray, List.getElem_cons_zero, List.getElem_cons_succ]
            refine one_keep (i := 0) (by kernel_rfl) ?_
            refine keep_step rfl (by rfl) ?_
            unfold Oper.wp
            rw [exec_load_mid 34 _ (.tmp 12) rfl Tryd.underlying34 rfl Bm 0 rfl V HVm.out.2.1 (HVm.out.1 _ hB)]
            refine ⟨HSw.out _ hB, ?_⟩
            try simp only [Act.put, List.setIfInBounds_toArray, List.set_cons_zero, List.set_cons_succ, List.getElem_toArray, List.getElem_cons_zero]
            refine one_keep (i := 4) (by kernel_rfl) ?_
            refine keep_step rfl (by rfl) ?_
            go_simp
            refine Calls.mono (HRa.out _ ma mc hB hT) ?_
            rintro e y115 ⟨V2, J2, rfl, hA, hI, hb⟩
            have hB := HBd.out _ _ hB hb
            have hT := hT.below hb
            have n3 := n3.below hb
            have n4 := n4.below hb
            clear hb
            refine ⟨HSw.out _ hB, ?_⟩
            try simp only [Act.put, List.setIfInBounds_toArray, List.set_cons_zero, List.set_cons_succ, List.getElem_toArray, List.getElem_cons_zero, List.getElem_cons_succ]
            refine take_s (i := 5) (v := ?_) rfl (by kernel_rfl) (by kernel_rfl) (by kernel_rfl) (fun _ _ _ h => h) (by rfl) ?_ (HSw.out _ hB) ?_
            rotate_left
            · intro w' hLat; clear hLat; go_simp <;> with_reducible rfl
            try simp only [Act.put, List.setIfInBounds_toArray, List.set_cons_zero, List.set_cons_succ, List.getElem_toArray, List.getElem_cons_zero, List.getElem_cons_succ]
            refine take_s (i := 6) (v := ?_) rfl (by kernel_rfl) (by kernel_rfl) (by kernel_rfl) (fun _ _ _ h => h) (by rfl) ?_ (HSw.out _ hB) ?_
            rotate_left
            · intro w' hLat; clear hLat; go_simp <;> with_reducible rfl
            try simp only [Act.put, List.setIfInBounds_toArray, List.set_cons_zero, List.set_cons_succ, List.getElem_toArray, List.getElem_cons_zero, List.getElem_cons_succ]
            refine take_s (i := 7) (v := ?_) rfl (by kernel_rfl) (by kernel_rfl) (by kernel_rfl) (fun _ _ _ h => h) (by rfl) ?_ (HSw.out _ hB) ?_
            rotate_left
            · intro w' hLat; clear hLat; go_simp <;> with_reducible rfl
            try simp only [Act.put, List.setIfInBounds_toArray, List.set_cons_zero, List.set_cons_succ, List.getElem_toArray, List.getElem_cons_zero, List.getElem_cons_succ]
            refine take_s (i := 8) (v := ?_) rfl (by kernel_rfl) (by kernel_rfl) (by kernel_rfl) (fun _ _ _ h => h) (by rfl) ?_ (HSw.out _ hB) ?_
            rotate_left
            · intro w' hLat; clear hLat; go_simp <;> with_reducible rfl
            try simp only [Act.put, List.setIfInBounds_toArray, List.set_cons_zero, List.set_cons_succ, List.getElem_toArray, List.getElem_cons_zero, List.getElem_cons_succ]
            refine take_s (i := 9) (v := ?_) rfl (by kernel_rfl) (by kernel_rfl) (by kernel_rfl) (fun _ _ _ h => h) (by rfl) ?_ (HSw.out _ hB) ?_
            rotate_left
            · intro w' hLat; clear hLat; go_simp <;> with_reducible rfl
            try simp only [Act.put, List.setIfInBounds_toArray, List.set_cons_zero, List.set_cons_succ, List.getElem_toArray, List.getElem_cons_zero, List.getElem_cons_succ]
            have h3 : Box _ := ⟨st3 (HBo.out _ hB) HVl.out HZJ.out.2 HIs.out.2.2.2.2.2.1 hA n3 n4 g3.1 g3.2.1 g4.2.1 g3.2.2 g4.2.2 HW0.out⟩
            refine one_keep (i := 12) (by kernel_rfl) (keep_step rfl (by rfl) ?_)
            refine wp_store_mid 34 (.tmp 12) (.tmp 82) rfl Bm 0 V2.toArray rfl rfl h3.out.t1 hI.1 hI.2.1 ?_
            rw [List.toList_toArray]
            refine ⟨h3.out.s1, ?_⟩
            try simp only [Act.put, List.getElem_toArray, List.getElem_cons_zero, List.getElem_cons_succ]
            refine one_keep (i := 13) (by kernel_rfl) (keep_step rfl (by rfl) ?_)
            refine wp_store_mid 45 (.tmp 23) (.tmp 83) rfl b23 0 J2.toArray rfl rfl h3.out.t2 hI.2.2.1 hI.2.2.2 ?_
            rw [List.toList_toArray]
            refine ⟨h3.out.s2, ?_⟩
            try simp only [Act.put, List.getElem_toArray, List.getElem_cons_zero, List.getElem_cons_succ]
            refine one_keep (i := 14) (by kernel_rfl) (keep_step rfl (by rfl) ?_)
            refine wp_store_mid 43 (.tmp 24) (.tmp 84) rfl b24 0 (sa s1) rfl rfl h3.out.t3 HIs.out.1 (all_sa s1) ?_
            rw [HIs.out.2.1]
            refine ⟨h3.out.s3, ?_⟩
            try simp only [Act.put, List.getElem_toArray, List.getElem_cons_zero, List.getElem_cons_succ]
            refine take_s (i := 15) (v := ?_) rfl (by kernel_rfl) (by kernel_rfl) (by kernel_rfl) (fun _ _ _ h => h) (by rfl) ?_ h3.out.s3 ?_
            rotate_left
            · intro w' hLat; clear hLat; go_simp <;> with_reducible rfl
            try simp only [Act.put, List.setIfInBounds_toArray, List.set_cons_zero, List.set_cons_succ, List.getElem_toArray, List.getElem_cons_zero, List.getElem_cons_succ]
            refine wpAnyH_done (by kernel_rfl) ?_ _
            exact HRest.out b23 b24 ma mc V2 J2 _ h3.out.fz
      · as_aux_lemma =>
          refine keep_step rfl (by rfl) ?_
          unfold Oper.wp
          rw [exec_alloc 45 rfl _ HZJ.out.1]
          obtain ⟨b23, e1⟩ : ∃ b, y97.heap.size = b := ⟨_, rfl⟩
          obtain ⟨y116, e2⟩ : ∃ y, y97.alloc (.cells ZJ 45) = y := ⟨_, rfl⟩
          have hb : Below y97.heap.size y97 y116 := by rw [← e2]; exact (nb_new _ _ _).2
          have n3 : Nb y116 b23 ZJ 45 := by rw [← e1, ← e2]; exact (nb_new _ _ _).1
          have g3 := HAl.out _ hB
          rw [e1] at g3
          have hB := HBd.out _ _ hB hb
          have n4 := n4.below hb
          simp only [e1, e2]
          clear hb e1 e2
          refine ⟨HSw.out _ hB, ?_⟩
          try simp only [Act.put, List.setIfInBounds_toArray, List.set_cons_zero, List.set_cons_succ, List.getElem_toArray, List.getElem_cons_zero, List.getElem_cons_succ]
          refine two_keep (i := 0) (j := 3) (by kernel_rfl) ?_ ?_
          · refine keep_step rfl (by rfl) ?_
            unfold Oper.wp
            rw [exec_load_mid 34 _ (.tmp 12) rfl Tryd.underlying34 rfl Bm 0 rfl V HVm.out.2.1 (HVm.out.1 _ hB)]
            refine ⟨HSw.out _ hB, ?_⟩
            try simp only [Act.put, List.setIfInBounds_toArray, List.set_cons_zero, List.set_cons_succ, List.getElem_toArray, List.getElem_cons_zero]
            refine one_keep (i := 3) (by kernel_rfl) ?_
            refine keep_step rfl (by rfl) ?_
            go_simp
            refine Calls.mono (HMo.out _ hB) ?_
            rintro e y118 ⟨ma, mc, rfl, hT, hb⟩
            have hB := HBd.out _ _ hB hb
            have n3 := n3.below hb
            have n4 := n4.below hb
            clear hb
            refine ⟨HSw.out _ hB, ?_⟩
            try simp only [Act.put, List.setIfInBounds_toArray, List.set_cons_zero, List.set_cons_succ, List.getElem_toArray, List.getElem_cons_zero, List.getElem_cons_succ]
            refine one_keep (i := 4) (by kernel_rfl) ?_
            refine keep_step rfl (by rfl) ?_
            go_simp
            refine Calls.mono (HRa.out _ ma mc hB hT) ?_
            rintro e y119 ⟨V2, J2, rfl, hA, hI, hb⟩
            have hB := HBd.out _ _ hB hb
            have hT := hT.below hb
            have n3 := n3.below hb
            have n4 := n4.below hb
            clear hb
            refine ⟨HSw.out _ hB, ?_⟩
            try simp only [Act.put, List.setIfInBounds_toArray, List.set_cons_zero, List.set_cons_succ, List.getElem_toArray, List.getElem_cons_zero, List.getElem_cons_succ]
            refine take_s (i := 5) (v := ?_) rfl (by kernel_rfl) (by kernel_rfl) (by kernel_rfl) (fun _ _ _ h => h) (by rfl) ?_ (HSw.out _ hB) ?_
            rotate_left
            · intro w' hLat; clear hLat; go_simp <;> with_reducible rfl
            try simp only [Act.put, List.setIfInBounds_toArray, List.set_cons_zero, List.set_cons_succ, List.getElem_toArray, List.getElem_cons_zero, List.getElem_cons_succ]
            refine take_s (i := 6) (v := ?_) rfl (by kernel_rfl) (by kernel_rfl) (by kernel_rfl) (fun _ _ _ h => h) (by rfl) ?_ (HSw.out _ hB) ?_
            rotate_left
            · intro w' hLat; clear hLat; go_simp <;> with_reducible rfl
            try simp only [Act.put, List.setIfInBounds_toArray, List.set_cons_zero, List.set_cons_succ, List.getElem_toArray, List.getElem_cons_zero, List.getElem_cons_succ]
            refine take_s (i := 7) (v := ?_) rfl (by kernel_rfl) (by kernel_rfl) (by kernel_rfl) (fun _ _ _ h => h) (by rfl) ?_ (HSw.out _ hB) ?_
            rotate_left
            · intro w' hLat; clear hLat; go_simp <;> with_reducible rfl
            try simp only [Act.put, List.setIfInBounds_toArray, List.set_cons_zero, List.set_cons_succ, List.getElem_toArray, List.getElem_cons_zero, List.getElem_cons_succ]
            refine take_s (i := 8) (v := ?_) rfl (by kernel_rfl) (by kernel_rfl) (by kernel_rfl) (fun _ _ _ h => h) (by rfl) ?_ (HSw.out _ hB) ?_
            rotate_left
            · intro w' hLat; clear hLat; go_simp <;> with_reducible rfl
            try simp only [Act.put, List.setIfInBounds_toArray, List.set_cons_zero, List.set_cons_succ, List.getElem_toArray, List.getElem_cons_zero, List.getElem_cons_succ]
            refine take_s (i := 9) (v := ?_) rfl (by kernel_rfl) (by kernel_rfl) (by kernel_rfl) (fun _ _ _ h => h) (by rfl) ?_ (HSw.out _ hB) ?_
            rotate_left
            · intro w' hLat; clear hLat; go_simp <;> with_reducible rfl
            try simp only [Act.put, List.setIfInBounds_toArray, List.set_cons_zero, List.set_cons_succ, List.getElem_toArray, List.getElem_cons_zero, List.getElem_cons_succ]
            have h3 : Box _ := ⟨st3 (HBo.out _ hB) HVl.out HZJ.out.2 HIs.out.2.2.2.2.2.1 hA n3 n4 g3.1 g3.2.1 g4.2.1 g3.2.2 g4.2.2 HW0.out⟩
            refine one_keep (i := 12) (by kernel_rfl) (keep_step rfl (by rfl) ?_)
            refine wp_store_mid 34 (.tmp 12) (.tmp 82) rfl Bm 0 V2.toArray rfl rfl h3.out.t1 hI.1 hI.2.1 ?_
            rw [List.toList_toArray]
            refine ⟨h3.out.s1, ?_⟩
            try simp only [Act.put, List.getElem_toArray, List.getElem_cons_zero, List.getElem_cons_succ]
            refine one_keep (i := 13) (by kernel_rfl) (keep_step rfl (by rfl) ?_)
            refine wp_store_mid 45 (.tmp 23) (.tmp 83) rfl b23 0 J2.toArray rfl rfl h3.out.t2 hI.2.2.1 hI.2.2.2 ?_
            rw [List.toList_toArray]
            refine ⟨h3.out.s2, ?_⟩
            try simp only [Act.put, List.getElem_toArray, List.getElem_cons_zero, List.getElem_cons_succ]
            refine one_keep (i := 14) (by kernel_rfl) (keep_step rfl (by rfl) ?_)
            refine wp_store_mid 43 (.tmp 24) (.tmp 84) rfl b24 0 (sa s1) rfl rfl h3.out.t3 HIs.out.1 (all_sa s1) ?_
            rw [HIs.out.2.1]
            refine ⟨h3.out.s3, ?_⟩
            try simp only [Act.put, List.getElem_toArray, List.getElem_cons_zero, List.getElem_cons_succ]
            refine take_s (i := 15) (v := ?_) rfl (by kernel_rfl) (by kernel_rfl) (by kernel_rfl) (fun _ _ _ h => h) (by rfl) ?_ h3.out.s3 ?_
            rotate_left
            · intro w' hLat; clear hLat; go_simp <;> with_reducible rfl
            try simp only [Act.put, List.setIfInBounds_toArray, List.set_cons_zero, List.set_cons_succ, List.getElem_toArray, List.getElem_cons_zero, List.getElem_cons_succ]
            refine wpAnyH_done (by kernel_rfl) ?_ _
            exact HRest.out b23 b24 ma mc V2 J2 _ h3.out.fz
          · refine keep_step rfl (by rfl) ?_
            go_simp
            refine Calls.mono (HMo.out _ hB) ?_
            rintro e y120 ⟨ma, mc, rfl, hT, hb⟩
            have hB := HBd.out _ _ hB hb
            have n3 := n3.below hb
            have n4 := n4.below hb
            clear hb
            refine ⟨HSw.out _ hB, ?_⟩
            try simp only [Act.put, List.setIfInBounds_toArray, List.set_cons_zero, List.set_cons_succ, List.getElem_toArray, List.getElem_cons_zero, List.getElem_cons_succ]
            refine one_keep (i := 0) (by kernel_rfl) ?_
            refine keep_step rfl (by rfl) ?_
            unfold Oper.wp
            rw [exec_load_mid 34 _ (.tmp 12) rfl Tryd.underlying34 rfl Bm 0 rfl V HVm.out.2.1 (HVm.out.1 _ hB)]
            refine ⟨HSw.out _ hB, ?_⟩
            try simp only [Act.put, List.setIfInBounds_toArray, List.set_cons_zero, List.set_cons_succ, List.getElem_toArray, List.getElem_cons_zero]
            refine one_keep (i := 4) (by kernel_rfl) ?_
            refine keep_step rfl (by rfl) ?_
            go_simp
            refine Calls.mono (HRa.out _ ma mc hB hT) ?_
            rintro e y122 ⟨V2, J2, rfl, hA, hI, hb⟩
            have hB := HBd.out _ _ hB hb
            have hT := hT.below hb
            have n3 := n3.below hb
            have n4 := n4.below hb
            clear hb
            refine ⟨HSw.out _ hB, ?_⟩
            try simp only [Act.put, List.setIfInBounds_toArray, List.set_cons_zero, List.set_cons_succ, List.getElem_toArray, List.getElem_cons_zero, List.getElem_cons_succ]
            refine take_s (i := 5) (v := ?_) rfl (by kernel_rfl) (by kernel_rfl) (by kernel_rfl) (fun _ _ _ h => h) (by rfl) ?_ (HSw.out _ hB) ?_
            rotate_left
            · intro w' hLat; clear hLat; go_simp <;> with_reducible rfl
            try simp only [Act.put, List.setIfInBounds_toArray, List.set_cons_zero, List.set_cons_succ, List.getElem_toArray, List.getElem_cons_zero, List.getElem_cons_succ]
            refine take_s (i := 6) (v := ?_) rfl (by kernel_rfl) (by kernel_rfl) (by kernel_rfl) (fun _ _ _ h => h) (by rfl) ?_ (HSw.out _ hB) ?_
            rotate_left
            · intro w' hLat; clear hLat; go_simp <;> with_reducible rfl
            try simp only [Act.put, List.setIfInBounds_toArray, List.set_cons_zero, List.set_cons_succ, List.getElem_toArray, List.getElem_cons_zero, List.getElem_cons_succ]
            refine take_s (i := 7) (v := ?_) rfl (by kernel_rfl) (by kernel_rfl) (by kernel_rfl) (fun _ _ _ h => h) (by rfl) ?_ (HSw.out _ hB) ?_
            rotate_left
            · intro w' hLat; clear hLat; go_simp <;> with_reducible rfl
            try simp only [Act.put, List.setIfInBounds_toArray, List.set_cons_zero, List.set_cons_succ, List.getElem_toArray, List.getElem_cons_zero, List.getElem_cons_succ]
            refine take_s (i := 8) (v := ?_) rfl (by kernel_rfl) (by kernel_rfl) (by kernel_rfl) (fun _ _ _ h => h) (by rfl) ?_ (HSw.out _ hB) ?_
            rotate_left
            · intro w' hLat; clear hLat; go_simp <;> with_reducible rfl
            try simp only [Act.put, List.setIfInBounds_toArray, List.set_cons_zero, List.set_cons_succ, List.getElem_toArray, List.getElem_cons_zero, List.getElem_cons_succ]
            refine take_s (i := 9) (v := ?_) rfl (by kernel_rfl) (by kernel_rfl) (by kernel_rfl) (fun _ _ _ h => h) (by rfl) ?_ (HSw.out _ hB) ?_
            rotate_left
            · intro w' hLat; clear hLat; go_simp <;> with_reducible rfl
            try simp only [Act.put, List.setIfInBounds_toArray, List.set_cons_zero, List.set_cons_succ, List.getElem_toArray, List.getElem_cons_zero, List.getElem_cons_succ]
            have h3 : Box _ := ⟨st3 (HBo.out _ hB) HVl.out HZJ.out.2 HIs.out.2.2.2.2.2.1 hA n3 n4 g3.1 g3.2.1 g4.2.1 g3.2.2 g4.2.2 HW0.out⟩
            refine one_keep (i := 12) (by kernel_rfl) (keep_step rfl (by rfl) ?_)
            refine wp_store_mid 34 (.tmp 12) (.tmp 82) rfl Bm 0 V2.toArray rfl rfl h3.out.t1 hI.1 hI.2.1 ?_
            rw [List.toList_toArray]
            refine ⟨h3.out.s1, ?_⟩
            try simp only [Act.put, List.getElem_toArray, List.getElem_cons_zero, List.getElem_cons_succ]
            refine one_keep (i := 13) (by kernel_rfl) (keep_step rfl (by rfl) ?_)
            refine wp_store_mid 45 (.tmp 23) (.tmp 83) rfl b23 0 J2.toArray rfl rfl h3.out.t2 hI.2.2.1 hI.2.2.2 ?_
            rw [List.toList_toArray]
            refine ⟨h3.out.s2, ?_⟩
            try simp only [Act.put, List.getElem_toArray, List.getElem_cons_zero, List.getElem_cons_succ]
            refine one_keep (i := 14) (by kernel_rfl) (keep_step rfl (by rfl) ?_)
            refine wp_store_mid 43 (.tmp 24) (.tmp 84) rfl b24 0 (sa s1) rfl rfl h3.out.t3 HIs.out.1 (all_sa s1) ?_
            rw [HIs.out.2.1]
            refine ⟨h3.out.s3, ?_⟩
            try simp only [Act.put, List.getElem_toArray, List.getElem_cons_zero, List.getElem_cons_succ]
            refine take_s (i := 15) (v := ?_) rfl (by kernel_rfl) (by kernel_rfl) (by kernel_rfl) (fun _ _ _ h => h) (by rfl) ?_ h3.out.s3 ?_
            rotate_left
            · intro w' hLat; clear hLat; go_simp <;> with_reducible rfl
            try simp only [Act.put, List.setIfInBounds_toArray, List.set_cons_zero, List.set_cons_succ, List.getElem_toArray, List.getElem_cons_zero, List.getElem_cons_succ]
            refine wpAnyH_done (by kernel_rfl) ?_ _
            exact HRest.out b23 b24 ma mc V2 J2 _ h3.out.fz
end Go.Proofs.YtcggbnggmglphaaDoor
