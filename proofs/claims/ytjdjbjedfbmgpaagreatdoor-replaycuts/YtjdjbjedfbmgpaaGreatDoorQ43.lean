/-
 ReplayCuts: fewer, or more, records than were written, with any tag, are what the document says.
-/
import Derived.Test.YtjdjbjedfbmgpaaGreatDoorQ01
import Derived.Test.YtjdjbjedfbmgpaaGreatDoorQ38
import Derived.Test.YtjdjbjedfbmgpaaGreatDoorQ41
import Derived.Test.YtjdjbjedfbmgpaaGreatDoorQ42
import Derived.Test.YtjdjbjedfbmgpaaGreatDoorQ39
set_option linter.unusedVariables false
set_option maxRecDepth 100000
set_option maxRecDepth 100000
namespace Go.Proofs.YtjdjbjedfbmgpaaGreatDoor
open Go.RowKit Plain
set_option maxHeartbeats 16000000 in
theorem replayCuts_core (K : List Int) (hK : K.length = 32 /\ Byt K) (a : Option Addr) (ca : Nat) (M : List Im) (cn : Nat) (lk : Bool) (hcn : cn < 256) (w : World) (hT : Dig.Tabs w) (hT2 : Seal.Tab w) (hM : Imgs w a M) (hmM : M.length <= 9223372036854775807) :
  Calls Tryz.prog 4 #[.agg (u8s K), .slice a M.length ca, .int .u8 (cn : Int), .bool lk] w fun e w' => e = .returned (.bool true) /\ Below w.heap.size w w' := by
 obtain ⟨S, hS⟩ : ∃ S, w.heap.size = S := ⟨_, rfl⟩
 obtain ⟨AK, HAK⟩ : ∃ A, Box (u8s K = A) := ⟨_, ⟨rfl⟩⟩
 rw [HAK.out]
 obtain ⟨w1, hw1⟩ : ∃ w1, w.alloc (.cells AK 23) = w1 := ⟨_, rfl⟩
 have hb1 : Below w.heap.size w w1 := by rw [<- hw1]; exact (Below.refl _ _).alloc (Nat.le_refl _) _
 have r1 : w1.heap[S]? = some (.cells AK 23 (0, 0)) := by rw [<- hw1]; exact al_at hS
 have HAW : Box (Calls Tryz.prog 5 #[] w1 fun e w' => e = .returned (.bool true) /\ Below w1.heap.size w1 w') := ⟨awake14_v w1 (hT.below hb1) (hT2.below hb1)⟩
 have HX : Box (∀ x, Below w1.heap.size w1 x -> x.rangeAt S 0 (K.map (Value.int .u8)) /\ Dig.Tabs x /\ Seal.Tab x /\ Imgs x a M /\ Below w.heap.size w x) := ⟨fun x hx => ⟨fun j q hq => by
  rw [cell_of_row _ _ _ _ _ _ ((hx.block S (Array.getElem?_eq_some_iff.1 r1).1).trans r1), Nat.zero_add, <- HAK.out]
  simpa [u8s] using hq, hT.below (below_to hb1 hx), hT2.below (below_to hb1 hx), hM.below (below_to hb1 hx), below_to hb1 hx⟩⟩
 have HKI : Box ((Tryz.prog.info? 23).map (·.size) = some (K.map (Value.int .u8)).length /\ (K.map (Value.int .u8)).toArray = AK /\ K.length = 32 /\ Byt K) := ⟨by rw [List.length_map, hK.1]; exact infoSum, by rw [<- HAK.out]; rfl, hK⟩
 have HS : Box (w.heap.size = S) := ⟨hS⟩
 obtain ⟨n, hn⟩ : ∃ n, M.length = n := ⟨_, rfl⟩
 have HLN : Box (M.length = n) := ⟨hn⟩
 rw [hn] at hmM ⊢
 clear hT hT2 hM hK hb1 r1 hS hn
 by_cases h0 : n = 0
 ·subst h0
  go_enter Tryz.func4, Tryz.ntmps4
  go_upto_region 1 with fail
  (try simp only [HS.out])
  clear hw1
  go_upto_region 4 with (go_at_call 5; refine HAW.out.mono ?_; rintro e x1 ⟨rfl, hb⟩; have H1 : Box (Below w1.heap.size w1 x1) := ⟨hb⟩; clear hb)
  go_wp2
  go_ret
  exact ⟨rfl, (HX.out x1 H1.out).2.2.2.2⟩
 by_cases h6 : 5 < n
 ·have d0 : ((n : Int) == 0) = false := by simp; omega
  have d0b : ¬ (n : Int) = 0 := by omega
  have d6 : decide ((5 : Int) < (n : Int)) = true := by simp; omega
  go_enter Tryz.func4, Tryz.ntmps4
  go_upto_region 1 with fail
  (try simp only [HS.out])
  clear hw1
  go_upto_region 4 with (go_at_call 5; refine HAW.out.mono ?_; rintro e x1 ⟨rfl, hb⟩; have H1 : Box (Below w1.heap.size w1 x1) := ⟨hb⟩; clear hb)
  go_wp2
  go_ret
  exact ⟨rfl, (HX.out x1 H1.out).2.2.2.2⟩
 have HN6 : Box (1 <= n /\ n <= 5) := ⟨by omega, by omega⟩
 have d0 : ((n : Int) == 0) = false := by simp; omega
 have d0b : ¬ (n : Int) = 0 := by omega
 have d6 : decide ((5 : Int) < (n : Int)) = false := by simp; omega
 go_enter Tryz.func4, Tryz.ntmps4
 go_upto_region 1 with fail
 (try simp only [HS.out])
 clear hw1
 go_upto_region 4 with (go_at_call 5; refine HAW.out.mono ?_; rintro e x1 ⟨rfl, hb⟩; have H1 : Box (Below w1.heap.size w1 x1) := ⟨hb⟩; clear hb)
 go_upto_region 6 with fail
 clear HAW d0 d0b d6 h0 h6 hmM
 obtain ⟨D, hD⟩ : ∃ D, x1.heap.size + 1 = D := ⟨_, rfl⟩
 have HD : Box (Calls Tryz.prog 6 #[.int .i64 8] x1 fun e w' => e = .returned (.tuple #[.pointer (some ⟨D, 0, none⟩), .int .i64 0]) /\ ∃ fp, Disk.Cx x1 w' D fp (Disk.dk0 8)) := ⟨by have := Disk.new_cx x1 8 ⟨by omega, by omega⟩; rw [hD] at this; exact this⟩
 clear hD
 obtain ⟨dz, hdz⟩ : ∃ dz, Disk.dk0 8 = dz := ⟨_, rfl⟩
 rw [hdz] at HD
 have HD0 : Box (Up dz /\ dz.n = 8 /\ dz.ops = [] /\ dz.uw = [] /\ dz.left = 0 /\ Disk.J 0 dz (Disk.rd0 8)) := ⟨by rw [<- hdz]; exact ⟨⟨rfl, rfl⟩, rfl, rfl, rfl, rfl, Disk.j_new 8⟩⟩
 clear hdz
 go_upto_region 7 with (go_at_call 6; refine HD.out.mono ?_; rintro e x2 ⟨rfl, fp2, hc⟩; have H2 : Box (Disk.Cx x1 x2 D fp2 dz) := ⟨hc⟩; clear hc)
 clear HD
 obtain ⟨rz, hrz⟩ : ∃ rz, Disk.rd0 8 = rz := ⟨_, rfl⟩
 rw [hrz] at HD0
 have HRn : Box (Calls Tryz.prog 7 #[.int .i64 8] x2 fun e w' => ∃ V : List Value, e = .returned (.tuple #[.agg V.toArray, .int .i64 0]) /\ Disk.Rv w' (.agg V.toArray) rz /\ Below x2.heap.size x2 w' /\ V.toArray.all (·.oneCell') = true /\ (Tryz.prog.info? 36).map (·.size) = some V.toArray.size /\ V.length = 6) := ⟨by
  have := Disk.rnew_any x2 8 ⟨by omega, by omega⟩
  rw [hrz] at this
  refine this.mono ?_
  rintro e w' ⟨v, rfl, hr, hb⟩
  obtain ⟨V, rfl, hl, ha⟩ := rv_form hr
  exact ⟨V, rfl, hr, hb, ha, by rw [List.size_toArray, hl]; exact Disk.infoD, hl⟩⟩
 clear hrz
 obtain ⟨ZD, hZD⟩ : ∃ ZD, (Disk.rv 0 (.slice none 0 0) (.slice none 0 0) 0 false (.slice none 0 0)).toArray = ZD := ⟨_, rfl⟩
 have HZD : Box ((Tryz.prog.info? 36).map (·.zero) = some (some (.agg ZD)) /\ ZD.size = 6) := ⟨by rw [<- hZD]; exact Disk.zeroD, by rw [<- hZD]; rfl⟩
 obtain ⟨ZJ, hZJ⟩ : ∃ ZJ, (rq z32 0 0 zs 0 0).toArray = ZJ := ⟨_, rfl⟩
 have HZJ : Box ((Tryz.prog.info? 44).map (·.zero) = some (some (.agg ZJ)) /\ ZJ.size = 70) := ⟨by rw [<- hZJ]; exact zeroRj, by rw [<- hZJ, List.size_toArray, len_rq _ _ _ _ _ _ len_z32 okS_zs]⟩
 clear hZD hZJ
 go_upto_region 8 with (first
  | (go_at_call 7; refine HRn.out.mono ?_; rintro e x3 ⟨V, rfl, hr, hb, ha, hi, hl⟩; have H3 : Box (Disk.Rv x3 (.agg V.toArray) rz /\ Below x2.heap.size x2 x3 /\ V.toArray.all (·.oneCell') = true /\ (Tryz.prog.info? 36).map (·.size) = some V.toArray.size /\ ZD.size = V.toArray.size /\ V.length = 6) := ⟨hr, hb, ha, hi, by rw [HZD.out.2, List.size_toArray, hl], hl⟩; clear hr hb ha hi hl)
  | (refine atAlloc _ ?_; refine wpList_run rfl _ _ (exec_alloc 36 rfl _ HZD.out.1) ?_)
  | (refine atStore _ ?_; refine wpList_newRow x3 ZD V.toArray H3.out.2.2.2.1 H3.out.2.2.2.2.1 H3.out.2.2.1 rfl _ _ rfl rfl rfl rfl ?_; intro x4 h4 hb4; have H4 : Box (x4.heap[x3.heap.size]? = some (.cells V.toArray 36 (0, 0)) /\ Below x3.heap.size x3 x4) := ⟨h4, hb4⟩; clear h4 hb4))
 obtain ⟨Bm, hBm⟩ : ∃ Bm, x3.heap.size = Bm := ⟨_, rfl⟩
 (try simp only [hBm])
 have H4a : Box (Disk.Rv x4 (.agg V.toArray) rz /\ x4.heap[Bm]? = some (.cells V.toArray 36 (0, 0)) /\ Disk.Cx x1 x4 D fp2 dz /\ x2.heap.size <= Bm /\ Below x2.heap.size x2 x4) := ⟨H3.out.1.below H4.out.2, by rw [<- hBm]; exact H4.out.1, (H2.out.step H3.out.2.1).step H4.out.2, by rw [<- hBm]; exact H3.out.2.1.size, below_to H3.out.2.1 H4.out.2⟩
 have HVl : Box (V.length = 6) := ⟨H3.out.2.2.2.2.2⟩
 clear hBm H3 H4 HRn
 obtain ⟨S2, HS2⟩ : ∃ A, Box (sa zs = A) := ⟨_, ⟨rfl⟩⟩
 have HB4 : Box (∀ x, Below x4.heap.size x4 x -> x.rangeAt S 0 (K.map (Value.int .u8)) /\ Imgs x a M /\ Below w.heap.size w x) := ⟨fun x hx => by
  have := HX.out x (below_to (below_to H1.out H2.out.bel) (below_to H4a.out.2.2.2.2 hx))
  exact ⟨this.1, this.2.2.2.1, this.2.2.2.2⟩⟩
 have HOs : Box (OkS zs) := ⟨okS_zs⟩
 have HJN : Box (∀ x, Below x4.heap.size x4 x -> Calls Tryz.prog 8 #[.pointer (some ⟨D, 0, none⟩), .agg AK, .int .i64 0, .int .i64 8, .agg S2, .int .u64 1, .int .u64 100] x fun e w' => ∃ J, e = .returned (.tuple #[.pointer (some ⟨J, 0, none⟩), .int .i64 0]) /\ JC x1 w' J D fp2 ⟨K, 0, 8, zs, 1, 100⟩ dz /\ Below x.heap.size x w') := ⟨fun x hx => by
  have hx1 := HX.out x1 H1.out
  have := jnew_ok (H4a.out.2.2.1.step hx) K HKI.out.2.2 0 8 (by omega) (by rw [HD0.out.2.1]; omega) (by rw [HD0.out.2.1]; omega) zs HOs.out (by simp [may, zs]) 1 100 (by omega) ⟨by omega, by omega⟩ hx1.2.1 hx1.2.2.1
  rw [HAK.out, HS2.out] at this
  exact this.mono fun e w' ⟨J, h1, h2, h3, _⟩ => ⟨J, h1, h2, h3⟩⟩
 have HR4 : Box (x4.rangeAt S 0 (K.map (Value.int .u8))) := ⟨(HB4.out x4 (Below.refl _ _)).1⟩
 have HJN4 : Box _ := ⟨HJN.out x4 (Below.refl _ _)⟩
 clear HJN
 go_upto_region 9 with (first
  | (refine atLoad 23 ?_; refine wpList_ldMid rfl 23 _ _ rfl Tryz.underlying23 rfl S 0 rfl (K.map (Value.int .u8)) HKI.out.1 HR4.out ?_; rw [HKI.out.2.1])
  | (refine atBuild _ ?_; refine wpList_run rfl _ _ (exec_built 27 [] rfl [] rfl S2 (by rw [<- HS2.out]; exact built_St0)) ?_)
  | (go_at_call 8; refine HJN4.out.mono ?_; rintro e x5 ⟨J, rfl, hc, hb⟩; have H5 : Box (JC x1 x5 J D fp2 ⟨K, 0, 8, zs, 1, 100⟩ dz /\ Below x4.heap.size x4 x5) := ⟨hc, hb⟩; clear hc hb))
 clear HJN4 HR4
 obtain ⟨RQ, hRQ⟩ : ∃ RQ, rq K 0 8 zs 1 100 = RQ := ⟨_, rfl⟩
 have HR5 : Box (x5.rangeAt S 0 (K.map (Value.int .u8))) := ⟨(HB4.out x5 H5.out.2).1⟩
 have HRN : Box (Calls Tryz.prog 9 #[.int .i64 8, .agg AK, .int .i64 0, .int .i64 8, .agg S2, .int .u64 1, .int .u64 100] x5 fun e w' => e = .returned (.tuple #[.agg RQ.toArray, .int .i64 0]) /\ Below x5.heap.size x5 w') := ⟨by
  have := rnew13_ok 8 0 8 (by omega) (by omega) (by omega) K HKI.out.2.2.1 zs HOs.out (by simp [zs]) (Nat.zero_le _) 1 100 (by omega) ⟨by omega, by omega⟩ x5
  rw [HAK.out, HS2.out] at this
  rw [<- hRQ]
  exact this⟩
 have HRQ : Box (rq K 0 8 zs 1 100 = RQ /\ RQ.length = 70 /\ (Tryz.prog.info? 44).map (·.size) = some RQ.toArray.size /\ ZJ.size = RQ.toArray.size /\ RQ.toArray.all (·.oneCell') = true) := ⟨hRQ, by rw [<- hRQ]; exact len_rq _ _ _ _ _ _ HKI.out.2.2.1 HOs.out, by rw [List.size_toArray, <- hRQ, len_rq _ _ _ _ _ _ HKI.out.2.2.1 HOs.out]; exact infoRj, by rw [HZJ.out.2, List.size_toArray, <- hRQ, len_rq _ _ _ _ _ _ HKI.out.2.2.1 HOs.out], by rw [<- hRQ]; exact all_rq _ _ _ _ _ _⟩
 clear hRQ
 go_upto_region 10 with (first
  | (refine atLoad 23 ?_; refine wpList_ldMid rfl 23 _ _ rfl Tryz.underlying23 rfl S 0 rfl (K.map (Value.int .u8)) HKI.out.1 HR5.out ?_; rw [HKI.out.2.1])
  | (refine atBuild _ ?_; refine wpList_run rfl _ _ (exec_built 42 [] rfl [] rfl S2 (by rw [<- HS2.out]; exact built_S0)) ?_)
  | (go_at_call 9; refine HRN.out.mono ?_; rintro e x6 ⟨rfl, hb⟩; have H6 : Box (Below x5.heap.size x5 x6) := ⟨hb⟩; clear hb)
  | (refine atAlloc _ ?_; refine wpList_run rfl _ _ (exec_alloc 44 rfl _ HZJ.out.1) ?_)
  | (refine atStore _ ?_; refine wpList_newRow x6 ZJ RQ.toArray HRQ.out.2.2.1 HRQ.out.2.2.2.1 HRQ.out.2.2.2.2 rfl _ _ rfl rfl rfl rfl ?_; intro x7 h7 hb7; have H7 : Box (x7.heap[x6.heap.size]? = some (.cells RQ.toArray 44 (0, 0)) /\ Below x6.heap.size x6 x7) := ⟨h7, hb7⟩; clear h7 hb7))
 obtain ⟨Bw, hBw⟩ : ∃ Bw, x6.heap.size = Bw := ⟨_, rfl⟩
 (try simp only [hBw])
 have H7a : Box (Below x4.heap.size x4 x7 /\ x7.heap[Bw]? = some (.cells RQ.toArray 44 (0, 0)) /\ JC x1 x7 J D fp2 ⟨K, 0, 8, zs, 1, 100⟩ dz) := ⟨below_to (below_to H5.out.2 H6.out) H7.out.2, by rw [<- hBw]; exact H7.out.1, (H5.out.1.below H6.out).below H7.out.2⟩
 clear hBw H5 H6 H7 HRN HR5 HAK HS2
 obtain ⟨j0, hj0⟩ : ∃ j0 : Jt, (⟨K, 0, 8, zs, 1, 100⟩ : Jt) = j0 := ⟨_, rfl⟩
 rw [hj0] at H7a
 have HJ0 : Box (j0.first = 0 /\ j0.size = 8 /\ j0.st = zs /\ j0.nx = 1 /\ j0.lim = 100 /\ j0.key = K) := ⟨by rw [<- hj0]; exact ⟨rfl, rfl, rfl, rfl, rfl, rfl⟩⟩
 clear hj0
 obtain ⟨L1, hL1⟩ : ∃ L, imgP false (M.map pl) = L := ⟨_, rfl⟩
 have HL1 : Box (imgP false (M.map pl) = L1 /\ L1.length = n /\ ∀ x ∈ L1, x.2.length = 160) := ⟨hL1, by rw [<- hL1, len_imgP, List.length_map]; exact HLN.out, by rw [<- hL1]; exact imgP_len' _⟩
 clear hL1
 have HIM : Box (Calls Tryz.prog 10 #[.slice a n ca, .bool false] x7 fun e w' => ∃ xa xc X, e = .returned (.slice xa n xc) /\ Ig x7 w' false M n (.slice xa n xc) X) := ⟨by
  have := images_any a ca M false x7 (HB4.out x7 H7a.out.1).2.1 (by rw [HLN.out]; have := HN6.out; omega)
  rw [HLN.out] at this
  refine this.mono ?_
  rintro e w' ⟨v, X, rfl, h⟩
  have hr := h.im.row
  rw [h.len] at hr
  obtain ⟨xa, xc, rfl⟩ := own_form2 hr
  exact ⟨xa, xc, X, rfl, h⟩⟩
 go_upto_region 11 with (go_at_call 10; refine HIM.out.mono ?_; rintro e x8 ⟨xa, xc, X, rfl, hg⟩; have H8 : Box (Ig x7 x8 false M n (.slice xa n xc) X) := ⟨hg⟩; clear hg)
 clear HIM
 have HXp : Box (X.map pl = L1 /\ X.length = n) := ⟨by
  rw [H8.out.pls, HL1.out.1]
  exact List.take_of_length_le (by rw [HL1.out.2.1]; exact Nat.le_refl _), H8.out.len⟩
 have hu := appM_up j0 H7a.out.2.2.ok dz L1 HD0.out.1 (bad_160' L1 HL1.out.2.2 (by rw [HL1.out.2.1]; have := HN6.out; omega)) (by rw [HL1.out.2.1, HJ0.out.2.2.1, HJ0.out.2.1]; have := HN6.out; show 0 + n <= 8; omega) (by rw [HL1.out.2.1, HJ0.out.2.2.2.1, HJ0.out.2.2.2.2.1]; have := HN6.out; omega)
 have heA := appM_eq j0 H7a.out.2.2.ok dz L1 HD0.out.1 (bad_160' L1 HL1.out.2.2 (by rw [HL1.out.2.1]; have := HN6.out; omega)) (by rw [HL1.out.2.1, HJ0.out.2.2.1, HJ0.out.2.1]; have := HN6.out; show 0 + n <= 8; omega) (by rw [HL1.out.2.1, HJ0.out.2.2.2.1, HJ0.out.2.2.2.2.1]; have := HN6.out; omega)
 rw [HL1.out.2.1] at hu
 obtain ⟨y1, hy1⟩ : ∃ y, appM j0 dz L1 = y := ⟨_, rfl⟩
 rw [hy1] at hu heA
 obtain ⟨d1, nx1, e1, s1⟩ := y1
 have e1z : e1 = 0 := hu.er
 subst e1z
 have HU : Box (ApU j0 dz j0.nx j0.st n (d1, nx1, 0, s1) /\ (d1, nx1, 0, s1) = apL j0 (dz, j0.nx, 0, j0.st) (ofP L1) /\ appM j0 dz L1 = (d1, nx1, 0, s1)) := ⟨hu, heA, hy1⟩
 have oks1 : OkS s1 := hu.okS (by rw [HJ0.out.2.2.1]; show 0 <= _; omega) (by rw [HJ0.out.2.2.1]; have := HN6.out; show 0 + n <= _; omega)
 have HIS : Box ((Tryz.prog.info? 27).map (·.size) = some (sa s1).size /\ (sa zs).size = (sa s1).size /\ OkS s1) := ⟨by rw [size_sa oks1]; exact infoSt, by rw [size_sa oks1, size_sa okS_zs], oks1⟩
 clear hu heA hy1 oks1
 have HAP : Box (Calls Tryz.prog 11 #[.pointer (some ⟨J, 0, none⟩), .slice xa n xc] x8 fun e w' => ∃ fp', e = .returned (.tuple #[.agg (sa s1), .int .i64 0]) /\ JC x1 w' J D fp' { j0 with nx := nx1 } d1 /\ Disk.Rv w' (.agg V.toArray) rz /\ w'.heap[Bm]? = some (.cells V.toArray 36 (0, 0)) /\ w'.heap[Bw]? = some (.cells RQ.toArray 44 (0, 0)) /\ Imgs w' xa X /\ ¬ fp' Bm) := ⟨by
  have C8 := H7a.out.2.2.below H8.out.bel
  obtain ⟨fp, hcx, hft⟩ := Disk.Cm.foot (⟨fp2, C8.cx⟩ : Disk.Cm x1 x8 D dz)
  have CT : JC x1 x8 J D fp j0 dz := ⟨hcx, C8.row, C8.lo, hft J _ _ _ C8.row (by unfold Disk.Own4; decide), C8.ok, C8.fit, C8.dig, C8.tab⟩
  have hi := H8.out.im
  have hl := HXp.out.2
  rw [<- hl] at hi
  have hmx : ∀ m ∈ X, m.bl <= 100000 := fun m hm => by
   have h1 : pl m ∈ L1 := by rw [<- HXp.out.1]; exact List.mem_map_of_mem hm
   have h2 := HL1.out.2.2 _ h1
   have h3 := (hi.byt m hm).byi.1.1
   simp only [pl] at h2
   omega
  have b8 : Below x4.heap.size x4 x8 := below_to H7a.out.1 H8.out.bel
  have kRv := H4a.out.1.below b8
  have kBm := (b8.block Bm (Array.getElem?_eq_some_iff.1 H4a.out.2.1).1).trans H4a.out.2.1
  have kBw := (H8.out.bel.block Bw (Array.getElem?_eq_some_iff.1 H7a.out.2.1).1).trans H7a.out.2.1
  have := append_v CT xa xc X hi.imgs (by rw [hl]; have := HN6.out; omega) hmx (by rw [HD0.out.2.2.2.2.1]; decide) (by rw [HD0.out.2.2.1]; simp) (by rw [HD0.out.2.2.2.1]; simp)
  rw [HXp.out.1, HU.out.2.2, hl] at this
  refine this.mono ?_
  rintro e w' ⟨fp', h1, h2, h3⟩
  refine ⟨fp', h1, h2, rv_typed C8.row hft h3 kRv, (keep_typed C8.row hft h3 kBm (by unfold Disk.Own4; decide) (by decide)).trans kBm, (keep_typed C8.row hft h3 kBw (by unfold Disk.Own4; decide) (by decide)).trans kBw, (imgs_typed C8.row hft h3 hi).imgs, ?_⟩
  exact h3.k Bm (Array.getElem?_eq_some_iff.1 kBm).1 (hft Bm _ _ _ kBm (by unfold Disk.Own4; decide))⟩
 go_upto_region 12 with (first
  | (go_at_call 11; refine HAP.out.mono ?_; rintro e x9 ⟨fp9, rfl, h1, h2, h3, h4, h5, h6⟩; have H9 : Box (JC x1 x9 J D fp9 { j0 with nx := nx1 } d1 /\ Disk.Rv x9 (.agg V.toArray) rz /\ x9.heap[Bm]? = some (.cells V.toArray 36 (0, 0)) /\ x9.heap[Bw]? = some (.cells RQ.toArray 44 (0, 0)) /\ Imgs x9 xa X /\ ¬ fp9 Bm) := ⟨h1, h2, h3, h4, h5, h6⟩; clear h1 h2 h3 h4 h5 h6)
  | (refine atAlloc _ ?_; refine wpList_run rfl _ _ (exec_alloc 27 rfl _ zeroSt) ?_)
  | (refine atStore _ ?_; refine wpList_newRow x9 (sa zs) (sa s1) HIS.out.1 HIS.out.2.1 (all_sa s1) rfl _ _ rfl rfl rfl rfl ?_; intro xA hA hbA; have HxA : Box (xA.heap[x9.heap.size]? = some (.cells (sa s1) 27 (0, 0)) /\ Below x9.heap.size x9 xA) := ⟨hA, hbA⟩; clear hA hbA))
 obtain ⟨Bs, hBs⟩ : ∃ Bs, x9.heap.size = Bs := ⟨_, rfl⟩
 (try simp only [hBs])
 have HBZ : Box (Bz w x1 xA J D fp9 { j0 with nx := nx1 } d1 Bm Bw Bs V RQ rz s1 xa X) := ⟨by
  have hb := HxA.out.2
  refine ⟨H9.out.1.below hb, H9.out.2.1.below hb, (hb.block _ (Array.getElem?_eq_some_iff.1 H9.out.2.2.1).1).trans H9.out.2.2.1, (hb.block _ (Array.getElem?_eq_some_iff.1 H9.out.2.2.2.1).1).trans H9.out.2.2.2.1, by rw [<- hBs]; exact HxA.out.1, H9.out.2.2.2.2.1.below hb, ?_, H9.out.2.2.2.2.2, ?_⟩
  ·exact (HX.out xA (below_to H1.out (H9.out.1.below hb).cx.bel)).2.2.2.2
  ·have h1 := H2.out.bel.size
   have h2 := H4a.out.2.2.2.1
   omega⟩
 have HBsL : Box (x1.heap.size <= Bs) := ⟨by rw [<- hBs]; exact H9.out.1.cx.bel.size⟩
 clear hBs HxA H9 HAP
 have HAll : Box (∀ x ∈ L1, x.2.length = 160 /\ Byt x.2 /\ N64 x.1) := ⟨fun x hx => by
  have h0 := HL1.out.2.2 x hx
  rw [<- HXp.out.1] at hx
  obtain ⟨m, hm, rfl⟩ := List.mem_map.1 hx
  exact ⟨h0, (H8.out.im.byt m hm).byt, (H8.out.im.byt m hm).num⟩⟩
 have HJok : Box (j0.Ok) := ⟨H7a.out.2.2.ok⟩
 obtain ⟨BZ, hBZ⟩ : ∃ BZ : World -> Prop, (fun x => Bz w x1 x J D fp9 { j0 with nx := nx1 } d1 Bm Bw Bs V RQ rz s1 xa X) = BZ := ⟨_, rfl⟩
 have HBo : Box (∀ x, BZ x -> Bz w x1 x J D fp9 { j0 with nx := nx1 } d1 Bm Bw Bs V RQ rz s1 xa X) := ⟨fun x h => by rw [<- hBZ] at h; exact h⟩
 have HBd : Box (∀ x y, BZ x -> Below x.heap.size x y -> BZ y) := ⟨fun x y h hb => by rw [<- hBZ] at h ⊢; exact Bz.below h hb⟩
 have HBA : Box (BZ xA) := ⟨by rw [<- hBZ]; exact HBZ.out⟩
 clear hBZ HBZ
 have HSw : Box (∀ x, BZ x -> x.rangeAt Bw 0 RQ) := ⟨fun x h => range_row (HBo.out x h).bw⟩
 have HVm : Box ((∀ x, BZ x -> x.rangeAt Bm 0 V) /\ (Tryz.prog.info? 36).map (·.size) = some V.length /\ (Tryz.prog.info? 44).map (·.size) = some RQ.length) := ⟨fun x h => range_row (HBo.out x h).bm, by rw [HVl.out]; exact Disk.infoD, by rw [HRQ.out.2.1]; exact infoRj⟩
 have HAl : Box (∀ y, BZ y -> Bw < y.heap.size /\ x1.heap.size <= y.heap.size /\ ¬ fp9 y.heap.size) := ⟨fun y h => ⟨(Array.getElem?_eq_some_iff.1 (HBo.out y h).bw).1, (HBo.out y h).jc.cx.bel.size, fun hf => by have := (HBo.out y h).jc.cx.hi _ hf; omega⟩⟩
 have HW0 : Box (w.heap.size <= x1.heap.size) := ⟨(HX.out x1 H1.out).2.2.2.2.size⟩
 have HMo : Box (∀ x, BZ x -> Calls Tryz.prog 13 #[.slice xa n xc] x fun e w' => ∃ ma mc, e = .returned (.slice ma n mc) /\ Tb w' ma 2 ic L1 /\ Below x.heap.size x w') := ⟨fun x hx => by
  have := modelOf_any xa xc X x (HBo.out x hx).im (by rw [HXp.out.2]; have := HN6.out; omega)
  rw [HXp.out.2] at this
  refine this.mono ?_
  rintro e w' ⟨v, rfl, h⟩
  have hr := h.row
  rw [HXp.out.1, List.take_of_length_le (by rw [HL1.out.2.1]; exact Nat.le_refl _)] at hr
  obtain ⟨ma, mc, rfl⟩ := own_form2 hr
  exact ⟨ma, mc, rfl, own_tb (fun _ => rfl) hr HL1.out.2.1, h.bel⟩⟩
 have HRa : Box (∀ x ma mc, BZ x -> Tb x ma 2 ic L1 -> Calls Tryz.prog 12 #[.agg V.toArray, .agg RQ.toArray, .slice ma n mc] x fun e w' => ∃ V2 J2 : List Value, e = .returned (.tuple #[.agg V2.toArray, .agg J2.toArray, .agg (sa s1), .int .i64 0]) /\ A2 w' d1 n V2 J2 /\ ((Tryz.prog.info? 36).map (·.size) = some V2.toArray.size /\ V2.toArray.all (·.oneCell') = true /\ (Tryz.prog.info? 44).map (·.size) = some J2.toArray.size /\ J2.toArray.all (·.oneCell') = true) /\ Below x.heap.size x w') := ⟨fun x ma mc hx ht => by
  have h6 := HN6.out
  have := rappend_up sealOk 0 dz rz HD0.out.2.2.2.2.2 j0 HJok.out HD0.out.1 (by rw [HJ0.out.1, HJ0.out.2.1, HD0.out.2.1]; omega) L1 (by rw [HL1.out.2.1]; omega) (by rw [HL1.out.2.1]; omega) (by rw [HL1.out.2.1]; omega) HAll.out (by rw [HL1.out.2.1, HJ0.out.2.2.1, HJ0.out.2.1]; show 0 + n <= 8; omega) (by rw [HL1.out.2.1, HJ0.out.2.2.2.1, HJ0.out.2.2.2.2.1]; omega) x (.agg V.toArray) (HBo.out x hx).rv ma mc ht
  have eRQ : rq j0.key (j0.first : Int) (j0.size : Int) j0.st j0.nx j0.lim = RQ := by
   rw [HJ0.out.1, HJ0.out.2.1, HJ0.out.2.2.1, HJ0.out.2.2.2.1, HJ0.out.2.2.2.2.1, HJ0.out.2.2.2.2.2]
   exact HRQ.out.1
  rw [eRQ, HL1.out.2.1, <- HU.out.2.1] at this
  refine this.mono ?_
  rintro e w' ⟨v', r', rfl, hv, hj, hb⟩
  obtain ⟨V2, rfl, l2, a2⟩ := rv_form hv
  have l3 : (rq j0.key (j0.first : Int) (j0.size : Int) j0.st nx1 j0.lim).length = 70 := len_rq _ _ _ _ _ _ HJok.out.key HJok.out.st
  rw [Nat.zero_add] at hj
  exact ⟨V2, _, rfl, ⟨r', hv, hj, l3, all_rq _ _ _ _ _ _, l2, a2⟩, ⟨by rw [List.size_toArray, l2]; exact Disk.infoD, a2, by rw [List.size_toArray]; exact (by rw [l3]; exact infoRj), all_rq _ _ _ _ _ _⟩, hb⟩⟩
 have HIs : Box ((Tryz.prog.info? 42).map (·.size) = some (sa s1).size /\ (sa s1).toList = scs s1 /\ (Tryz.prog.info? 42).map (·.size) = some (scs s1).length /\ (Tryz.prog.info? 27).map (·.size) = some (scs s1).length /\ (scs s1).toArray = sa s1 /\ OkS s1 /\ eqS s1 s1 = true) := ⟨by rw [size_sa HIS.out.2.2]; exact infoS13, by simp [sa], by rw [len_scs HIS.out.2.2]; exact infoS13, by rw [len_scs HIS.out.2.2]; exact infoSt, rfl, HIS.out.2.2, eqS_self s1⟩
 have HKy : Box (∀ x, Below x1.heap.size x1 x -> x.rangeAt S 0 (K.map (Value.int .u8)) /\ Dig.Tabs x /\ Seal.Tab x /\ Below w.heap.size w x) := ⟨fun x hx => by
  have h := HX.out x (below_to H1.out hx)
  exact ⟨h.1, h.2.1, h.2.2.1, h.2.2.2.2⟩⟩
 have HKL : Box (K.length = 32 /\ Byt K /\ (Tryz.prog.info? 23).map (·.size) = some (K.map (Value.int .u8)).length) := ⟨HKI.out.2.2.1, HKI.out.2.2.2, HKI.out.1⟩
 have HDd : Box (d1.n = 8 /\ d1.down = false /\ d1.ops.length <= 10 /\ d1.uw.length <= 10 /\ OkS s1 /\ s1.start = 0) := ⟨by
  have h := HU.out.1
  have h6 := HN6.out
  obtain ⟨W, w1, w2⟩ := h.uw
  have hl : (pls j0 (j0.st.start + j0.st.count) n).length = n := by simp [pls]
  refine ⟨by rw [h.nn]; exact HD0.out.2.1, h.up.1, ?_, ?_, HIS.out.2.2, by rw [h.st, HJ0.out.2.2.1]; rfl⟩
  ·have := congrArg List.length h.ops
   simp only [List.length_append, List.length_map, hl, HD0.out.2.2.1, List.length_nil] at this
   omega
  ·have e1 := congrArg List.length w1
   have e2 := congrArg List.length w2
   simp only [List.length_append, List.length_map, hl, HD0.out.2.2.2.1, List.length_nil] at e1 e2
   omega⟩
 clear HAll HJok HX HB4 HOs HKI HD0 HLN H1 H2 H4a H7a HL1 HXp HU H8 HS
 rename_i K14 hK14
 have HRest : Box (∀ (b23 b24 : Nat) (ma : Option Addr) (mc : Nat) (V2 J2 : List Value) (z : World), Fz w x1 z D d1 n Bm Bs b24 V2 s1 -> K14 { tmps := #[Value.agg AK, Value.slice a n ca, Value.int IntKind.u8 ↑cn, Value.bool lk, Value.pointer (some { block := S, off := 0 }), undef, undef, undef, Value.bool false, Value.bool true, Value.pointer (some { block := D, off := 0 }), Value.int IntKind.i64 0, Value.pointer (some { block := Bm, off := 0 }), Value.int IntKind.i64 0, Value.pointer (some { block := J, off := 0 }), Value.int IntKind.i64 0, Value.pointer (some { block := Bw, off := 0 }), Value.int IntKind.i64 0, Value.slice xa n xc, Value.pointer (some { block := Bs, off := 0 }), Value.int IntKind.i64 0, Value.pointer (some { block := b23, off := 0 }), Value.pointer (some { block := b24, off := 0 }), Value.int IntKind.i64 0, undef, undef, undef, undef, undef, undef, undef, undef, undef, Value.bool true, Value.bool true, Value.bool false, Value.slice a n ca, Value.int IntKind.i64 ↑n, Value.bool false, Value.bool false, Value.slice a n ca, Value.int IntKind.i64 ↑n, Value.bool false, Value.bool false, Value.tuple #[Value.pointer (some { block := D, off := 0 }), Value.int IntKind.i64 0], Value.tuple #[Value.pointer (some { block := D, off := 0 }), Value.int IntKind.i64 0], Value.pointer (some { block := D, off := 0 }), Value.int IntKind.i64 0, Value.tuple #[Value.agg V.toArray, Value.int IntKind.i64 0], Value.tuple #[Value.agg V.toArray, Value.int IntKind.i64 0], Value.agg V.toArray, Value.int IntKind.i64 0, Value.tuple #[Value.pointer (some { block := J, off := 0 }), Value.int IntKind.i64 0], Value.pointer (some { block := D, off := 0 }), Value.agg AK, Value.agg S2, Value.tuple #[Value.pointer (some { block := J, off := 0 }), Value.int IntKind.i64 0], Value.pointer (some { block := J, off := 0 }), Value.int IntKind.i64 0, Value.tuple #[Value.agg RQ.toArray, Value.int IntKind.i64 0], Value.agg AK, Value.agg S2, Value.tuple #[Value.agg RQ.toArray, Value.int IntKind.i64 0], Value.agg RQ.toArray, Value.int IntKind.i64 0, Value.slice a n ca, Value.slice xa n xc, Value.tuple #[Value.agg (sa s1), Value.int IntKind.i64 0], Value.pointer (some { block := J, off := 0 }), Value.slice xa n xc, Value.tuple #[Value.agg (sa s1), Value.int IntKind.i64 0], Value.agg (sa s1), Value.int IntKind.i64 0, Value.tuple #[Value.agg V2.toArray, Value.agg J2.toArray, Value.agg (sa s1), Value.int IntKind.i64 0], Value.agg V.toArray, Value.agg RQ.toArray, Value.slice xa n xc, Value.slice ma n mc, Value.tuple #[Value.agg V2.toArray, Value.agg J2.toArray, Value.agg (sa s1), Value.int IntKind.i64 0], Value.agg V2.toArray, Value.agg J2.toArray, Value.agg (sa s1), Value.int IntKind.i64 0, undef, undef, undef, undef, undef, undef, undef, undef, undef, undef, undef, undef, undef, undef, undef, undef, undef, undef, undef, undef, undef, undef, undef, undef, undef, undef, undef, undef, undef, undef, undef, undef, undef, undef, undef, undef, undef, undef, undef, undef, undef, undef, undef, undef, undef, undef, undef, undef, undef, undef, undef, undef, undef, undef, undef, undef, undef, undef, undef, undef, undef, undef], defers := [] } z) := ⟨by as_aux_lemma =>
  intro b23 b24 ma mc V2 J2 z hF
  have HF : Box _ := ⟨hF⟩
  clear hF
  refine hK14 _ _ ?_
  clear hK14 HRa HMo HAl HSw HVm HBA HBd HBo
  have HSt : Box (∀ x, Calls Tryz.prog 26 #[.agg (sa s1)] x fun e w' => e = .returned (.agg (sa s1)) /\ Below x.heap.size x w') := ⟨fun x => stateOf_any s1 HIs.out.2.2.2.2.2.1 x⟩
  have HRg : Box (∀ x, Below z.heap.size z x -> x.rangeAt Bs 0 (scs s1) /\ x.rangeAt b24 0 (scs s1)) := ⟨fun x hx => ⟨rng_below hx HF.out.bs (by rw [len_scs HIs.out.2.2.2.2.2.1]; omega), rng_below hx HF.out.b4 (by rw [len_scs HIs.out.2.2.2.2.2.1]; omega)⟩⟩
  obtain ⟨r2, hr2, hj2⟩ := HF.out.rv
  have HC : Box (Fc x1 z D d1 Bm Bs V2 r2 s1) := ⟨⟨HF.out.cm, hr2, HF.out.hm, HF.out.hs, HBsL.out⟩⟩
  have HJ2 : Box (Disk.J n d1 r2 /\ V2.length = 6) := ⟨hj2, HF.out.l6⟩
  clear HF hr2 hj2
  go_upto_region 13 with fail
  refine begin_keep (S := fun x => Below z.heap.size z x) (by kernel_rfl) (fun wd hwd => ?_)
  have hS : Below z.heap.size z wd := by rw [hwd]; exact (Below.refl _ _).drew
  clear hwd
  refine take_x (i := 0) (v := ?_) rfl ?_ hS ?_
  rotate_left
  ·rintro w' -; go_simp <;> with_reducible rfl
  try simp only [Act.put, pC, pD, pE, pF, pG]
  refine take_x (i := 1) (v := ?_) rfl ?_ hS ?_
  rotate_left
  ·rintro w' -; go_simp <;> with_reducible rfl
  try simp only [Act.put, pC, pD, pE, pF, pG, pH]
  refine take_x (i := 2) (v := ?_) rfl ?_ hS ?_
  rotate_left
  ·rintro w' -; go_simp <;> with_reducible rfl
  try simp only [Act.put, pC, pD, pE, pF, pG, pH]
  refine take_x (i := 3) (v := ?_) rfl ?_ hS ?_
  rotate_left
  ·rintro w' -; go_simp <;> with_reducible rfl
  try simp only [Act.put, pC, pD, pE, pF, pG, pH]
  refine take_x (i := 4) (v := ?_) rfl ?_ hS ?_
  rotate_left
  ·rintro w' -; go_simp <;> with_reducible rfl
  try simp only [Act.put, pC, pD, pE, pF, pG, pH]
  refine take_x (i := 5) (v := ?_) rfl ?_ hS ?_
  rotate_left
  ·rintro w' -; go_simp <;> with_reducible rfl
  try simp only [Act.put, pC, pD, pE, pF, pG, pH]
  refine take_x (i := 6) (v := ?_) rfl ?_ hS ?_
  rotate_left
  ·rintro w' -; go_simp <;> with_reducible rfl
  try simp only [Act.put, pC, pD, pE, pF, pG, pH]
  refine take_x (i := 7) (v := .agg (sa s1)) rfl (fun w' hLat => exec_load_mid 27 _ (.tmp 19) rfl Tryz.underlying27 rfl Bs 0 rfl (scs s1) HIs.out.2.2.2.1 (HRg.out w' hLat).1) hS ?_
  try simp only [Act.put, pC, pD, pE, pF, pG, pH]
  refine take_x (i := 9) (v := .agg (sa s1)) rfl (fun w' hLat => exec_load_mid 42 _ (.tmp 22) rfl Tryz.underlying42 rfl b24 0 rfl (scs s1) HIs.out.2.2.1 (HRg.out w' hLat).2) hS ?_
  try simp only [Act.put, pC, pD, pE, pF, pG, pH]
  refine one_keep (i := 8) (by kernel_rfl) ?_
  refine keep_step rfl (by rfl) ?_
  go_simp
  refine Calls.mono (HSt.out _) ?_
  rintro e y1 ⟨rfl, hb1⟩
  have hS : Below z.heap.size z y1 := below_to hS hb1
  refine ⟨hS, ?_⟩
  try simp only [Act.put, pC, pD, pE, pF, pG, pH]
  refine take_x (i := 10) (v := .bool false) rfl (fun w' hLat => exec_neS13 (.tmp 91) (.tmp 92) _ rfl s1 s1 HIs.out.2.2.2.2.2.1 HIs.out.2.2.2.2.2.1 false (by rw [HIs.out.2.2.2.2.2.2]; rfl) rfl rfl) hS ?_
  try simp only [Act.put, pC, pD, pE, pF, pG, pH]
  refine take_x (i := 11) (v := ?_) rfl ?_ hS ?_
  rotate_left
  ·rintro w' -; go_simp <;> with_reducible rfl
  try simp only [Act.put, pC, pD, pE, pF, pG, pH]
  refine wpAnyH_done (by kernel_rfl) ?_ _
  go_upto_region 15 with fail
  have HC1 : Box (Fc x1 y1 D d1 Bm Bs V2 r2 s1) := ⟨HC.out.below hS⟩
  clear HC hS HRg
  obtain ⟨m, hm⟩ : ∃ m, cn % 9 = m := ⟨_, rfl⟩
  have hm1 : ((cn : Int)).tmod 9 = (m : Int) := by rw [<- hm]; rfl
  have hm2 : (cn : Int) % 9 = (m : Int) := by omega
  have bm9 : m < 9 := by omega
  have c1 : y1.cell? ⟨Bs, 1, none⟩ = some (.int .u64 (s1.count : Int)) := by rw [cell_of_row _ _ _ _ _ _ HC1.out.bs]; rfl
  have f1 : y1.frozen? ⟨Bs, 1, none⟩ = false := frozen_of_row y1 Bs 1 _ _ HC1.out.bs
  go_upto_region 16 with fail
  have HC2 : Box (Fc x1 (y1.setCell ⟨Bs, 1, none⟩ (.int .u64 (m : Int))) D d1 Bm Bs V2 r2 { s1 with count := m }) := ⟨HC1.out.count m⟩
  generalize y1.setCell ⟨Bs, 1, none⟩ (.int .u64 (m : Int)) = y2 at HC2 ⊢
  clear HC1 c1 f1 hm hm1 hm2
  have HDW : Box (∀ O : List (Int × Int), Disk.lat ({ d1 with ops := O } : Disk.Dk) = Disk.lat d1) := ⟨fun O => rfl⟩
  have HTL : Box (s1.tag.length = 32 /\ Byt s1.tag) := ⟨HDd.out.2.2.2.2.1.lt, HDd.out.2.2.2.2.1.bt⟩
  cases lk with
  | false =>
   go_upto_region 24 with fail
   obtain ⟨s3, hs3⟩ : ∃ s3, ({ s1 with count := m } : Jst) = s3 := ⟨_, rfl⟩
   rw [hs3] at HC2
   have HS3 : Box (OkS s3 /\ may 8 s3 = true /\ s3.count <= 8) := ⟨by
    have h := HDd.out.2.2.2.2
    rw [<- hs3]
    exact ⟨⟨h.1.lt, h.1.bt, h.1.s64, by show m <= _; omega⟩, by simp [may, h.2]; omega, by show m <= 8; omega⟩⟩
   obtain ⟨O, hO⟩ : ∃ O, d1.ops = O := ⟨_, rfl⟩
   have H24 : Box (Fc x1 y2 D ({ d1 with ops := O } : Disk.Dk) Bm Bs V2 r2 s3 /\ O.length <= 100) := ⟨by rw [show ({ d1 with ops := O } : Disk.Dk) = d1 by rw [<- hO]]; exact HC2.out, by rw [<- hO]; have := HDd.out.2.2.1; omega⟩
   clear HC2 hs3 hO
   have HSx : Box (∀ x, Calls Tryz.prog 26 #[.agg (scs s3).toArray] x fun e w' => e = .returned (.agg (sa s3)) /\ Below x.heap.size x w') := ⟨fun x => stateOf_any s3 HS3.out.1 x⟩
   have HSI : Box ((Tryz.prog.info? 27).map (·.size) = some (scs s3).length /\ (Tryz.prog.info? 36).map (·.size) = some V2.length) := ⟨by rw [len_scs HS3.out.1]; exact infoSt, by rw [HJ2.out.2]; exact Disk.infoD⟩
   obtain ⟨e0, PL, HPL, HCd, HRf⟩ : ∃ (e0 : Int) (PL : List (List (Int × List Int))), Box (PL.length <= 8 /\ ∀ c ∈ PL, c.length <= 8) /\ Box (Calls Tryz.prog 24 #[.pointer (some ⟨D, 0, none⟩), .agg (K.map (Value.int .u8)).toArray, .int .i64 0, .int .i64 8, .agg (scs s3).toArray] y2 fun e z => ∃ ua uc X, e = .returned (.tuple #[.slice ua X.length uc, .int .i64 e0]) /\ Igss z ua X /\ plC X = PL /\ ∃ d4, Fc x1 z D d4 Bm Bs V2 r2 s3) /\ Box (∀ x, Disk.Rv x (.agg V2.toArray) r2 -> Calls Tryz.prog 25 #[.agg V2.toArray, .agg (K.map (Value.int .u8)).toArray, .int .i64 0, .int .i64 8, .agg (sa s3)] x fun e z => Below x.heap.size x z /\ ∃ (V3 : List Value) (u2a : Option Addr) (u2c : Nat) (Wn : List Wx), (V3.length = 6 /\ V3.toArray.all (·.oneCell') = true) /\ e = .returned (.tuple #[.agg V3.toArray, .slice u2a Wn.length u2c, .int .i64 e0]) /\ Wnt z x.heap.size (.slice u2a Wn.length u2c) Wn /\ Wn.map (·.P) = PL) := by
    have hx1 := HKy.out x1 (Below.refl _ _)
    have h6 := HN6.out
    have hdd := HDd.out
    obtain ⟨e0, PL, p1, p2, p3⟩ := Fc.load O H24.out.1.cm K ⟨HKL.out.1, HKL.out.2.1⟩ HJ2.out.1 (by omega) hdd.1 hdd.2.1 (by omega) HS3.out.1 HS3.out.2.1 HS3.out.2.2 hx1.2.1 hx1.2.2.1
    exact ⟨e0, PL, ⟨p1⟩, ⟨p2 y2 O (by have := H24.out.2; omega) H24.out.1⟩, ⟨p3⟩⟩
   have HRg2 : Box (y2.rangeAt S 0 (K.map (Value.int .u8)) /\ y2.rangeAt Bs 0 (scs s3)) := ⟨(HKy.out y2 H24.out.1.bel).1, range_row (cs := scs s3) H24.out.1.bs⟩
   clear H24
   go_upto_region 25 with (first
    | (refine wpList_ldMid rfl 23 _ _ rfl Tryz.underlying23 rfl S 0 rfl (K.map (Value.int .u8)) HKL.out.2.2 HRg2.out.1 ?_)
    | (refine wpList_ldMid rfl 27 _ _ rfl Tryz.underlying27 rfl Bs 0 rfl (scs s3) HSI.out.1 HRg2.out.2 ?_)
    | (go_at_call 24; refine Calls.mono HCd.out ?_; rintro e y5 ⟨ua, uc, X5, rfl, hi, hp, d4, hf⟩; have H5 : Box (Igss y5 ua X5 /\ plC X5 = PL /\ Fc x1 y5 D d4 Bm Bs V2 r2 s3) := ⟨hi, hp, hf⟩; clear hi hp hf))
   clear HRg2 HCd
   have HRg5 : Box (∀ x, Below y5.heap.size y5 x -> x.rangeAt Bm 0 V2 /\ x.rangeAt S 0 (K.map (Value.int .u8)) /\ x.rangeAt Bs 0 (scs s3) /\ Disk.Rv x (.agg V2.toArray) r2 /\ Below w.heap.size w x /\ Igss x ua X5) := ⟨fun x hx => by
    have hf := H5.out.2.2.below hx
    exact ⟨range_row hf.bm, (HKy.out x hf.bel).1, range_row (cs := scs s3) hf.bs, hf.rv, (HKy.out x hf.bel).2.2.2, H5.out.1.below hx⟩⟩
   have HPX : Box (plC X5 = PL /\ X5.length <= 8 /\ ∀ c ∈ X5, c.l <= 8) := ⟨H5.out.2.1, by have := congrArg List.length H5.out.2.1; simp only [plC, List.length_map] at this; have := HPL.out.1; omega, fun c hc => by
    have h6 : c.M.map pl ∈ plC X5 := List.mem_map_of_mem (f := fun c : Sx => c.M.map pl) hc
    rw [H5.out.2.1] at h6
    have h7 := HPL.out.2 _ h6
    rw [List.length_map, (H5.out.1.im c hc).1] at h7
    exact h7⟩
   clear H5
   refine begin_keep (S := fun x => Below y5.heap.size y5 x) (by kernel_rfl) (fun wd hwd => ?_)
   have hS : Below y5.heap.size y5 wd := by rw [hwd]; exact (Below.refl _ _).drew
   clear hwd
   refine take_x (i := 0) (v := .agg V2.toArray) rfl (fun w' hLat => exec_load_mid 36 _ (.tmp 12) rfl Tryz.underlying36 rfl Bm 0 rfl V2 HSI.out.2 (HRg5.out w' hLat).1) hS ?_
   try simp only [Act.put, pC, pD, pE, pF, pG]
   refine take_x (i := 1) (v := .agg (K.map (Value.int .u8)).toArray) rfl (fun w' hLat => exec_load_mid 23 _ (.tmp 4) rfl Tryz.underlying23 rfl S 0 rfl (K.map (Value.int .u8)) HKL.out.2.2 (HRg5.out w' hLat).2.1) hS ?_
   try simp only [Act.put, pC, pD, pE, pF, pG, pH]
   refine take_x (i := 2) (v := .agg (scs s3).toArray) rfl (fun w' hLat => exec_load_mid 27 _ (.tmp 19) rfl Tryz.underlying27 rfl Bs 0 rfl (scs s3) HSI.out.1 (HRg5.out w' hLat).2.2.1) hS ?_
   try simp only [Act.put, pC, pD, pE, pF, pG, pH]
   refine two_keep (i := 3) (j := 9) (by kernel_rfl) ?_ ?_
   ·refine keep_step rfl (by rfl) ?_
    go_simp
    refine Calls.mono (HSx.out _) ?_
    rintro e q1 ⟨rfl, hb⟩
    have hS := below_to hS hb
    clear hb
    refine ⟨hS, ?_⟩
    try simp only [Act.put, pC, pD, pE, pF, pG, pH]
    refine two_keep (i := 4) (j := 9) (by kernel_rfl) ?_ ?_
    ·refine keep_step rfl (by rfl) ?_
     go_simp
     refine Calls.mono (HRf.out _ (HRg5.out _ hS).2.2.2.1) ?_
     rintro e q2 ⟨hb, V3, u2a, u2c, Wn, hV3, rfl, hW, hWp⟩
     have hS := below_to hS hb
     clear hb
     refine ⟨hS, ?_⟩
     try simp only [Act.put, pC, pD, pE, pF, pG, pH]
     refine take_x (i := 5) (v := ?_) rfl ?_ hS ?_
     rotate_left
     ·rintro w' -; go_simp <;> with_reducible rfl
     try simp only [Act.put, pC, pD, pE, pF, pG, pH]
     refine take_x (i := 6) (v := ?_) rfl ?_ hS ?_
     rotate_left
     ·rintro w' -; go_simp <;> with_reducible rfl
     try simp only [Act.put, pC, pD, pE, pF, pG, pH]
     refine take_x (i := 7) (v := ?_) rfl ?_ hS ?_
     rotate_left
     ·rintro w' -; go_simp <;> with_reducible rfl
     try simp only [Act.put, pC, pD, pE, pF, pG, pH]
     refine take_x (i := 8) (v := ?_) rfl ?_ hS ?_
     rotate_left
     ·rintro w' -; go_simp <;> with_reducible rfl
     try simp only [Act.put, pC, pD, pE, pF, pG, pH]
     refine one_keep (i := 9) (by kernel_rfl) ?_
     refine keep_step rfl (by rfl) ?_
     unfold Oper.wp
     rw [exec_alloc 36 rfl _ Disk.zeroD]
     obtain ⟨b30, e1⟩ : ∃ b, q2.heap.size = b := ⟨_, rfl⟩
     have g9 : y5.heap.size <= b30 := by rw [<- e1]; exact hS.size
     obtain ⟨q3, e2⟩ : ∃ y, q2.alloc (.cells zD.toArray 36) = y := ⟨_, rfl⟩
     skip
     have hb : Below q2.heap.size q2 q3 := by rw [<- e2]; exact (nb_new _ _ _).2
     have n9 : Nb q3 b30 zD.toArray 36 := by rw [<- e1, <- e2]; exact (nb_new _ _ _).1
     have hW := hW.to hb
     have hS := below_to hS hb
     skip
     simp only [e1]
     change Below _ _ (q2.alloc (.cells zD.toArray 36)) /\ wpAnyH _ _ _ _ _ _ _ _ (q2.alloc (.cells zD.toArray 36))
     simp only [e2]
     clear hb e1 e2
     refine ⟨hS, ?_⟩
     try simp only [Act.put, pC, pD, pE, pF, pG, pH]
     refine one_keep (i := 10) (by kernel_rfl) (keep_step rfl (by rfl) ?_)
     have hth : q3.there b30 0 V3.toArray.size := there_row n9 (by rw [List.size_toArray, hV3.1]; decide)
     have hbt : But b30 q3 (q3.setCells b30 0 V3) := But.setCells _ _ (But.refl _ _)
     have hW9 := Wnt.but hW hbt n9
     have hS9 : Below y5.heap.size y5 (q3.setCells b30 0 V3) := hS.trans (hbt.below g9 hS.size)
     refine wp_store_mid 36 (.tmp 30) (.tmp 133) rfl b30 0 V3.toArray rfl rfl hth (by rw [List.size_toArray, hV3.1]; exact Disk.infoD) hV3.2 ?_
     (try rw [List.toList_toArray])
     refine ⟨hS9, ?_⟩
     try simp only [Act.put, pF, pG, pH]
     refine take_x (i := 11) (v := ?_) rfl ?_ hS9 ?_
     rotate_left
     ·rintro w' -; go_simp <;> with_reducible rfl
     try simp only [Act.put, pC, pD, pE, pF, pG, pH]
     refine take_x (i := 12) (v := ?_) rfl ?_ hS9 ?_
     rotate_left
     ·rintro w' -; go_simp <;> with_reducible rfl
     try simp only [Act.put, pC, pD, pE, pF, pG, pH]
     refine wpAnyH_done (by kernel_rfl) ?_ _
     have HZ : Box (Below w.heap.size w (q3.setCells b30 0 V3) /\ Igss (q3.setCells b30 0 V3) ua X5 /\ Rws (q3.setCells b30 0 V3) u2a Wn /\ Wn.map (·.P) = PL /\ Wn.length = X5.length) := ⟨(HRg5.out _ hS9).2.2.2.2.1, (HRg5.out _ hS9).2.2.2.2.2, Wnt.rws hW9, hWp, by have h1 := congrArg List.length hWp; have h2 := congrArg List.length HPX.out.1; simp only [plC, List.length_map] at h1 h2; omega⟩
     clear hW9 hW hS9 hbt hth n9 g9 hS hV3 hWp
     generalize q3.setCells b30 0 V3 = z9 at HZ ⊢
     have HAo : Box _ := ⟨allOf_any ua uc X5 z9 HZ.out.2.1 (by have := HPX.out.2.1; omega) (fun c hc => by have := HPX.out.2.2 c hc; omega)⟩
     have hee : (e0 == e0) = true := by simp
     rw [HZ.out.2.2.2.2]
     go_wp2_with (first
      | (go_at_call 28; refine Calls.mono HAo.out ?_; rintro e zA ⟨va0, A5, rfl, hao⟩; obtain ⟨va, vc, rfl⟩ := own_form2 hao.wn.row; have HA5 : Box (Rws zA va A5 /\ Rws zA u2a Wn /\ A5.map (·.P) = Wn.map (·.P) /\ A5.length = X5.length /\ (∀ x ∈ A5, x.l <= 1000) /\ Below w.heap.size w zA) := ⟨Wnt.rws hao.wn, HZ.out.2.2.1.below hao.bel, by rw [hao.eq, HZ.out.2.2.2.1, HPX.out.1, List.take_of_length_le (by rw [<- HPX.out.1]; simp [plC])], by have := congrArg List.length hao.eq; simp [plC] at this; omega, fun x hx => by (have h1 : x.P ∈ A5.map (·.P) := List.mem_map_of_mem (f := fun x : Wx => x.P) hx; rw [hao.eq] at h1; have h2 := List.mem_of_mem_take h1; rw [HPX.out.1] at h2; have h3 := HPL.out.2 _ h2; rw [(hao.wn.im x hx).1] at h3; omega), below_to HZ.out.1 hao.bel⟩; rw [HA5.out.2.2.2.1]; clear hao)
      | (go_at_call 27; refine Calls.mono (sameAll_any va u2a vc u2c X5.length A5 Wn zA HA5.out.1 HA5.out.2.1 HA5.out.2.2.2.1 HZ.out.2.2.2.2 HA5.out.2.2.1 (by have := HPX.out.2.1; omega) HA5.out.2.2.2.2.1) ?_; rintro e zB ⟨rfl, hb⟩; have HBl : Box (Below w.heap.size w zB) := ⟨below_to HA5.out.2.2.2.2.2 hb⟩; clear hb))
     go_ret
     exact ⟨rfl, HBl.out⟩
    ·refine keep_step rfl (by rfl) ?_
     unfold Oper.wp
     rw [exec_alloc 36 rfl _ Disk.zeroD]
     obtain ⟨b30, e1⟩ : ∃ b, q1.heap.size = b := ⟨_, rfl⟩
     have g9 : y5.heap.size <= b30 := by rw [<- e1]; exact hS.size
     obtain ⟨q4, e2⟩ : ∃ y, q1.alloc (.cells zD.toArray 36) = y := ⟨_, rfl⟩
     skip
     have hb : Below q1.heap.size q1 q4 := by rw [<- e2]; exact (nb_new _ _ _).2
     have n9 : Nb q4 b30 zD.toArray 36 := by rw [<- e1, <- e2]; exact (nb_new _ _ _).1
     have hS := below_to hS hb
     skip
     simp only [e1]
     change Below _ _ (q1.alloc (.cells zD.toArray 36)) /\ wpAnyH _ _ _ _ _ _ _ _ (q1.alloc (.cells zD.toArray 36))
     simp only [e2]
     clear hb e1 e2
     refine ⟨hS, ?_⟩
     try simp only [Act.put, pC, pD, pE, pF, pG, pH]
     refine one_keep (i := 4) (by kernel_rfl) ?_
     refine keep_step rfl (by rfl) ?_
     go_simp
     refine Calls.mono (HRf.out _ (HRg5.out _ hS).2.2.2.1) ?_
     rintro e q5 ⟨hb, V3, u2a, u2c, Wn, hV3, rfl, hW, hWp⟩
     have n9 := n9.below hb
     have hS := below_to hS hb
     clear hb
     refine ⟨hS, ?_⟩
     try simp only [Act.put, pC, pD, pE, pF, pG, pH]
     refine take_x (i := 5) (v := ?_) rfl ?_ hS ?_
     rotate_left
     ·rintro w' -; go_simp <;> with_reducible rfl
     try simp only [Act.put, pC, pD, pE, pF, pG, pH]
     refine take_x (i := 6) (v := ?_) rfl ?_ hS ?_
     rotate_left
     ·rintro w' -; go_simp <;> with_reducible rfl
     try simp only [Act.put, pC, pD, pE, pF, pG, pH]
     refine take_x (i := 7) (v := ?_) rfl ?_ hS ?_
     rotate_left
     ·rintro w' -; go_simp <;> with_reducible rfl
     try simp only [Act.put, pC, pD, pE, pF, pG, pH]
     refine take_x (i := 8) (v := ?_) rfl ?_ hS ?_
     rotate_left
     ·rintro w' -; go_simp <;> with_reducible rfl
     try simp only [Act.put, pC, pD, pE, pF, pG, pH]
     refine one_keep (i := 10) (by kernel_rfl) (keep_step rfl (by rfl) ?_)
     have hth : q5.there b30 0 V3.toArray.size := there_row n9 (by rw [List.size_toArray, hV3.1]; decide)
     have hbt : But b30 q5 (q5.setCells b30 0 V3) := But.setCells _ _ (But.refl _ _)
     have hW9 := Wnt.but hW hbt n9
     have hS9 : Below y5.heap.size y5 (q5.setCells b30 0 V3) := hS.trans (hbt.below g9 hS.size)
     refine wp_store_mid 36 (.tmp 30) (.tmp 133) rfl b30 0 V3.toArray rfl rfl hth (by rw [List.size_toArray, hV3.1]; exact Disk.infoD) hV3.2 ?_
     (try rw [List.toList_toArray])
     refine ⟨hS9, ?_⟩
     try simp only [Act.put, pF, pG, pH]
     refine take_x (i := 11) (v := ?_) rfl ?_ hS9 ?_
     rotate_left
     ·rintro w' -; go_simp <;> with_reducible rfl
     try simp only [Act.put, pC, pD, pE, pF, pG, pH]
     refine take_x (i := 12) (v := ?_) rfl ?_ hS9 ?_
     rotate_left
     ·rintro w' -; go_simp <;> with_reducible rfl
     try simp only [Act.put, pC, pD, pE, pF, pG, pH]
     refine wpAnyH_done (by kernel_rfl) ?_ _
     have HZ : Box (Below w.heap.size w (q5.setCells b30 0 V3) /\ Igss (q5.setCells b30 0 V3) ua X5 /\ Rws (q5.setCells b30 0 V3) u2a Wn /\ Wn.map (·.P) = PL /\ Wn.length = X5.length) := ⟨(HRg5.out _ hS9).2.2.2.2.1, (HRg5.out _ hS9).2.2.2.2.2, Wnt.rws hW9, hWp, by have h1 := congrArg List.length hWp; have h2 := congrArg List.length HPX.out.1; simp only [plC, List.length_map] at h1 h2; omega⟩
     clear hW9 hW hS9 hbt hth n9 g9 hS hV3 hWp
     generalize q5.setCells b30 0 V3 = z9 at HZ ⊢
     have HAo : Box _ := ⟨allOf_any ua uc X5 z9 HZ.out.2.1 (by have := HPX.out.2.1; omega) (fun c hc => by have := HPX.out.2.2 c hc; omega)⟩
     have hee : (e0 == e0) = true := by simp
     rw [HZ.out.2.2.2.2]
     go_wp2_with (first
      | (go_at_call 28; refine Calls.mono HAo.out ?_; rintro e zA ⟨va0, A5, rfl, hao⟩; obtain ⟨va, vc, rfl⟩ := own_form2 hao.wn.row; have HA5 : Box (Rws zA va A5 /\ Rws zA u2a Wn /\ A5.map (·.P) = Wn.map (·.P) /\ A5.length = X5.length /\ (∀ x ∈ A5, x.l <= 1000) /\ Below w.heap.size w zA) := ⟨Wnt.rws hao.wn, HZ.out.2.2.1.below hao.bel, by rw [hao.eq, HZ.out.2.2.2.1, HPX.out.1, List.take_of_length_le (by rw [<- HPX.out.1]; simp [plC])], by have := congrArg List.length hao.eq; simp [plC] at this; omega, fun x hx => by (have h1 : x.P ∈ A5.map (·.P) := List.mem_map_of_mem (f := fun x : Wx => x.P) hx; rw [hao.eq] at h1; have h2 := List.mem_of_mem_take h1; rw [HPX.out.1] at h2; have h3 := HPL.out.2 _ h2; rw [(hao.wn.im x hx).1] at h3; omega), below_to HZ.out.1 hao.bel⟩; rw [HA5.out.2.2.2.1]; clear hao)
      | (go_at_call 27; refine Calls.mono (sameAll_any va u2a vc u2c X5.length A5 Wn zA HA5.out.1 HA5.out.2.1 HA5.out.2.2.2.1 HZ.out.2.2.2.2 HA5.out.2.2.1 (by have := HPX.out.2.1; omega) HA5.out.2.2.2.2.1) ?_; rintro e zB ⟨rfl, hb⟩; have HBl : Box (Below w.heap.size w zB) := ⟨below_to HA5.out.2.2.2.2.2 hb⟩; clear hb))
     go_ret
     exact ⟨rfl, HBl.out⟩
   ·refine keep_step rfl (by rfl) ?_
    unfold Oper.wp
    rw [exec_alloc 36 rfl _ Disk.zeroD]
    obtain ⟨b30, e1⟩ : ∃ b, wd.heap.size = b := ⟨_, rfl⟩
    have g9 : y5.heap.size <= b30 := by rw [<- e1]; exact hS.size
    obtain ⟨q6, e2⟩ : ∃ y, wd.alloc (.cells zD.toArray 36) = y := ⟨_, rfl⟩
    skip
    have hb : Below wd.heap.size wd q6 := by rw [<- e2]; exact (nb_new _ _ _).2
    have n9 : Nb q6 b30 zD.toArray 36 := by rw [<- e1, <- e2]; exact (nb_new _ _ _).1
    have hS := below_to hS hb
    skip
    simp only [e1]
    change Below _ _ (wd.alloc (.cells zD.toArray 36)) /\ wpAnyH _ _ _ _ _ _ _ _ (wd.alloc (.cells zD.toArray 36))
    simp only [e2]
    clear hb e1 e2
    refine ⟨hS, ?_⟩
    try simp only [Act.put, pC, pD, pE, pF, pG, pH]
    refine one_keep (i := 3) (by kernel_rfl) ?_
    refine keep_step rfl (by rfl) ?_
    go_simp
    refine Calls.mono (HSx.out _) ?_
    rintro e q7 ⟨rfl, hb⟩
    have n9 := n9.below hb
    have hS := below_to hS hb
    clear hb
    refine ⟨hS, ?_⟩
    try simp only [Act.put, pC, pD, pE, pF, pG, pH]
    refine one_keep (i := 4) (by kernel_rfl) ?_
    refine keep_step rfl (by rfl) ?_
    go_simp
    refine Calls.mono (HRf.out _ (HRg5.out _ hS).2.2.2.1) ?_
    rintro e q8 ⟨hb, V3, u2a, u2c, Wn, hV3, rfl, hW, hWp⟩
    have n9 := n9.below hb
    have hS := below_to hS hb
    clear hb
    refine ⟨hS, ?_⟩
    try simp only [Act.put, pC, pD, pE, pF, pG, pH]
    refine take_x (i := 5) (v := ?_) rfl ?_ hS ?_
    rotate_left
    ·rintro w' -; go_simp <;> with_reducible rfl
    try simp only [Act.put, pC, pD, pE, pF, pG, pH]
    refine take_x (i := 6) (v := ?_) rfl ?_ hS ?_
    rotate_left
    ·rintro w' -; go_simp <;> with_reducible rfl
    try simp only [Act.put, pC, pD, pE, pF, pG, pH]
    refine take_x (i := 7) (v := ?_) rfl ?_ hS ?_
    rotate_left
    ·rintro w' -; go_simp <;> with_reducible rfl
    try simp only [Act.put, pC, pD, pE, pF, pG, pH]
    refine take_x (i := 8) (v := ?_) rfl ?_ hS ?_
    rotate_left
    ·rintro w' -; go_simp <;> with_reducible rfl
    try simp only [Act.put, pC, pD, pE, pF, pG, pH]
    refine one_keep (i := 10) (by kernel_rfl) (keep_step rfl (by rfl) ?_)
    have hth : q8.there b30 0 V3.toArray.size := there_row n9 (by rw [List.size_toArray, hV3.1]; decide)
    have hbt : But b30 q8 (q8.setCells b30 0 V3) := But.setCells _ _ (But.refl _ _)
    have hW9 := Wnt.but hW hbt n9
    have hS9 : Below y5.heap.size y5 (q8.setCells b30 0 V3) := hS.trans (hbt.below g9 hS.size)
    refine wp_store_mid 36 (.tmp 30) (.tmp 133) rfl b30 0 V3.toArray rfl rfl hth (by rw [List.size_toArray, hV3.1]; exact Disk.infoD) hV3.2 ?_
    (try rw [List.toList_toArray])
    refine ⟨hS9, ?_⟩
    try simp only [Act.put, pF, pG, pH]
    refine take_x (i := 11) (v := ?_) rfl ?_ hS9 ?_
    rotate_left
    ·rintro w' -; go_simp <;> with_reducible rfl
    try simp only [Act.put, pC, pD, pE, pF, pG, pH]
    refine take_x (i := 12) (v := ?_) rfl ?_ hS9 ?_
    rotate_left
    ·rintro w' -; go_simp <;> with_reducible rfl
    try simp only [Act.put, pC, pD, pE, pF, pG, pH]
    refine wpAnyH_done (by kernel_rfl) ?_ _
    have HZ : Box (Below w.heap.size w (q8.setCells b30 0 V3) /\ Igss (q8.setCells b30 0 V3) ua X5 /\ Rws (q8.setCells b30 0 V3) u2a Wn /\ Wn.map (·.P) = PL /\ Wn.length = X5.length) := ⟨(HRg5.out _ hS9).2.2.2.2.1, (HRg5.out _ hS9).2.2.2.2.2, Wnt.rws hW9, hWp, by have h1 := congrArg List.length hWp; have h2 := congrArg List.length HPX.out.1; simp only [plC, List.length_map] at h1 h2; omega⟩
    clear hW9 hW hS9 hbt hth n9 g9 hS hV3 hWp
    generalize q8.setCells b30 0 V3 = z9 at HZ ⊢
    have HAo : Box _ := ⟨allOf_any ua uc X5 z9 HZ.out.2.1 (by have := HPX.out.2.1; omega) (fun c hc => by have := HPX.out.2.2 c hc; omega)⟩
    have hee : (e0 == e0) = true := by simp
    rw [HZ.out.2.2.2.2]
    go_wp2_with (first
     | (go_at_call 28; refine Calls.mono HAo.out ?_; rintro e zA ⟨va0, A5, rfl, hao⟩; obtain ⟨va, vc, rfl⟩ := own_form2 hao.wn.row; have HA5 : Box (Rws zA va A5 /\ Rws zA u2a Wn /\ A5.map (·.P) = Wn.map (·.P) /\ A5.length = X5.length /\ (∀ x ∈ A5, x.l <= 1000) /\ Below w.heap.size w zA) := ⟨Wnt.rws hao.wn, HZ.out.2.2.1.below hao.bel, by rw [hao.eq, HZ.out.2.2.2.1, HPX.out.1, List.take_of_length_le (by rw [<- HPX.out.1]; simp [plC])], by have := congrArg List.length hao.eq; simp [plC] at this; omega, fun x hx => by (have h1 : x.P ∈ A5.map (·.P) := List.mem_map_of_mem (f := fun x : Wx => x.P) hx; rw [hao.eq] at h1; have h2 := List.mem_of_mem_take h1; rw [HPX.out.1] at h2; have h3 := HPL.out.2 _ h2; rw [(hao.wn.im x hx).1] at h3; omega), below_to HZ.out.1 hao.bel⟩; rw [HA5.out.2.2.2.1]; clear hao)
     | (go_at_call 27; refine Calls.mono (sameAll_any va u2a vc u2c X5.length A5 Wn zA HA5.out.1 HA5.out.2.1 HA5.out.2.2.2.1 HZ.out.2.2.2.2 HA5.out.2.2.1 (by have := HPX.out.2.1; omega) HA5.out.2.2.2.2.1) ?_; rintro e zB ⟨rfl, hb⟩; have HBl : Box (Below w.heap.size w zB) := ⟨below_to HA5.out.2.2.2.2.2 hb⟩; clear hb))
    go_ret
    exact ⟨rfl, HBl.out⟩
  | true =>
   obtain ⟨Tg, hTg⟩ : ∃ Tg, y2.heap.size = Tg := ⟨_, rfl⟩
   have H3 : Box (Fc x1 (y2.alloc (.cells (u8s z32) 23)) D ({ d1 with ops := d1.ops } : Disk.Dk) Bm Bs V2 r2 { s1 with count := m } /\ (y2.alloc (.cells (u8s z32) 23)).heap[Tg]? = some (.cells (u8s z32) 23 (0, 0)) /\ z32.length = 32 /\ Byt z32 /\ d1.ops.length <= 10 + 0) := ⟨HC2.out.below ((Below.refl _ _).alloc (Nat.le_refl _) _), al_at hTg, len_z32, byt_z32, by have := HDd.out.2.2.1; omega⟩
   have HTgl : Box (x1.heap.size <= Tg) := ⟨by rw [<- hTg]; exact HC2.out.bel.size⟩
   go_upto_region 18 with (refine atAlloc _ ?_; refine wpList_run rfl _ _ (exec_alloc 23 rfl _ zeroSum) ?_)
   (try simp only [hTg])
   clear hTg HC2
   generalize y2.alloc (.cells (u8s z32) 23) = y3 at H3 ⊢
   go_wp2
   go_loopw [25] (fun i wr => ∃ (q : Nat) (T : List Int) (O : List (Int × Int)), q <= m /\ i = .int .i64 (q : Int) /\ Box (Fc x1 wr D ({ d1 with ops := O } : Disk.Dk) Bm Bs V2 r2 { s1 with count := m } /\ wr.heap[Tg]? = some (.cells (u8s T) 23 (0, 0)) /\ T.length = 32 /\ Byt T /\ O.length <= 10 + q)) (fun i _ => m - (intOf i).toNat)
   case atStart => exact ⟨0, z32, d1.ops, Nat.zero_le _, rfl, H3⟩
   case round =>
    clear H3
    obtain ⟨q, T, O, hqm, rfl, HL⟩ := hrel
    have c1 : wr.cell? ⟨Bs, 1, none⟩ = some (.int .u64 (m : Int)) := by rw [cell_of_row _ _ _ _ _ _ HL.out.1.bs]; rfl
    by_cases hlt : q < m
    ·have g1 : decide ((q : Int) < (m : Int)) = true := by simp; omega
     have HRq : Box (Calls Tryz.prog 16 #[.pointer (some ⟨D, 0, none⟩), .int .i64 (q : Int)] wr fun e y => ∃ R, e = .returned (.tuple #[.slice (some ⟨R, 0, none⟩) 192 192, .int .i64 0]) /\ Fc x1 y D (Disk.rdOk ({ d1 with ops := O } : Disk.Dk) (q : Int)) Bm Bs V2 r2 { s1 with count := m } /\ y.heap[Tg]? = some (.cells (u8s T) 23 (0, 0)) /\ Bytes y (some ⟨R, 0, none⟩) 192 (Disk.lat d1 q)) := ⟨HL.out.1.read q (by show q < d1.n; have := HDd.out.1; omega) HDd.out.2.1 (by show O.length < _; have := HL.out.2.2.2.2; omega) (by show d1.uw.length < _; have := HDd.out.2.2.2.1; omega) HL.out.2.1⟩
     have HTT : Box (T.length = 32 /\ Byt T /\ O.length <= 10 + q) := ⟨HL.out.2.2⟩
     have HTU : Box ((Tryz.prog.info? 23).map (·.size) = some (T.map (Value.int .u8)).length) := ⟨by rw [List.length_map, HTT.out.1]; exact infoSum⟩
     clear HL
     go_upto_region 22 with (go_at_call 16; refine Calls.mono HRq.out ?_; rintro e y4 ⟨R, rfl, h1, h2, h3⟩; have H4 : Box (Fc x1 y4 D (Disk.rdOk ({ d1 with ops := O } : Disk.Dk) (q : Int)) Bm Bs V2 r2 { s1 with count := m } /\ y4.heap[Tg]? = some (.cells (u8s T) 23 (0, 0)) /\ Bytes y4 (some ⟨R, 0, none⟩) 192 (Disk.lat d1 q)) := ⟨h1, h2, h3⟩; clear h1 h2 h3)
     clear HRq c1 g1
     have HLk : Box (Calls Tryz.prog 29 #[.agg (T.map (Value.int .u8)).toArray, .int .u32 (q : Int), .slice (some ⟨R, 0, none⟩) 192 192] y4 fun e w' => e = .returned (.agg (u8s (lnk T (q : Int) (Disk.lat d1 q)))) /\ Below y4.heap.size y4 w') := ⟨link_any T (q : Int) _ 192 192 _ y4 (HKy.out y4 H4.out.1.bel).2.1 HTT.out.1 HTT.out.2.1 (by omega) H4.out.2.2 (by omega) (by omega) (by omega)⟩
     have hln : (lnk T (q : Int) (Disk.lat d1 q)).length = 32 /\ Byt (lnk T (q : Int) (Disk.lat d1 q)) := ⟨length_dsha _, byt_dsha _⟩
     obtain ⟨X, hX⟩ : ∃ X, lnk T (q : Int) (Disk.lat d1 q) = X := ⟨_, rfl⟩
     rw [hX] at hln HLk
     have HX : Box (X.length = 32 /\ Byt X /\ (Tryz.prog.info? 23).map (·.size) = some (u8s X).size /\ (u8s T).size = (u8s X).size) := ⟨hln.1, hln.2, by rw [size_u8s, hln.1]; exact infoSum, by rw [size_u8s, size_u8s, hln.1, HTT.out.1]⟩
     clear hX hln
     go_upto_region 20 with (first
      | (refine wpList_ldMid rfl 23 _ _ rfl Tryz.underlying23 rfl Tg 0 rfl (T.map (Value.int .u8)) HTU.out (range_u8 H4.out.2.1) ?_)
      | (go_at_call 29; refine Calls.mono HLk.out ?_; rintro e y5 ⟨rfl, hb⟩; have H5 : Box (Fc x1 y5 D (Disk.rdOk ({ d1 with ops := O } : Disk.Dk) (q : Int)) Bm Bs V2 r2 { s1 with count := m } /\ y5.heap[Tg]? = some (.cells (u8s T) 23 (0, 0))) := ⟨H4.out.1.below hb, (hb.block _ (Array.getElem?_eq_some_iff.1 H4.out.2.1).1).trans H4.out.2.1⟩; clear hb)
      | (refine wpList_store_row rfl 23 _ _ rfl Tg (u8s X) rfl rfl 23 (u8s T) H5.out.2 HX.out.2.2.1 HX.out.2.2.2 (all_u8s X) ?_))
     have H6 : Box (Fc x1 (y5.setRow Tg (u8s X)) D ({ d1 with ops := O ++ [((1 : Int), (q : Int))] } : Disk.Dk) Bm Bs V2 r2 { s1 with count := m } /\ (y5.setRow Tg (u8s X)).heap[Tg]? = some (.cells (u8s X) 23 (0, 0)) /\ X.length = 32 /\ Byt X /\ (O ++ [((1 : Int), (q : Int))]).length <= 10 + (q + 1)) := ⟨H5.out.1.sum H5.out.2 HTgl.out ⟨rfl, rfl, rfl, by simp, fun k _ hk => setRow_other y5 Tg k _ hk⟩, setRow_heap _ _ _ _ _ _ H5.out.2, HX.out.1, HX.out.2.1, by have := HTT.out.2.2; simp; omega⟩
     clear H4 H5 HLk HX HTT HTU
     generalize y5.setRow Tg (u8s X) = y6 at H6 ⊢
     go_wp2
     go_roundw
     case rel => exact ⟨q + 1, X, _, by omega, by go_num, H6⟩
     case measure => simp [intOf]; omega
    ·have g1 : decide ((q : Int) < (m : Int)) = false := by simp; omega
     have HTT : Box (T.length = 32 /\ Byt T /\ (Tryz.prog.info? 23).map (·.size) = some (T.map (Value.int .u8)).length /\ (Tryz.prog.info? 23).map (·.size) = some (T.map (Value.int .u8)).toArray.size) := ⟨HL.out.2.2.1, HL.out.2.2.2.1, by rw [List.length_map, HL.out.2.2.1]; exact infoSum, by rw [List.size_toArray, List.length_map, HL.out.2.2.1]; exact infoSum⟩
     have HTh : Box (wr.there Bs 2 (T.map (Value.int .u8)).toArray.size) := ⟨there_row HL.out.1.bs (by rw [List.size_toArray, List.length_map, HTT.out.1]; simp [sa, scs, HTL.out.1])⟩
     obtain ⟨wo, rfl⟩ : ∃ wo, wo = wr := ⟨_, rfl⟩
     go_upto_region 24 with (first
      | (refine wpList_ldMid rfl 23 _ _ rfl Tryz.underlying23 rfl Tg 0 rfl (T.map (Value.int .u8)) HTT.out.2.2.1 (range_u8 HL.out.2.1) ?_)
      | (refine wpList_store_mid rfl 23 _ _ rfl Bs 2 (T.map (Value.int .u8)).toArray rfl rfl HTh.out HTT.out.2.2.2 (all_u8s T) ?_))
     have H7 : Box (Fc x1 (wo.setCells Bs 2 (T.map (Value.int .u8))) D ({ d1 with ops := O } : Disk.Dk) Bm Bs V2 r2 { ({ s1 with count := m } : Jst) with tag := T }) := ⟨HL.out.1.tag T HTL.out.1 HTT.out.1⟩
     obtain ⟨s3, hs3⟩ : ∃ s3, ({ s1 with count := m, tag := T } : Jst) = s3 := ⟨_, rfl⟩
     have H24 : Box (Fc x1 (wo.setCells Bs 2 (T.map (Value.int .u8))) D ({ d1 with ops := O } : Disk.Dk) Bm Bs V2 r2 s3 /\ O.length <= 100) := ⟨by rw [<- hs3]; exact H7.out, by have := HL.out.2.2.2.2; omega⟩
     have HS3 : Box (OkS s3 /\ may 8 s3 = true /\ s3.count <= 8) := ⟨by
      have h := HDd.out.2.2.2.2
      rw [<- hs3]
      exact ⟨⟨HTT.out.1, HTT.out.2.1, h.1.s64, by show m <= _; omega⟩, by simp [may, h.2]; omega, by show m <= 8; omega⟩⟩
     clear H7 HL hs3 HTT HTh
     generalize wo.setCells Bs 2 (T.map (Value.int .u8)) = y2 at H24 ⊢
     have HSx : Box (∀ x, Calls Tryz.prog 26 #[.agg (scs s3).toArray] x fun e w' => e = .returned (.agg (sa s3)) /\ Below x.heap.size x w') := ⟨fun x => stateOf_any s3 HS3.out.1 x⟩
     have HSI : Box ((Tryz.prog.info? 27).map (·.size) = some (scs s3).length /\ (Tryz.prog.info? 36).map (·.size) = some V2.length) := ⟨by rw [len_scs HS3.out.1]; exact infoSt, by rw [HJ2.out.2]; exact Disk.infoD⟩
     obtain ⟨e0, PL, HPL, HCd, HRf⟩ : ∃ (e0 : Int) (PL : List (List (Int × List Int))), Box (PL.length <= 8 /\ ∀ c ∈ PL, c.length <= 8) /\ Box (Calls Tryz.prog 24 #[.pointer (some ⟨D, 0, none⟩), .agg (K.map (Value.int .u8)).toArray, .int .i64 0, .int .i64 8, .agg (scs s3).toArray] y2 fun e z => ∃ ua uc X, e = .returned (.tuple #[.slice ua X.length uc, .int .i64 e0]) /\ Igss z ua X /\ plC X = PL /\ ∃ d4, Fc x1 z D d4 Bm Bs V2 r2 s3) /\ Box (∀ x, Disk.Rv x (.agg V2.toArray) r2 -> Calls Tryz.prog 25 #[.agg V2.toArray, .agg (K.map (Value.int .u8)).toArray, .int .i64 0, .int .i64 8, .agg (sa s3)] x fun e z => Below x.heap.size x z /\ ∃ (V3 : List Value) (u2a : Option Addr) (u2c : Nat) (Wn : List Wx), (V3.length = 6 /\ V3.toArray.all (·.oneCell') = true) /\ e = .returned (.tuple #[.agg V3.toArray, .slice u2a Wn.length u2c, .int .i64 e0]) /\ Wnt z x.heap.size (.slice u2a Wn.length u2c) Wn /\ Wn.map (·.P) = PL) := by
      have hx1 := HKy.out x1 (Below.refl _ _)
      have h6 := HN6.out
      have hdd := HDd.out
      obtain ⟨e0, PL, p1, p2, p3⟩ := Fc.load O H24.out.1.cm K ⟨HKL.out.1, HKL.out.2.1⟩ HJ2.out.1 (by omega) hdd.1 hdd.2.1 (by omega) HS3.out.1 HS3.out.2.1 HS3.out.2.2 hx1.2.1 hx1.2.2.1
      exact ⟨e0, PL, ⟨p1⟩, ⟨p2 y2 O (by have := H24.out.2; omega) H24.out.1⟩, ⟨p3⟩⟩
     have HRg2 : Box (y2.rangeAt S 0 (K.map (Value.int .u8)) /\ y2.rangeAt Bs 0 (scs s3)) := ⟨(HKy.out y2 H24.out.1.bel).1, range_row (cs := scs s3) H24.out.1.bs⟩
     clear H24
     go_upto_region 25 with (first
      | (refine wpList_ldMid rfl 23 _ _ rfl Tryz.underlying23 rfl S 0 rfl (K.map (Value.int .u8)) HKL.out.2.2 HRg2.out.1 ?_)
      | (refine wpList_ldMid rfl 27 _ _ rfl Tryz.underlying27 rfl Bs 0 rfl (scs s3) HSI.out.1 HRg2.out.2 ?_)
      | (go_at_call 24; refine Calls.mono HCd.out ?_; rintro e y5 ⟨ua, uc, X5, rfl, hi, hp, d4, hf⟩; have H5 : Box (Igss y5 ua X5 /\ plC X5 = PL /\ Fc x1 y5 D d4 Bm Bs V2 r2 s3) := ⟨hi, hp, hf⟩; clear hi hp hf))
     clear HRg2 HCd
     have HRg5 : Box (∀ x, Below y5.heap.size y5 x -> x.rangeAt Bm 0 V2 /\ x.rangeAt S 0 (K.map (Value.int .u8)) /\ x.rangeAt Bs 0 (scs s3) /\ Disk.Rv x (.agg V2.toArray) r2 /\ Below w.heap.size w x /\ Igss x ua X5) := ⟨fun x hx => by
      have hf := H5.out.2.2.below hx
      exact ⟨range_row hf.bm, (HKy.out x hf.bel).1, range_row (cs := scs s3) hf.bs, hf.rv, (HKy.out x hf.bel).2.2.2, H5.out.1.below hx⟩⟩
     have HPX : Box (plC X5 = PL /\ X5.length <= 8 /\ ∀ c ∈ X5, c.l <= 8) := ⟨H5.out.2.1, by have := congrArg List.length H5.out.2.1; simp only [plC, List.length_map] at this; have := HPL.out.1; omega, fun c hc => by
      have h6 : c.M.map pl ∈ plC X5 := List.mem_map_of_mem (f := fun c : Sx => c.M.map pl) hc
      rw [H5.out.2.1] at h6
      have h7 := HPL.out.2 _ h6
      rw [List.length_map, (H5.out.1.im c hc).1] at h7
      exact h7⟩
     clear H5
     refine begin_keep (S := fun x => Below y5.heap.size y5 x) (by kernel_rfl) (fun wd hwd => ?_)
     have hS : Below y5.heap.size y5 wd := by rw [hwd]; exact (Below.refl _ _).drew
     clear hwd
     refine take_x (i := 0) (v := .agg V2.toArray) rfl (fun w' hLat => exec_load_mid 36 _ (.tmp 12) rfl Tryz.underlying36 rfl Bm 0 rfl V2 HSI.out.2 (HRg5.out w' hLat).1) hS ?_
     try simp only [Act.put, pC, pD, pE, pF, pG]
     refine take_x (i := 1) (v := .agg (K.map (Value.int .u8)).toArray) rfl (fun w' hLat => exec_load_mid 23 _ (.tmp 4) rfl Tryz.underlying23 rfl S 0 rfl (K.map (Value.int .u8)) HKL.out.2.2 (HRg5.out w' hLat).2.1) hS ?_
     try simp only [Act.put, pC, pD, pE, pF, pG, pH]
     refine take_x (i := 2) (v := .agg (scs s3).toArray) rfl (fun w' hLat => exec_load_mid 27 _ (.tmp 19) rfl Tryz.underlying27 rfl Bs 0 rfl (scs s3) HSI.out.1 (HRg5.out w' hLat).2.2.1) hS ?_
     try simp only [Act.put, pC, pD, pE, pF, pG, pH]
     refine two_keep (i := 3) (j := 9) (by kernel_rfl) ?_ ?_
     ·refine keep_step rfl (by rfl) ?_
      go_simp
      refine Calls.mono (HSx.out _) ?_
      rintro e q1 ⟨rfl, hb⟩
      have hS := below_to hS hb
      clear hb
      refine ⟨hS, ?_⟩
      try simp only [Act.put, pC, pD, pE, pF, pG, pH]
      refine two_keep (i := 4) (j := 9) (by kernel_rfl) ?_ ?_
      ·refine keep_step rfl (by rfl) ?_
       go_simp
       refine Calls.mono (HRf.out _ (HRg5.out _ hS).2.2.2.1) ?_
       rintro e q2 ⟨hb, V3, u2a, u2c, Wn, hV3, rfl, hW, hWp⟩
       have hS := below_to hS hb
       clear hb
       refine ⟨hS, ?_⟩
       try simp only [Act.put, pC, pD, pE, pF, pG, pH]
       refine take_x (i := 5) (v := ?_) rfl ?_ hS ?_
       rotate_left
       ·rintro w' -; go_simp <;> with_reducible rfl
       try simp only [Act.put, pC, pD, pE, pF, pG, pH]
       refine take_x (i := 6) (v := ?_) rfl ?_ hS ?_
       rotate_left
       ·rintro w' -; go_simp <;> with_reducible rfl
       try simp only [Act.put, pC, pD, pE, pF, pG, pH]
       refine take_x (i := 7) (v := ?_) rfl ?_ hS ?_
       rotate_left
       ·rintro w' -; go_simp <;> with_reducible rfl
       try simp only [Act.put, pC, pD, pE, pF, pG, pH]
       refine take_x (i := 8) (v := ?_) rfl ?_ hS ?_
       rotate_left
       ·rintro w' -; go_simp <;> with_reducible rfl
       try simp only [Act.put, pC, pD, pE, pF, pG, pH]
       refine one_keep (i := 9) (by kernel_rfl) ?_
       refine keep_step rfl (by rfl) ?_
       unfold Oper.wp
       rw [exec_alloc 36 rfl _ Disk.zeroD]
       obtain ⟨b30, e1⟩ : ∃ b, q2.heap.size = b := ⟨_, rfl⟩
       have g9 : y5.heap.size <= b30 := by rw [<- e1]; exact hS.size
       obtain ⟨q3, e2⟩ : ∃ y, q2.alloc (.cells zD.toArray 36) = y := ⟨_, rfl⟩
       skip
       have hb : Below q2.heap.size q2 q3 := by rw [<- e2]; exact (nb_new _ _ _).2
       have n9 : Nb q3 b30 zD.toArray 36 := by rw [<- e1, <- e2]; exact (nb_new _ _ _).1
       have hW := hW.to hb
       have hS := below_to hS hb
       skip
       simp only [e1]
       change Below _ _ (q2.alloc (.cells zD.toArray 36)) /\ wpAnyH _ _ _ _ _ _ _ _ (q2.alloc (.cells zD.toArray 36))
       simp only [e2]
       clear hb e1 e2
       refine ⟨hS, ?_⟩
       try simp only [Act.put, pC, pD, pE, pF, pG, pH]
       refine one_keep (i := 10) (by kernel_rfl) (keep_step rfl (by rfl) ?_)
       have hth : q3.there b30 0 V3.toArray.size := there_row n9 (by rw [List.size_toArray, hV3.1]; decide)
       have hbt : But b30 q3 (q3.setCells b30 0 V3) := But.setCells _ _ (But.refl _ _)
       have hW9 := Wnt.but hW hbt n9
       have hS9 : Below y5.heap.size y5 (q3.setCells b30 0 V3) := hS.trans (hbt.below g9 hS.size)
       refine wp_store_mid 36 (.tmp 30) (.tmp 133) rfl b30 0 V3.toArray rfl rfl hth (by rw [List.size_toArray, hV3.1]; exact Disk.infoD) hV3.2 ?_
       (try rw [List.toList_toArray])
       refine ⟨hS9, ?_⟩
       try simp only [Act.put, pF, pG, pH]
       refine take_x (i := 11) (v := ?_) rfl ?_ hS9 ?_
       rotate_left
       ·rintro w' -; go_simp <;> with_reducible rfl
       try simp only [Act.put, pC, pD, pE, pF, pG, pH]
       refine take_x (i := 12) (v := ?_) rfl ?_ hS9 ?_
       rotate_left
       ·rintro w' -; go_simp <;> with_reducible rfl
       try simp only [Act.put, pC, pD, pE, pF, pG, pH]
       refine wpAnyH_done (by kernel_rfl) ?_ _
       have HZ : Box (Below w.heap.size w (q3.setCells b30 0 V3) /\ Igss (q3.setCells b30 0 V3) ua X5 /\ Rws (q3.setCells b30 0 V3) u2a Wn /\ Wn.map (·.P) = PL /\ Wn.length = X5.length) := ⟨(HRg5.out _ hS9).2.2.2.2.1, (HRg5.out _ hS9).2.2.2.2.2, Wnt.rws hW9, hWp, by have h1 := congrArg List.length hWp; have h2 := congrArg List.length HPX.out.1; simp only [plC, List.length_map] at h1 h2; omega⟩
       clear hW9 hW hS9 hbt hth n9 g9 hS hV3 hWp
       generalize q3.setCells b30 0 V3 = z9 at HZ ⊢
       have HAo : Box _ := ⟨allOf_any ua uc X5 z9 HZ.out.2.1 (by have := HPX.out.2.1; omega) (fun c hc => by have := HPX.out.2.2 c hc; omega)⟩
       have hee : (e0 == e0) = true := by simp
       rw [HZ.out.2.2.2.2]
       go_wp2_with (first
        | (go_at_call 28; refine Calls.mono HAo.out ?_; rintro e zA ⟨va0, A5, rfl, hao⟩; obtain ⟨va, vc, rfl⟩ := own_form2 hao.wn.row; have HA5 : Box (Rws zA va A5 /\ Rws zA u2a Wn /\ A5.map (·.P) = Wn.map (·.P) /\ A5.length = X5.length /\ (∀ x ∈ A5, x.l <= 1000) /\ Below w.heap.size w zA) := ⟨Wnt.rws hao.wn, HZ.out.2.2.1.below hao.bel, by rw [hao.eq, HZ.out.2.2.2.1, HPX.out.1, List.take_of_length_le (by rw [<- HPX.out.1]; simp [plC])], by have := congrArg List.length hao.eq; simp [plC] at this; omega, fun x hx => by (have h1 : x.P ∈ A5.map (·.P) := List.mem_map_of_mem (f := fun x : Wx => x.P) hx; rw [hao.eq] at h1; have h2 := List.mem_of_mem_take h1; rw [HPX.out.1] at h2; have h3 := HPL.out.2 _ h2; rw [(hao.wn.im x hx).1] at h3; omega), below_to HZ.out.1 hao.bel⟩; rw [HA5.out.2.2.2.1]; clear hao)
        | (go_at_call 27; refine Calls.mono (sameAll_any va u2a vc u2c X5.length A5 Wn zA HA5.out.1 HA5.out.2.1 HA5.out.2.2.2.1 HZ.out.2.2.2.2 HA5.out.2.2.1 (by have := HPX.out.2.1; omega) HA5.out.2.2.2.2.1) ?_; rintro e zB ⟨rfl, hb⟩; have HBl : Box (Below w.heap.size w zB) := ⟨below_to HA5.out.2.2.2.2.2 hb⟩; clear hb))
       go_ret
       exact ⟨rfl, HBl.out⟩
      ·refine keep_step rfl (by rfl) ?_
       unfold Oper.wp
       rw [exec_alloc 36 rfl _ Disk.zeroD]
       obtain ⟨b30, e1⟩ : ∃ b, q1.heap.size = b := ⟨_, rfl⟩
       have g9 : y5.heap.size <= b30 := by rw [<- e1]; exact hS.size
       obtain ⟨q4, e2⟩ : ∃ y, q1.alloc (.cells zD.toArray 36) = y := ⟨_, rfl⟩
       skip
       have hb : Below q1.heap.size q1 q4 := by rw [<- e2]; exact (nb_new _ _ _).2
       have n9 : Nb q4 b30 zD.toArray 36 := by rw [<- e1, <- e2]; exact (nb_new _ _ _).1
       have hS := below_to hS hb
       skip
       simp only [e1]
       change Below _ _ (q1.alloc (.cells zD.toArray 36)) /\ wpAnyH _ _ _ _ _ _ _ _ (q1.alloc (.cells zD.toArray 36))
       simp only [e2]
       clear hb e1 e2
       refine ⟨hS, ?_⟩
       try simp only [Act.put, pC, pD, pE, pF, pG, pH]
       refine one_keep (i := 4) (by kernel_rfl) ?_
       refine keep_step rfl (by rfl) ?_
       go_simp
       refine Calls.mono (HRf.out _ (HRg5.out _ hS).2.2.2.1) ?_
       rintro e q5 ⟨hb, V3, u2a, u2c, Wn, hV3, rfl, hW, hWp⟩
       have n9 := n9.below hb
       have hS := below_to hS hb
       clear hb
       refine ⟨hS, ?_⟩
       try simp only [Act.put, pC, pD, pE, pF, pG, pH]
       refine take_x (i := 5) (v := ?_) rfl ?_ hS ?_
       rotate_left
       ·rintro w' -; go_simp <;> with_reducible rfl
       try simp only [Act.put, pC, pD, pE, pF, pG, pH]
       refine take_x (i := 6) (v := ?_) rfl ?_ hS ?_
       rotate_left
       ·rintro w' -; go_simp <;> with_reducible rfl
       try simp only [Act.put, pC, pD, pE, pF, pG, pH]
       refine take_x (i := 7) (v := ?_) rfl ?_ hS ?_
       rotate_left
       ·rintro w' -; go_simp <;> with_reducible rfl
       try simp only [Act.put, pC, pD, pE, pF, pG, pH]
       refine take_x (i := 8) (v := ?_) rfl ?_ hS ?_
       rotate_left
       ·rintro w' -; go_simp <;> with_reducible rfl
       try simp only [Act.put, pC, pD, pE, pF, pG, pH]
       refine one_keep (i := 10) (by kernel_rfl) (keep_step rfl (by rfl) ?_)
       have hth : q5.there b30 0 V3.toArray.size := there_row n9 (by rw [List.size_toArray, hV3.1]; decide)
       have hbt : But b30 q5 (q5.setCells b30 0 V3) := But.setCells _ _ (But.refl _ _)
       have hW9 := Wnt.but hW hbt n9
       have hS9 : Below y5.heap.size y5 (q5.setCells b30 0 V3) := hS.trans (hbt.below g9 hS.size)
       refine wp_store_mid 36 (.tmp 30) (.tmp 133) rfl b30 0 V3.toArray rfl rfl hth (by rw [List.size_toArray, hV3.1]; exact Disk.infoD) hV3.2 ?_
       (try rw [List.toList_toArray])
       refine ⟨hS9, ?_⟩
       try simp only [Act.put, pF, pG, pH]
       refine take_x (i := 11) (v := ?_) rfl ?_ hS9 ?_
       rotate_left
       ·rintro w' -; go_simp <;> with_reducible rfl
       try simp only [Act.put, pC, pD, pE, pF, pG, pH]
       refine take_x (i := 12) (v := ?_) rfl ?_ hS9 ?_
       rotate_left
       ·rintro w' -; go_simp <;> with_reducible rfl
       try simp only [Act.put, pC, pD, pE, pF, pG, pH]
       refine wpAnyH_done (by kernel_rfl) ?_ _
       have HZ : Box (Below w.heap.size w (q5.setCells b30 0 V3) /\ Igss (q5.setCells b30 0 V3) ua X5 /\ Rws (q5.setCells b30 0 V3) u2a Wn /\ Wn.map (·.P) = PL /\ Wn.length = X5.length) := ⟨(HRg5.out _ hS9).2.2.2.2.1, (HRg5.out _ hS9).2.2.2.2.2, Wnt.rws hW9, hWp, by have h1 := congrArg List.length hWp; have h2 := congrArg List.length HPX.out.1; simp only [plC, List.length_map] at h1 h2; omega⟩
       clear hW9 hW hS9 hbt hth n9 g9 hS hV3 hWp
       generalize q5.setCells b30 0 V3 = z9 at HZ ⊢
       have HAo : Box _ := ⟨allOf_any ua uc X5 z9 HZ.out.2.1 (by have := HPX.out.2.1; omega) (fun c hc => by have := HPX.out.2.2 c hc; omega)⟩
       have hee : (e0 == e0) = true := by simp
       rw [HZ.out.2.2.2.2]
       go_wp2_with (first
        | (go_at_call 28; refine Calls.mono HAo.out ?_; rintro e zA ⟨va0, A5, rfl, hao⟩; obtain ⟨va, vc, rfl⟩ := own_form2 hao.wn.row; have HA5 : Box (Rws zA va A5 /\ Rws zA u2a Wn /\ A5.map (·.P) = Wn.map (·.P) /\ A5.length = X5.length /\ (∀ x ∈ A5, x.l <= 1000) /\ Below w.heap.size w zA) := ⟨Wnt.rws hao.wn, HZ.out.2.2.1.below hao.bel, by rw [hao.eq, HZ.out.2.2.2.1, HPX.out.1, List.take_of_length_le (by rw [<- HPX.out.1]; simp [plC])], by have := congrArg List.length hao.eq; simp [plC] at this; omega, fun x hx => by (have h1 : x.P ∈ A5.map (·.P) := List.mem_map_of_mem (f := fun x : Wx => x.P) hx; rw [hao.eq] at h1; have h2 := List.mem_of_mem_take h1; rw [HPX.out.1] at h2; have h3 := HPL.out.2 _ h2; rw [(hao.wn.im x hx).1] at h3; omega), below_to HZ.out.1 hao.bel⟩; rw [HA5.out.2.2.2.1]; clear hao)
        | (go_at_call 27; refine Calls.mono (sameAll_any va u2a vc u2c X5.length A5 Wn zA HA5.out.1 HA5.out.2.1 HA5.out.2.2.2.1 HZ.out.2.2.2.2 HA5.out.2.2.1 (by have := HPX.out.2.1; omega) HA5.out.2.2.2.2.1) ?_; rintro e zB ⟨rfl, hb⟩; have HBl : Box (Below w.heap.size w zB) := ⟨below_to HA5.out.2.2.2.2.2 hb⟩; clear hb))
       go_ret
       exact ⟨rfl, HBl.out⟩
     ·refine keep_step rfl (by rfl) ?_
      unfold Oper.wp
      rw [exec_alloc 36 rfl _ Disk.zeroD]
      obtain ⟨b30, e1⟩ : ∃ b, wd.heap.size = b := ⟨_, rfl⟩
      have g9 : y5.heap.size <= b30 := by rw [<- e1]; exact hS.size
      obtain ⟨q6, e2⟩ : ∃ y, wd.alloc (.cells zD.toArray 36) = y := ⟨_, rfl⟩
      skip
      have hb : Below wd.heap.size wd q6 := by rw [<- e2]; exact (nb_new _ _ _).2
      have n9 : Nb q6 b30 zD.toArray 36 := by rw [<- e1, <- e2]; exact (nb_new _ _ _).1
      have hS := below_to hS hb
      skip
      simp only [e1]
      change Below _ _ (wd.alloc (.cells zD.toArray 36)) /\ wpAnyH _ _ _ _ _ _ _ _ (wd.alloc (.cells zD.toArray 36))
      simp only [e2]
      clear hb e1 e2
      refine ⟨hS, ?_⟩
      try simp only [Act.put, pC, pD, pE, pF, pG, pH]
      refine one_keep (i := 3) (by kernel_rfl) ?_
      refine keep_step rfl (by rfl) ?_
      go_simp
      refine Calls.mono (HSx.out _) ?_
      rintro e q7 ⟨rfl, hb⟩
      have n9 := n9.below hb
      have hS := below_to hS hb
      clear hb
      refine ⟨hS, ?_⟩
      try simp only [Act.put, pC, pD, pE, pF, pG, pH]
      refine one_keep (i := 4) (by kernel_rfl) ?_
      refine keep_step rfl (by rfl) ?_
      go_simp
      refine Calls.mono (HRf.out _ (HRg5.out _ hS).2.2.2.1) ?_
      rintro e q8 ⟨hb, V3, u2a, u2c, Wn, hV3, rfl, hW, hWp⟩
      have n9 := n9.below hb
      have hS := below_to hS hb
      clear hb
      refine ⟨hS, ?_⟩
      try simp only [Act.put, pC, pD, pE, pF, pG, pH]
      refine take_x (i := 5) (v := ?_) rfl ?_ hS ?_
      rotate_left
      ·rintro w' -; go_simp <;> with_reducible rfl
      try simp only [Act.put, pC, pD, pE, pF, pG, pH]
      refine take_x (i := 6) (v := ?_) rfl ?_ hS ?_
      rotate_left
      ·rintro w' -; go_simp <;> with_reducible rfl
      try simp only [Act.put, pC, pD, pE, pF, pG, pH]
      refine take_x (i := 7) (v := ?_) rfl ?_ hS ?_
      rotate_left
      ·rintro w' -; go_simp <;> with_reducible rfl
      try simp only [Act.put, pC, pD, pE, pF, pG, pH]
      refine take_x (i := 8) (v := ?_) rfl ?_ hS ?_
      rotate_left
      ·rintro w' -; go_simp <;> with_reducible rfl
      try simp only [Act.put, pC, pD, pE, pF, pG, pH]
      refine one_keep (i := 10) (by kernel_rfl) (keep_step rfl (by rfl) ?_)
      have hth : q8.there b30 0 V3.toArray.size := there_row n9 (by rw [List.size_toArray, hV3.1]; decide)
      have hbt : But b30 q8 (q8.setCells b30 0 V3) := But.setCells _ _ (But.refl _ _)
      have hW9 := Wnt.but hW hbt n9
      have hS9 : Below y5.heap.size y5 (q8.setCells b30 0 V3) := hS.trans (hbt.below g9 hS.size)
      refine wp_store_mid 36 (.tmp 30) (.tmp 133) rfl b30 0 V3.toArray rfl rfl hth (by rw [List.size_toArray, hV3.1]; exact Disk.infoD) hV3.2 ?_
      (try rw [List.toList_toArray])
      refine ⟨hS9, ?_⟩
      try simp only [Act.put, pF, pG, pH]
      refine take_x (i := 11) (v := ?_) rfl ?_ hS9 ?_
      rotate_left
      ·rintro w' -; go_simp <;> with_reducible rfl
      try simp only [Act.put, pC, pD, pE, pF, pG, pH]
      refine take_x (i := 12) (v := ?_) rfl ?_ hS9 ?_
      rotate_left
      ·rintro w' -; go_simp <;> with_reducible rfl
      try simp only [Act.put, pC, pD, pE, pF, pG, pH]
      refine wpAnyH_done (by kernel_rfl) ?_ _
      have HZ : Box (Below w.heap.size w (q8.setCells b30 0 V3) /\ Igss (q8.setCells b30 0 V3) ua X5 /\ Rws (q8.setCells b30 0 V3) u2a Wn /\ Wn.map (·.P) = PL /\ Wn.length = X5.length) := ⟨(HRg5.out _ hS9).2.2.2.2.1, (HRg5.out _ hS9).2.2.2.2.2, Wnt.rws hW9, hWp, by have h1 := congrArg List.length hWp; have h2 := congrArg List.length HPX.out.1; simp only [plC, List.length_map] at h1 h2; omega⟩
      clear hW9 hW hS9 hbt hth n9 g9 hS hV3 hWp
      generalize q8.setCells b30 0 V3 = z9 at HZ ⊢
      have HAo : Box _ := ⟨allOf_any ua uc X5 z9 HZ.out.2.1 (by have := HPX.out.2.1; omega) (fun c hc => by have := HPX.out.2.2 c hc; omega)⟩
      have hee : (e0 == e0) = true := by simp
      rw [HZ.out.2.2.2.2]
      go_wp2_with (first
       | (go_at_call 28; refine Calls.mono HAo.out ?_; rintro e zA ⟨va0, A5, rfl, hao⟩; obtain ⟨va, vc, rfl⟩ := own_form2 hao.wn.row; have HA5 : Box (Rws zA va A5 /\ Rws zA u2a Wn /\ A5.map (·.P) = Wn.map (·.P) /\ A5.length = X5.length /\ (∀ x ∈ A5, x.l <= 1000) /\ Below w.heap.size w zA) := ⟨Wnt.rws hao.wn, HZ.out.2.2.1.below hao.bel, by rw [hao.eq, HZ.out.2.2.2.1, HPX.out.1, List.take_of_length_le (by rw [<- HPX.out.1]; simp [plC])], by have := congrArg List.length hao.eq; simp [plC] at this; omega, fun x hx => by (have h1 : x.P ∈ A5.map (·.P) := List.mem_map_of_mem (f := fun x : Wx => x.P) hx; rw [hao.eq] at h1; have h2 := List.mem_of_mem_take h1; rw [HPX.out.1] at h2; have h3 := HPL.out.2 _ h2; rw [(hao.wn.im x hx).1] at h3; omega), below_to HZ.out.1 hao.bel⟩; rw [HA5.out.2.2.2.1]; clear hao)
       | (go_at_call 27; refine Calls.mono (sameAll_any va u2a vc u2c X5.length A5 Wn zA HA5.out.1 HA5.out.2.1 HA5.out.2.2.2.1 HZ.out.2.2.2.2 HA5.out.2.2.1 (by have := HPX.out.2.1; omega) HA5.out.2.2.2.2.1) ?_; rintro e zB ⟨rfl, hb⟩; have HBl : Box (Below w.heap.size w zB) := ⟨below_to HA5.out.2.2.2.2.2 hb⟩; clear hb))
      go_ret
      exact ⟨rfl, HBl.out⟩⟩
 refine begin_keep (S := fun x => x.rangeAt Bw 0 RQ) (by kernel_rfl) (fun wd hwd => ?_)
 have hB : BZ wd := by rw [hwd]; exact HBd.out _ _ HBA.out (Below.refl _ _).drew
 have hS := HSw.out _ hB
 clear hwd HBA hK14
 refine take_x (i := 1) (v := .agg RQ.toArray) rfl (fun w' hLat => exec_load_mid 44 _ (.tmp 16) rfl Tryz.underlying44 rfl Bw 0 rfl RQ HVm.out.2.2 hLat) hS ?_
 try simp only [Act.put, pC, pD, pE, pF, pG, pH]
 refine take_x (i := 2) (v := ?_) rfl ?_ hS ?_
 rotate_left
 ·rintro w' -; go_simp <;> with_reducible rfl
 try simp only [Act.put, pC, pD, pE, pF, pG, pH]
 refine dag_in (fun G hG => ?_)
 have HLeaf : Box (∀ (b23 b24 : Nat) (ma : Option Addr) (mc : Nat) (V2 J2 : List Value) (y : World), BZ y -> A2 y d1 n V2 J2 -> ((Tryz.prog.info? 36).map (·.size) = some V2.toArray.size /\ V2.toArray.all (·.oneCell') = true /\ (Tryz.prog.info? 44).map (·.size) = some J2.toArray.size /\ J2.toArray.all (·.oneCell') = true) -> Nb y b23 ZJ 44 -> Nb y b24 (sa zs) 42 -> (Bw < b23 /\ x1.heap.size <= b23 /\ ¬ fp9 b23) -> (Bw < b24 /\ x1.heap.size <= b24 /\ ¬ fp9 b24) -> G 4 #[true, true, true, true, true, true, true, true, true, true, true, true, false, false, false, false] { tmps := #[Value.agg AK, Value.slice a n ca, Value.int IntKind.u8 ↑cn, Value.bool lk, Value.pointer (some { block := S, off := 0 }), undef, undef, undef, Value.bool false, Value.bool true, Value.pointer (some { block := D, off := 0 }), Value.int IntKind.i64 0, Value.pointer (some { block := Bm, off := 0 }), Value.int IntKind.i64 0, Value.pointer (some { block := J, off := 0 }), Value.int IntKind.i64 0, Value.pointer (some { block := Bw, off := 0 }), Value.int IntKind.i64 0, Value.slice xa n xc, Value.pointer (some { block := Bs, off := 0 }), Value.int IntKind.i64 0, Value.pointer (some { block := b23, off := 0 }), Value.pointer (some { block := b24, off := 0 }), undef, undef, undef, undef, undef, undef, undef, undef, undef, undef, Value.bool true, Value.bool true, Value.bool false, Value.slice a n ca, Value.int IntKind.i64 ↑n, Value.bool false, Value.bool false, Value.slice a n ca, Value.int IntKind.i64 ↑n, Value.bool false, Value.bool false, Value.tuple #[Value.pointer (some { block := D, off := 0 }), Value.int IntKind.i64 0], Value.tuple #[Value.pointer (some { block := D, off := 0 }), Value.int IntKind.i64 0], Value.pointer (some { block := D, off := 0 }), Value.int IntKind.i64 0, Value.tuple #[Value.agg V.toArray, Value.int IntKind.i64 0], Value.tuple #[Value.agg V.toArray, Value.int IntKind.i64 0], Value.agg V.toArray, Value.int IntKind.i64 0, Value.tuple #[Value.pointer (some { block := J, off := 0 }), Value.int IntKind.i64 0], Value.pointer (some { block := D, off := 0 }), Value.agg AK, Value.agg S2, Value.tuple #[Value.pointer (some { block := J, off := 0 }), Value.int IntKind.i64 0], Value.pointer (some { block := J, off := 0 }), Value.int IntKind.i64 0, Value.tuple #[Value.agg RQ.toArray, Value.int IntKind.i64 0], Value.agg AK, Value.agg S2, Value.tuple #[Value.agg RQ.toArray, Value.int IntKind.i64 0], Value.agg RQ.toArray, Value.int IntKind.i64 0, Value.slice a n ca, Value.slice xa n xc, Value.tuple #[Value.agg (sa s1), Value.int IntKind.i64 0], Value.pointer (some { block := J, off := 0 }), Value.slice xa n xc, Value.tuple #[Value.agg (sa s1), Value.int IntKind.i64 0], Value.agg (sa s1), Value.int IntKind.i64 0, Value.tuple #[Value.agg V2.toArray, Value.agg J2.toArray, Value.agg (sa s1), Value.int IntKind.i64 0], Value.agg V.toArray, Value.agg RQ.toArray, Value.slice xa n xc, Value.slice ma n mc, Value.tuple #[Value.agg V2.toArray, Value.agg J2.toArray, Value.agg (sa s1), Value.int IntKind.i64 0], Value.agg V2.toArray, Value.agg J2.toArray, Value.agg (sa s1), Value.int IntKind.i64 0, undef, undef, undef, undef, undef, undef, undef, undef, undef, undef, undef, undef, undef, undef, undef, undef, undef, undef, undef, undef, undef, undef, undef, undef, undef, undef, undef, undef, undef, undef, undef, undef, undef, undef, undef, undef, undef, undef, undef, undef, undef, undef, undef, undef, undef, undef, undef, undef, undef, undef, undef, undef, undef, undef, undef, undef, undef, undef, undef, undef, undef, undef], defers := [] } y) := ⟨by
  intro b23 b24 ma mc V2 J2 y hB hA hI n3 n4 g3 g4
  rw [hG]
  have h3 : Box _ := ⟨st3 (HBo.out _ hB) HVl.out HZJ.out.2 HIs.out.2.2.2.2.2.1 hA n3 n4 g3.1 g3.2.1 g4.2.1 g3.2.2 g4.2.2 HW0.out⟩
  refine one_keep (i := 12) (by kernel_rfl) (keep_step rfl (by rfl) ?_)
  refine wp_store_mid 36 (.tmp 12) (.tmp 79) rfl Bm 0 V2.toArray rfl rfl h3.out.t1 hI.1 hI.2.1 ?_
  rw [List.toList_toArray]
  refine ⟨h3.out.s1, ?_⟩
  try simp only [Act.put, pF, pG, pH]
  refine one_keep (i := 13) (by kernel_rfl) (keep_step rfl (by rfl) ?_)
  refine wp_store_mid 44 (.tmp 21) (.tmp 80) rfl b23 0 J2.toArray rfl rfl h3.out.t2 hI.2.2.1 hI.2.2.2 ?_
  rw [List.toList_toArray]
  refine ⟨h3.out.s2, ?_⟩
  try simp only [Act.put, pF, pG, pH]
  refine one_keep (i := 14) (by kernel_rfl) (keep_step rfl (by rfl) ?_)
  refine wp_store_mid 42 (.tmp 22) (.tmp 81) rfl b24 0 (sa s1) rfl rfl h3.out.t3 HIs.out.1 (all_sa s1) ?_
  rw [HIs.out.2.1]
  refine ⟨h3.out.s3, ?_⟩
  try simp only [Act.put, pF, pG, pH]
  refine take_x (i := 15) (v := ?_) rfl ?_ h3.out.s3 ?_
  rotate_left
  ·rintro w' -; go_simp <;> with_reducible rfl
  try simp only [Act.put, pC, pD, pE, pF, pG, pH]
  refine wpAnyH_done (by kernel_rfl) ?_ _
  exact HRest.out b23 b24 ma mc V2 J2 _ h3.out.fz⟩
 have HLeaf4 : Box (∀ (b23 b24 : Nat) (ma : Option Addr) (mc : Nat) (V2 J2 : List Value) (y : World), BZ y -> A2 y d1 n V2 J2 -> ((Tryz.prog.info? 36).map (·.size) = some V2.toArray.size /\ V2.toArray.all (·.oneCell') = true /\ (Tryz.prog.info? 44).map (·.size) = some J2.toArray.size /\ J2.toArray.all (·.oneCell') = true) -> Nb y b23 ZJ 44 -> Nb y b24 (sa zs) 42 -> (Bw < b23 /\ x1.heap.size <= b23 /\ ¬ fp9 b23) -> (Bw < b24 /\ x1.heap.size <= b24 /\ ¬ fp9 b24) -> G 9 #[true, true, true, true, true, false, false, false, false, false, true, true, false, false, false, false] { tmps := #[Value.agg AK, Value.slice a n ca, Value.int IntKind.u8 ↑cn, Value.bool lk, Value.pointer (some { block := S, off := 0 }), undef, undef, undef, Value.bool false, Value.bool true, Value.pointer (some { block := D, off := 0 }), Value.int IntKind.i64 0, Value.pointer (some { block := Bm, off := 0 }), Value.int IntKind.i64 0, Value.pointer (some { block := J, off := 0 }), Value.int IntKind.i64 0, Value.pointer (some { block := Bw, off := 0 }), Value.int IntKind.i64 0, Value.slice xa n xc, Value.pointer (some { block := Bs, off := 0 }), Value.int IntKind.i64 0, Value.pointer (some { block := b23, off := 0 }), Value.pointer (some { block := b24, off := 0 }), undef, undef, undef, undef, undef, undef, undef, undef, undef, undef, Value.bool true, Value.bool true, Value.bool false, Value.slice a n ca, Value.int IntKind.i64 ↑n, Value.bool false, Value.bool false, Value.slice a n ca, Value.int IntKind.i64 ↑n, Value.bool false, Value.bool false, Value.tuple #[Value.pointer (some { block := D, off := 0 }), Value.int IntKind.i64 0], Value.tuple #[Value.pointer (some { block := D, off := 0 }), Value.int IntKind.i64 0], Value.pointer (some { block := D, off := 0 }), Value.int IntKind.i64 0, Value.tuple #[Value.agg V.toArray, Value.int IntKind.i64 0], Value.tuple #[Value.agg V.toArray, Value.int IntKind.i64 0], Value.agg V.toArray, Value.int IntKind.i64 0, Value.tuple #[Value.pointer (some { block := J, off := 0 }), Value.int IntKind.i64 0], Value.pointer (some { block := D, off := 0 }), Value.agg AK, Value.agg S2, Value.tuple #[Value.pointer (some { block := J, off := 0 }), Value.int IntKind.i64 0], Value.pointer (some { block := J, off := 0 }), Value.int IntKind.i64 0, Value.tuple #[Value.agg RQ.toArray, Value.int IntKind.i64 0], Value.agg AK, Value.agg S2, Value.tuple #[Value.agg RQ.toArray, Value.int IntKind.i64 0], Value.agg RQ.toArray, Value.int IntKind.i64 0, Value.slice a n ca, Value.slice xa n xc, Value.tuple #[Value.agg (sa s1), Value.int IntKind.i64 0], Value.pointer (some { block := J, off := 0 }), Value.slice xa n xc, Value.tuple #[Value.agg (sa s1), Value.int IntKind.i64 0], Value.agg (sa s1), Value.int IntKind.i64 0, undef, Value.agg V.toArray, Value.agg RQ.toArray, Value.slice xa n xc, Value.slice ma n mc, Value.tuple #[Value.agg V2.toArray, Value.agg J2.toArray, Value.agg (sa s1), Value.int IntKind.i64 0], undef, undef, undef, undef, undef, undef, undef, undef, undef, undef, undef, undef, undef, undef, undef, undef, undef, undef, undef, undef, undef, undef, undef, undef, undef, undef, undef, undef, undef, undef, undef, undef, undef, undef, undef, undef, undef, undef, undef, undef, undef, undef, undef, undef, undef, undef, undef, undef, undef, undef, undef, undef, undef, undef, undef, undef, undef, undef, undef, undef, undef, undef, undef, undef, undef, undef], defers := [] } y) := ⟨by
  intro b23 b24 ma mc V2 J2 y hB hA hI n3 n4 g3 g4
  rw [hG]
  refine take_x (i := 5) (v := ?_) rfl ?_ (HSw.out _ hB) ?_
  rotate_left
  ·rintro w' -; go_simp <;> with_reducible rfl
  try simp only [Act.put, pC, pD, pE, pF, pG, pH]
  refine take_x (i := 6) (v := ?_) rfl ?_ (HSw.out _ hB) ?_
  rotate_left
  ·rintro w' -; go_simp <;> with_reducible rfl
  try simp only [Act.put, pC, pD, pE, pF, pG, pH]
  refine take_x (i := 7) (v := ?_) rfl ?_ (HSw.out _ hB) ?_
  rotate_left
  ·rintro w' -; go_simp <;> with_reducible rfl
  try simp only [Act.put, pC, pD, pE, pF, pG, pH]
  refine take_x (i := 8) (v := ?_) rfl ?_ (HSw.out _ hB) ?_
  rotate_left
  ·rintro w' -; go_simp <;> with_reducible rfl
  try simp only [Act.put, pC, pD, pE, pF, pG, pH]
  refine take_x (i := 9) (v := ?_) rfl ?_ (HSw.out _ hB) ?_
  rotate_left
  ·rintro w' -; go_simp <;> with_reducible rfl
  try simp only [Act.put, pC, pD, pE, pF, pG, pH]
  exact dag_to hG (by kernel_rfl) (HLeaf.out b23 b24 ma mc V2 J2 _ hB hA hI n3 n4 g3 g4)⟩
 rw [hG]
 refine take_late 4 (fun x => x.rangeAt Bm 0 V) (i := 0) (v := .agg V.toArray) rfl (by kernel_rfl) (by kernel_rfl) (by kernel_rfl) (fun _ _ _ h => h) (by rfl) (by decide) (by kernel_rfl) (by kernel_rfl) (fun w' _ hLat => exec_load_mid 36 _ (.tmp 12) rfl Tryz.underlying36 rfl Bm 0 rfl V HVm.out.2.1 hLat) hS (HVm.out.1 _ hB) ?_
 try simp only [Act.put, pC, pD, pE, pF, pG]
 refine late_all (rs := [3, 10, 11]) (by kernel_rfl) (by simp) (fun q hq => ?_)
 simp only [List.mem_cons, List.not_mem_nil, or_false] at hq
 rcases hq with rfl | rfl | rfl
 ·as_aux_lemma =>
   refine keep_step rfl (by rfl) ?_
   go_simp
   refine Calls.mono (HMo.out _ hB) ?_
   rintro e y1 ⟨ma, mc, rfl, hT, hb⟩
   have hB := HBd.out _ _ hB hb
   clear hb
   refine ⟨⟨HSw.out _ hB, HVm.out.1 _ hB⟩, ?_⟩
   try simp only [Act.put, pC, pD, pE, pF, pG, pH]
   refine late_all (rs := [4, 10, 11]) (by kernel_rfl) (by simp) (fun q hq => ?_)
   simp only [List.mem_cons, List.not_mem_nil, or_false] at hq
   rcases hq with rfl | rfl | rfl
   ·as_aux_lemma =>
     refine keep_step rfl (by rfl) ?_
     go_simp
     refine Calls.mono (HRa.out _ ma mc hB hT) ?_
     rintro e y2 ⟨V2, J2, rfl, hA, hI, hb⟩
     have hB := HBd.out _ _ hB hb
     have hT := hT.below hb
     clear hb
     refine ⟨HSw.out _ hB, ?_⟩
     try simp only [Act.put, pC, pD, pE, pF, pG, pH]
     refine late_of _ _ _ _ (by kernel_rfl) ?_
     refine take_x (i := 5) (v := ?_) rfl ?_ (HSw.out _ hB) ?_
     rotate_left
     ·rintro w' -; go_simp <;> with_reducible rfl
     try simp only [Act.put, pC, pD, pE, pF, pG, pH]
     refine take_x (i := 6) (v := ?_) rfl ?_ (HSw.out _ hB) ?_
     rotate_left
     ·rintro w' -; go_simp <;> with_reducible rfl
     try simp only [Act.put, pC, pD, pE, pF, pG, pH]
     refine take_x (i := 7) (v := ?_) rfl ?_ (HSw.out _ hB) ?_
     rotate_left
     ·rintro w' -; go_simp <;> with_reducible rfl
     try simp only [Act.put, pC, pD, pE, pF, pG, pH]
     refine take_x (i := 8) (v := ?_) rfl ?_ (HSw.out _ hB) ?_
     rotate_left
     ·rintro w' -; go_simp <;> with_reducible rfl
     try simp only [Act.put, pC, pD, pE, pF, pG, pH]
     refine take_x (i := 9) (v := ?_) rfl ?_ (HSw.out _ hB) ?_
     rotate_left
     ·rintro w' -; go_simp <;> with_reducible rfl
     try simp only [Act.put, pC, pD, pE, pF, pG, pH]
     refine two_keep (i := 10) (j := 11) (by kernel_rfl) ?_ ?_
     ·refine keep_step rfl (by rfl) ?_
      unfold Oper.wp
      rw [exec_alloc 44 rfl _ HZJ.out.1]
      obtain ⟨b23, e1⟩ : ∃ b, y2.heap.size = b := ⟨_, rfl⟩
      obtain ⟨y3, e2⟩ : ∃ y, y2.alloc (.cells ZJ 44) = y := ⟨_, rfl⟩
      have hb : Below y2.heap.size y2 y3 := by rw [<- e2]; exact (nb_new _ _ _).2
      have n3 : Nb y3 b23 ZJ 44 := by rw [<- e1, <- e2]; exact (nb_new _ _ _).1
      have g3 := HAl.out _ hB
      rw [e1] at g3
      have hB := HBd.out _ _ hB hb
      have hT := hT.below hb
      have hA := hA.below hb
      simp only [e1, e2]
      clear hb e1 e2
      refine ⟨HSw.out _ hB, ?_⟩
      try simp only [Act.put, pC, pD, pE, pF, pG, pH]
      refine one_keep (i := 11) (by kernel_rfl) ?_
      refine keep_step rfl (by rfl) ?_
      unfold Oper.wp
      rw [exec_alloc 42 rfl _ zeroS13]
      obtain ⟨b24, e1⟩ : ∃ b, y3.heap.size = b := ⟨_, rfl⟩
      obtain ⟨y4, e2⟩ : ∃ y, y3.alloc (.cells (sa zs) 42) = y := ⟨_, rfl⟩
      have hb : Below y3.heap.size y3 y4 := by rw [<- e2]; exact (nb_new _ _ _).2
      have n4 : Nb y4 b24 (sa zs) 42 := by rw [<- e1, <- e2]; exact (nb_new _ _ _).1
      have g4 := HAl.out _ hB
      rw [e1] at g4
      have hB := HBd.out _ _ hB hb
      have hT := hT.below hb
      have hA := hA.below hb
      have n3 := n3.below hb
      simp only [e1, e2]
      clear hb e1 e2
      refine ⟨HSw.out _ hB, ?_⟩
      try simp only [Act.put, pC, pD, pE, pF, pG, pH]
      exact dag_to hG (by kernel_rfl) (HLeaf.out b23 b24 ma mc V2 J2 _ hB hA hI n3 n4 g3 g4)
     ·refine keep_step rfl (by rfl) ?_
      unfold Oper.wp
      rw [exec_alloc 42 rfl _ zeroS13]
      obtain ⟨b24, e1⟩ : ∃ b, y2.heap.size = b := ⟨_, rfl⟩
      obtain ⟨y5, e2⟩ : ∃ y, y2.alloc (.cells (sa zs) 42) = y := ⟨_, rfl⟩
      have hb : Below y2.heap.size y2 y5 := by rw [<- e2]; exact (nb_new _ _ _).2
      have n4 : Nb y5 b24 (sa zs) 42 := by rw [<- e1, <- e2]; exact (nb_new _ _ _).1
      have g4 := HAl.out _ hB
      rw [e1] at g4
      have hB := HBd.out _ _ hB hb
      have hT := hT.below hb
      have hA := hA.below hb
      simp only [e1, e2]
      clear hb e1 e2
      refine ⟨HSw.out _ hB, ?_⟩
      try simp only [Act.put, pC, pD, pE, pF, pG, pH]
      refine one_keep (i := 10) (by kernel_rfl) ?_
      refine keep_step rfl (by rfl) ?_
      unfold Oper.wp
      rw [exec_alloc 44 rfl _ HZJ.out.1]
      obtain ⟨b23, e1⟩ : ∃ b, y5.heap.size = b := ⟨_, rfl⟩
      obtain ⟨y6, e2⟩ : ∃ y, y5.alloc (.cells ZJ 44) = y := ⟨_, rfl⟩
      have hb : Below y5.heap.size y5 y6 := by rw [<- e2]; exact (nb_new _ _ _).2
      have n3 : Nb y6 b23 ZJ 44 := by rw [<- e1, <- e2]; exact (nb_new _ _ _).1
      have g3 := HAl.out _ hB
      rw [e1] at g3
      have hB := HBd.out _ _ hB hb
      have hT := hT.below hb
      have hA := hA.below hb
      have n4 := n4.below hb
      simp only [e1, e2]
      clear hb e1 e2
      refine ⟨HSw.out _ hB, ?_⟩
      try simp only [Act.put, pC, pD, pE, pF, pG, pH]
      exact dag_to hG (by kernel_rfl) (HLeaf.out b23 b24 ma mc V2 J2 _ hB hA hI n3 n4 g3 g4)
   ·as_aux_lemma =>
     refine keep_step rfl (by rfl) ?_
     unfold Oper.wp
     rw [exec_alloc 44 rfl _ HZJ.out.1]
     obtain ⟨b23, e1⟩ : ∃ b, y1.heap.size = b := ⟨_, rfl⟩
     obtain ⟨y7, e2⟩ : ∃ y, y1.alloc (.cells ZJ 44) = y := ⟨_, rfl⟩
     have hb : Below y1.heap.size y1 y7 := by rw [<- e2]; exact (nb_new _ _ _).2
     have n3 : Nb y7 b23 ZJ 44 := by rw [<- e1, <- e2]; exact (nb_new _ _ _).1
     have g3 := HAl.out _ hB
     rw [e1] at g3
     have hB := HBd.out _ _ hB hb
     have hT := hT.below hb
     simp only [e1, e2]
     clear hb e1 e2
     refine ⟨⟨HSw.out _ hB, fun _ => HVm.out.1 _ hB⟩, ?_⟩
     try simp only [Act.put, pC, pD, pE, pF, pG, pH]
     refine late_two (i := 4) (j := 11) (by kernel_rfl) ?_ ?_
     ·refine keep_step rfl (by rfl) ?_
      go_simp
      refine Calls.mono (HRa.out _ ma mc hB hT) ?_
      rintro e y8 ⟨V2, J2, rfl, hA, hI, hb⟩
      have hB := HBd.out _ _ hB hb
      have hT := hT.below hb
      have n3 := n3.below hb
      clear hb
      refine ⟨HSw.out _ hB, ?_⟩
      try simp only [Act.put, pC, pD, pE, pF, pG, pH]
      refine late_of _ _ _ _ (by kernel_rfl) ?_
      refine take_x (i := 5) (v := ?_) rfl ?_ (HSw.out _ hB) ?_
      rotate_left
      ·rintro w' -; go_simp <;> with_reducible rfl
      try simp only [Act.put, pC, pD, pE, pF, pG, pH]
      refine take_x (i := 6) (v := ?_) rfl ?_ (HSw.out _ hB) ?_
      rotate_left
      ·rintro w' -; go_simp <;> with_reducible rfl
      try simp only [Act.put, pC, pD, pE, pF, pG, pH]
      refine take_x (i := 7) (v := ?_) rfl ?_ (HSw.out _ hB) ?_
      rotate_left
      ·rintro w' -; go_simp <;> with_reducible rfl
      try simp only [Act.put, pC, pD, pE, pF, pG, pH]
      refine take_x (i := 8) (v := ?_) rfl ?_ (HSw.out _ hB) ?_
      rotate_left
      ·rintro w' -; go_simp <;> with_reducible rfl
      try simp only [Act.put, pC, pD, pE, pF, pG, pH]
      refine take_x (i := 9) (v := ?_) rfl ?_ (HSw.out _ hB) ?_
      rotate_left
      ·rintro w' -; go_simp <;> with_reducible rfl
      try simp only [Act.put, pC, pD, pE, pF, pG, pH]
      refine one_keep (i := 11) (by kernel_rfl) ?_
      refine keep_step rfl (by rfl) ?_
      unfold Oper.wp
      rw [exec_alloc 42 rfl _ zeroS13]
      obtain ⟨b24, e1⟩ : ∃ b, y8.heap.size = b := ⟨_, rfl⟩
      obtain ⟨y9, e2⟩ : ∃ y, y8.alloc (.cells (sa zs) 42) = y := ⟨_, rfl⟩
      have hb : Below y8.heap.size y8 y9 := by rw [<- e2]; exact (nb_new _ _ _).2
      have n4 : Nb y9 b24 (sa zs) 42 := by rw [<- e1, <- e2]; exact (nb_new _ _ _).1
      have g4 := HAl.out _ hB
      rw [e1] at g4
      have hB := HBd.out _ _ hB hb
      have hT := hT.below hb
      have hA := hA.below hb
      have n3 := n3.below hb
      simp only [e1, e2]
      clear hb e1 e2
      refine ⟨HSw.out _ hB, ?_⟩
      try simp only [Act.put, pC, pD, pE, pF, pG, pH]
      exact dag_to hG (by kernel_rfl) (HLeaf.out b23 b24 ma mc V2 J2 _ hB hA hI n3 n4 g3 g4)
     ·refine keep_step rfl (by rfl) ?_
      unfold Oper.wp
      rw [exec_alloc 42 rfl _ zeroS13]
      obtain ⟨b24, e1⟩ : ∃ b, y7.heap.size = b := ⟨_, rfl⟩
      obtain ⟨y10, e2⟩ : ∃ y, y7.alloc (.cells (sa zs) 42) = y := ⟨_, rfl⟩
      have hb : Below y7.heap.size y7 y10 := by rw [<- e2]; exact (nb_new _ _ _).2
      have n4 : Nb y10 b24 (sa zs) 42 := by rw [<- e1, <- e2]; exact (nb_new _ _ _).1
      have g4 := HAl.out _ hB
      rw [e1] at g4
      have hB := HBd.out _ _ hB hb
      have hT := hT.below hb
      have n3 := n3.below hb
      simp only [e1, e2]
      clear hb e1 e2
      refine ⟨⟨HSw.out _ hB, fun _ => HVm.out.1 _ hB⟩, ?_⟩
      try simp only [Act.put, pC, pD, pE, pF, pG, pH]
      refine late_one (i := 4) (by kernel_rfl) ?_
      refine keep_step rfl (by rfl) ?_
      go_simp
      refine Calls.mono (HRa.out _ ma mc hB hT) ?_
      rintro e y11 ⟨V2, J2, rfl, hA, hI, hb⟩
      have hB := HBd.out _ _ hB hb
      have hT := hT.below hb
      have n3 := n3.below hb
      have n4 := n4.below hb
      clear hb
      refine ⟨HSw.out _ hB, ?_⟩
      try simp only [Act.put, pC, pD, pE, pF, pG, pH]
      refine late_of _ _ _ _ (by kernel_rfl) ?_
      exact dag_to hG (by kernel_rfl) (HLeaf4.out b23 b24 ma mc V2 J2 _ hB hA hI n3 n4 g3 g4)
   ·as_aux_lemma =>
     refine keep_step rfl (by rfl) ?_
     unfold Oper.wp
     rw [exec_alloc 42 rfl _ zeroS13]
     obtain ⟨b24, e1⟩ : ∃ b, y1.heap.size = b := ⟨_, rfl⟩
     obtain ⟨y12, e2⟩ : ∃ y, y1.alloc (.cells (sa zs) 42) = y := ⟨_, rfl⟩
     have hb : Below y1.heap.size y1 y12 := by rw [<- e2]; exact (nb_new _ _ _).2
     have n4 : Nb y12 b24 (sa zs) 42 := by rw [<- e1, <- e2]; exact (nb_new _ _ _).1
     have g4 := HAl.out _ hB
     rw [e1] at g4
     have hB := HBd.out _ _ hB hb
     have hT := hT.below hb
     simp only [e1, e2]
     clear hb e1 e2
     refine ⟨⟨HSw.out _ hB, fun _ => HVm.out.1 _ hB⟩, ?_⟩
     try simp only [Act.put, pC, pD, pE, pF, pG, pH]
     refine late_two (i := 4) (j := 10) (by kernel_rfl) ?_ ?_
     ·refine keep_step rfl (by rfl) ?_
      go_simp
      refine Calls.mono (HRa.out _ ma mc hB hT) ?_
      rintro e y13 ⟨V2, J2, rfl, hA, hI, hb⟩
      have hB := HBd.out _ _ hB hb
      have hT := hT.below hb
      have n4 := n4.below hb
      clear hb
      refine ⟨HSw.out _ hB, ?_⟩
      try simp only [Act.put, pC, pD, pE, pF, pG, pH]
      refine late_of _ _ _ _ (by kernel_rfl) ?_
      refine take_x (i := 5) (v := ?_) rfl ?_ (HSw.out _ hB) ?_
      rotate_left
      ·rintro w' -; go_simp <;> with_reducible rfl
      try simp only [Act.put, pC, pD, pE, pF, pG, pH]
      refine take_x (i := 6) (v := ?_) rfl ?_ (HSw.out _ hB) ?_
      rotate_left
      ·rintro w' -; go_simp <;> with_reducible rfl
      try simp only [Act.put, pC, pD, pE, pF, pG, pH]
      refine take_x (i := 7) (v := ?_) rfl ?_ (HSw.out _ hB) ?_
      rotate_left
      ·rintro w' -; go_simp <;> with_reducible rfl
      try simp only [Act.put, pC, pD, pE, pF, pG, pH]
      refine take_x (i := 8) (v := ?_) rfl ?_ (HSw.out _ hB) ?_
      rotate_left
      ·rintro w' -; go_simp <;> with_reducible rfl
      try simp only [Act.put, pC, pD, pE, pF, pG, pH]
      refine take_x (i := 9) (v := ?_) rfl ?_ (HSw.out _ hB) ?_
      rotate_left
      ·rintro w' -; go_simp <;> with_reducible rfl
      try simp only [Act.put, pC, pD, pE, pF, pG, pH]
      refine one_keep (i := 10) (by kernel_rfl) ?_
      refine keep_step rfl (by rfl) ?_
      unfold Oper.wp
      rw [exec_alloc 44 rfl _ HZJ.out.1]
      obtain ⟨b23, e1⟩ : ∃ b, y13.heap.size = b := ⟨_, rfl⟩
      obtain ⟨y14, e2⟩ : ∃ y, y13.alloc (.cells ZJ 44) = y := ⟨_, rfl⟩
      have hb : Below y13.heap.size y13 y14 := by rw [<- e2]; exact (nb_new _ _ _).2
      have n3 : Nb y14 b23 ZJ 44 := by rw [<- e1, <- e2]; exact (nb_new _ _ _).1
      have g3 := HAl.out _ hB
      rw [e1] at g3
      have hB := HBd.out _ _ hB hb
      have hT := hT.below hb
      have hA := hA.below hb
      have n4 := n4.below hb
      simp only [e1, e2]
      clear hb e1 e2
      refine ⟨HSw.out _ hB, ?_⟩
      try simp only [Act.put, pC, pD, pE, pF, pG, pH]
      exact dag_to hG (by kernel_rfl) (HLeaf.out b23 b24 ma mc V2 J2 _ hB hA hI n3 n4 g3 g4)
     ·refine keep_step rfl (by rfl) ?_
      unfold Oper.wp
      rw [exec_alloc 44 rfl _ HZJ.out.1]
      obtain ⟨b23, e1⟩ : ∃ b, y12.heap.size = b := ⟨_, rfl⟩
      obtain ⟨y15, e2⟩ : ∃ y, y12.alloc (.cells ZJ 44) = y := ⟨_, rfl⟩
      have hb : Below y12.heap.size y12 y15 := by rw [<- e2]; exact (nb_new _ _ _).2
      have n3 : Nb y15 b23 ZJ 44 := by rw [<- e1, <- e2]; exact (nb_new _ _ _).1
      have g3 := HAl.out _ hB
      rw [e1] at g3
      have hB := HBd.out _ _ hB hb
      have hT := hT.below hb
      have n4 := n4.below hb
      simp only [e1, e2]
      clear hb e1 e2
      refine ⟨⟨HSw.out _ hB, fun _ => HVm.out.1 _ hB⟩, ?_⟩
      try simp only [Act.put, pC, pD, pE, pF, pG, pH]
      refine late_one (i := 4) (by kernel_rfl) ?_
      refine keep_step rfl (by rfl) ?_
      go_simp
      refine Calls.mono (HRa.out _ ma mc hB hT) ?_
      rintro e y16 ⟨V2, J2, rfl, hA, hI, hb⟩
      have hB := HBd.out _ _ hB hb
      have hT := hT.below hb
      have n3 := n3.below hb
      have n4 := n4.below hb
      clear hb
      refine ⟨HSw.out _ hB, ?_⟩
      try simp only [Act.put, pC, pD, pE, pF, pG, pH]
      refine late_of _ _ _ _ (by kernel_rfl) ?_
      exact dag_to hG (by kernel_rfl) (HLeaf4.out b23 b24 ma mc V2 J2 _ hB hA hI n3 n4 g3 g4)
 ·as_aux_lemma =>
   refine keep_step rfl (by rfl) ?_
   unfold Oper.wp
   rw [exec_alloc 44 rfl _ HZJ.out.1]
   obtain ⟨b23, e1⟩ : ∃ b, wd.heap.size = b := ⟨_, rfl⟩
   obtain ⟨y17, e2⟩ : ∃ y, wd.alloc (.cells ZJ 44) = y := ⟨_, rfl⟩
   have hb : Below wd.heap.size wd y17 := by rw [<- e2]; exact (nb_new _ _ _).2
   have n3 : Nb y17 b23 ZJ 44 := by rw [<- e1, <- e2]; exact (nb_new _ _ _).1
   have g3 := HAl.out _ hB
   rw [e1] at g3
   have hB := HBd.out _ _ hB hb
   simp only [e1, e2]
   clear hb e1 e2
   refine ⟨⟨HSw.out _ hB, fun _ => HVm.out.1 _ hB⟩, ?_⟩
   try simp only [Act.put, pC, pD, pE, pF, pG, pH]
   refine late_two (i := 3) (j := 11) (by kernel_rfl) ?_ ?_
   ·as_aux_lemma =>
     refine keep_step rfl (by rfl) ?_
     go_simp
     refine Calls.mono (HMo.out _ hB) ?_
     rintro e y18 ⟨ma, mc, rfl, hT, hb⟩
     have hB := HBd.out _ _ hB hb
     have n3 := n3.below hb
     clear hb
     refine ⟨⟨HSw.out _ hB, HVm.out.1 _ hB⟩, ?_⟩
     try simp only [Act.put, pC, pD, pE, pF, pG, pH]
     refine late_two (i := 4) (j := 11) (by kernel_rfl) ?_ ?_
     ·refine keep_step rfl (by rfl) ?_
      go_simp
      refine Calls.mono (HRa.out _ ma mc hB hT) ?_
      rintro e y19 ⟨V2, J2, rfl, hA, hI, hb⟩
      have hB := HBd.out _ _ hB hb
      have hT := hT.below hb
      have n3 := n3.below hb
      clear hb
      refine ⟨HSw.out _ hB, ?_⟩
      try simp only [Act.put, pC, pD, pE, pF, pG, pH]
      refine late_of _ _ _ _ (by kernel_rfl) ?_
      refine take_x (i := 5) (v := ?_) rfl ?_ (HSw.out _ hB) ?_
      rotate_left
      ·rintro w' -; go_simp <;> with_reducible rfl
      try simp only [Act.put, pC, pD, pE, pF, pG, pH]
      refine take_x (i := 6) (v := ?_) rfl ?_ (HSw.out _ hB) ?_
      rotate_left
      ·rintro w' -; go_simp <;> with_reducible rfl
      try simp only [Act.put, pC, pD, pE, pF, pG, pH]
      refine take_x (i := 7) (v := ?_) rfl ?_ (HSw.out _ hB) ?_
      rotate_left
      ·rintro w' -; go_simp <;> with_reducible rfl
      try simp only [Act.put, pC, pD, pE, pF, pG, pH]
      refine take_x (i := 8) (v := ?_) rfl ?_ (HSw.out _ hB) ?_
      rotate_left
      ·rintro w' -; go_simp <;> with_reducible rfl
      try simp only [Act.put, pC, pD, pE, pF, pG, pH]
      refine take_x (i := 9) (v := ?_) rfl ?_ (HSw.out _ hB) ?_
      rotate_left
      ·rintro w' -; go_simp <;> with_reducible rfl
      try simp only [Act.put, pC, pD, pE, pF, pG, pH]
      refine one_keep (i := 11) (by kernel_rfl) ?_
      refine keep_step rfl (by rfl) ?_
      unfold Oper.wp
      rw [exec_alloc 42 rfl _ zeroS13]
      obtain ⟨b24, e1⟩ : ∃ b, y19.heap.size = b := ⟨_, rfl⟩
      obtain ⟨y20, e2⟩ : ∃ y, y19.alloc (.cells (sa zs) 42) = y := ⟨_, rfl⟩
      have hb : Below y19.heap.size y19 y20 := by rw [<- e2]; exact (nb_new _ _ _).2
      have n4 : Nb y20 b24 (sa zs) 42 := by rw [<- e1, <- e2]; exact (nb_new _ _ _).1
      have g4 := HAl.out _ hB
      rw [e1] at g4
      have hB := HBd.out _ _ hB hb
      have hT := hT.below hb
      have hA := hA.below hb
      have n3 := n3.below hb
      simp only [e1, e2]
      clear hb e1 e2
      refine ⟨HSw.out _ hB, ?_⟩
      try simp only [Act.put, pC, pD, pE, pF, pG, pH]
      exact dag_to hG (by kernel_rfl) (HLeaf.out b23 b24 ma mc V2 J2 _ hB hA hI n3 n4 g3 g4)
     ·refine keep_step rfl (by rfl) ?_
      unfold Oper.wp
      rw [exec_alloc 42 rfl _ zeroS13]
      obtain ⟨b24, e1⟩ : ∃ b, y18.heap.size = b := ⟨_, rfl⟩
      obtain ⟨y21, e2⟩ : ∃ y, y18.alloc (.cells (sa zs) 42) = y := ⟨_, rfl⟩
      have hb : Below y18.heap.size y18 y21 := by rw [<- e2]; exact (nb_new _ _ _).2
      have n4 : Nb y21 b24 (sa zs) 42 := by rw [<- e1, <- e2]; exact (nb_new _ _ _).1
      have g4 := HAl.out _ hB
      rw [e1] at g4
      have hB := HBd.out _ _ hB hb
      have hT := hT.below hb
      have n3 := n3.below hb
      simp only [e1, e2]
      clear hb e1 e2
      refine ⟨⟨HSw.out _ hB, fun _ => HVm.out.1 _ hB⟩, ?_⟩
      try simp only [Act.put, pC, pD, pE, pF, pG, pH]
      refine late_one (i := 4) (by kernel_rfl) ?_
      refine keep_step rfl (by rfl) ?_
      go_simp
      refine Calls.mono (HRa.out _ ma mc hB hT) ?_
      rintro e y22 ⟨V2, J2, rfl, hA, hI, hb⟩
      have hB := HBd.out _ _ hB hb
      have hT := hT.below hb
      have n3 := n3.below hb
      have n4 := n4.below hb
      clear hb
      refine ⟨HSw.out _ hB, ?_⟩
      try simp only [Act.put, pC, pD, pE, pF, pG, pH]
      refine late_of _ _ _ _ (by kernel_rfl) ?_
      exact dag_to hG (by kernel_rfl) (HLeaf4.out b23 b24 ma mc V2 J2 _ hB hA hI n3 n4 g3 g4)
   ·as_aux_lemma =>
     refine keep_step rfl (by rfl) ?_
     unfold Oper.wp
     rw [exec_alloc 42 rfl _ zeroS13]
     obtain ⟨b24, e1⟩ : ∃ b, y17.heap.size = b := ⟨_, rfl⟩
     obtain ⟨y23, e2⟩ : ∃ y, y17.alloc (.cells (sa zs) 42) = y := ⟨_, rfl⟩
     have hb : Below y17.heap.size y17 y23 := by rw [<- e2]; exact (nb_new _ _ _).2
     have n4 : Nb y23 b24 (sa zs) 42 := by rw [<- e1, <- e2]; exact (nb_new _ _ _).1
     have g4 := HAl.out _ hB
     rw [e1] at g4
     have hB := HBd.out _ _ hB hb
     have n3 := n3.below hb
     simp only [e1, e2]
     clear hb e1 e2
     refine ⟨⟨HSw.out _ hB, fun _ => HVm.out.1 _ hB⟩, ?_⟩
     try simp only [Act.put, pC, pD, pE, pF, pG, pH]
     refine late_one (i := 3) (by kernel_rfl) ?_
     refine keep_step rfl (by rfl) ?_
     go_simp
     refine Calls.mono (HMo.out _ hB) ?_
     rintro e y24 ⟨ma, mc, rfl, hT, hb⟩
     have hB := HBd.out _ _ hB hb
     have n3 := n3.below hb
     have n4 := n4.below hb
     clear hb
     refine ⟨⟨HSw.out _ hB, HVm.out.1 _ hB⟩, ?_⟩
     try simp only [Act.put, pC, pD, pE, pF, pG, pH]
     refine late_one (i := 4) (by kernel_rfl) ?_
     refine keep_step rfl (by rfl) ?_
     go_simp
     refine Calls.mono (HRa.out _ ma mc hB hT) ?_
     rintro e y25 ⟨V2, J2, rfl, hA, hI, hb⟩
     have hB := HBd.out _ _ hB hb
     have hT := hT.below hb
     have n3 := n3.below hb
     have n4 := n4.below hb
     clear hb
     refine ⟨HSw.out _ hB, ?_⟩
     try simp only [Act.put, pC, pD, pE, pF, pG, pH]
     refine late_of _ _ _ _ (by kernel_rfl) ?_
     exact dag_to hG (by kernel_rfl) (HLeaf4.out b23 b24 ma mc V2 J2 _ hB hA hI n3 n4 g3 g4)
 ·as_aux_lemma =>
   refine keep_step rfl (by rfl) ?_
   unfold Oper.wp
   rw [exec_alloc 42 rfl _ zeroS13]
   obtain ⟨b24, e1⟩ : ∃ b, wd.heap.size = b := ⟨_, rfl⟩
   obtain ⟨y26, e2⟩ : ∃ y, wd.alloc (.cells (sa zs) 42) = y := ⟨_, rfl⟩
   have hb : Below wd.heap.size wd y26 := by rw [<- e2]; exact (nb_new _ _ _).2
   have n4 : Nb y26 b24 (sa zs) 42 := by rw [<- e1, <- e2]; exact (nb_new _ _ _).1
   have g4 := HAl.out _ hB
   rw [e1] at g4
   have hB := HBd.out _ _ hB hb
   simp only [e1, e2]
   clear hb e1 e2
   refine ⟨⟨HSw.out _ hB, fun _ => HVm.out.1 _ hB⟩, ?_⟩
   try simp only [Act.put, pC, pD, pE, pF, pG, pH]
   refine late_two (i := 3) (j := 10) (by kernel_rfl) ?_ ?_
   ·as_aux_lemma =>
     refine keep_step rfl (by rfl) ?_
     go_simp
     refine Calls.mono (HMo.out _ hB) ?_
     rintro e y27 ⟨ma, mc, rfl, hT, hb⟩
     have hB := HBd.out _ _ hB hb
     have n4 := n4.below hb
     clear hb
     refine ⟨⟨HSw.out _ hB, HVm.out.1 _ hB⟩, ?_⟩
     try simp only [Act.put, pC, pD, pE, pF, pG, pH]
     refine late_two (i := 4) (j := 10) (by kernel_rfl) ?_ ?_
     ·refine keep_step rfl (by rfl) ?_
      go_simp
      refine Calls.mono (HRa.out _ ma mc hB hT) ?_
      rintro e y28 ⟨V2, J2, rfl, hA, hI, hb⟩
      have hB := HBd.out _ _ hB hb
      have hT := hT.below hb
      have n4 := n4.below hb
      clear hb
      refine ⟨HSw.out _ hB, ?_⟩
      try simp only [Act.put, pC, pD, pE, pF, pG, pH]
      refine late_of _ _ _ _ (by kernel_rfl) ?_
      refine take_x (i := 5) (v := ?_) rfl ?_ (HSw.out _ hB) ?_
      rotate_left
      ·rintro w' -; go_simp <;> with_reducible rfl
      try simp only [Act.put, pC, pD, pE, pF, pG, pH]
      refine take_x (i := 6) (v := ?_) rfl ?_ (HSw.out _ hB) ?_
      rotate_left
      ·rintro w' -; go_simp <;> with_reducible rfl
      try simp only [Act.put, pC, pD, pE, pF, pG, pH]
      refine take_x (i := 7) (v := ?_) rfl ?_ (HSw.out _ hB) ?_
      rotate_left
      ·rintro w' -; go_simp <;> with_reducible rfl
      try simp only [Act.put, pC, pD, pE, pF, pG, pH]
      refine take_x (i := 8) (v := ?_) rfl ?_ (HSw.out _ hB) ?_
      rotate_left
      ·rintro w' -; go_simp <;> with_reducible rfl
      try simp only [Act.put, pC, pD, pE, pF, pG, pH]
      refine take_x (i := 9) (v := ?_) rfl ?_ (HSw.out _ hB) ?_
      rotate_left
      ·rintro w' -; go_simp <;> with_reducible rfl
      try simp only [Act.put, pC, pD, pE, pF, pG, pH]
      refine one_keep (i := 10) (by kernel_rfl) ?_
      refine keep_step rfl (by rfl) ?_
      unfold Oper.wp
      rw [exec_alloc 44 rfl _ HZJ.out.1]
      obtain ⟨b23, e1⟩ : ∃ b, y28.heap.size = b := ⟨_, rfl⟩
      obtain ⟨y29, e2⟩ : ∃ y, y28.alloc (.cells ZJ 44) = y := ⟨_, rfl⟩
      have hb : Below y28.heap.size y28 y29 := by rw [<- e2]; exact (nb_new _ _ _).2
      have n3 : Nb y29 b23 ZJ 44 := by rw [<- e1, <- e2]; exact (nb_new _ _ _).1
      have g3 := HAl.out _ hB
      rw [e1] at g3
      have hB := HBd.out _ _ hB hb
      have hT := hT.below hb
      have hA := hA.below hb
      have n4 := n4.below hb
      simp only [e1, e2]
      clear hb e1 e2
      refine ⟨HSw.out _ hB, ?_⟩
      try simp only [Act.put, pC, pD, pE, pF, pG, pH]
      exact dag_to hG (by kernel_rfl) (HLeaf.out b23 b24 ma mc V2 J2 _ hB hA hI n3 n4 g3 g4)
     ·refine keep_step rfl (by rfl) ?_
      unfold Oper.wp
      rw [exec_alloc 44 rfl _ HZJ.out.1]
      obtain ⟨b23, e1⟩ : ∃ b, y27.heap.size = b := ⟨_, rfl⟩
      obtain ⟨y30, e2⟩ : ∃ y, y27.alloc (.cells ZJ 44) = y := ⟨_, rfl⟩
      have hb : Below y27.heap.size y27 y30 := by rw [<- e2]; exact (nb_new _ _ _).2
      have n3 : Nb y30 b23 ZJ 44 := by rw [<- e1, <- e2]; exact (nb_new _ _ _).1
      have g3 := HAl.out _ hB
      rw [e1] at g3
      have hB := HBd.out _ _ hB hb
      have hT := hT.below hb
      have n4 := n4.below hb
      simp only [e1, e2]
      clear hb e1 e2
      refine ⟨⟨HSw.out _ hB, fun _ => HVm.out.1 _ hB⟩, ?_⟩
      try simp only [Act.put, pC, pD, pE, pF, pG, pH]
      refine late_one (i := 4) (by kernel_rfl) ?_
      refine keep_step rfl (by rfl) ?_
      go_simp
      refine Calls.mono (HRa.out _ ma mc hB hT) ?_
      rintro e y31 ⟨V2, J2, rfl, hA, hI, hb⟩
      have hB := HBd.out _ _ hB hb
      have hT := hT.below hb
      have n3 := n3.below hb
      have n4 := n4.below hb
      clear hb
      refine ⟨HSw.out _ hB, ?_⟩
      try simp only [Act.put, pC, pD, pE, pF, pG, pH]
      refine late_of _ _ _ _ (by kernel_rfl) ?_
      exact dag_to hG (by kernel_rfl) (HLeaf4.out b23 b24 ma mc V2 J2 _ hB hA hI n3 n4 g3 g4)
   ·as_aux_lemma =>
     refine keep_step rfl (by rfl) ?_
     unfold Oper.wp
     rw [exec_alloc 44 rfl _ HZJ.out.1]
     obtain ⟨b23, e1⟩ : ∃ b, y26.heap.size = b := ⟨_, rfl⟩
     obtain ⟨y32, e2⟩ : ∃ y, y26.alloc (.cells ZJ 44) = y := ⟨_, rfl⟩
     have hb : Below y26.heap.size y26 y32 := by rw [<- e2]; exact (nb_new _ _ _).2
     have n3 : Nb y32 b23 ZJ 44 := by rw [<- e1, <- e2]; exact (nb_new _ _ _).1
     have g3 := HAl.out _ hB
     rw [e1] at g3
     have hB := HBd.out _ _ hB hb
     have n4 := n4.below hb
     simp only [e1, e2]
     clear hb e1 e2
     refine ⟨⟨HSw.out _ hB, fun _ => HVm.out.1 _ hB⟩, ?_⟩
     try simp only [Act.put, pC, pD, pE, pF, pG, pH]
     refine late_one (i := 3) (by kernel_rfl) ?_
     refine keep_step rfl (by rfl) ?_
     go_simp
     refine Calls.mono (HMo.out _ hB) ?_
     rintro e y33 ⟨ma, mc, rfl, hT, hb⟩
     have hB := HBd.out _ _ hB hb
     have n3 := n3.below hb
     have n4 := n4.below hb
     clear hb
     refine ⟨⟨HSw.out _ hB, HVm.out.1 _ hB⟩, ?_⟩
     try simp only [Act.put, pC, pD, pE, pF, pG, pH]
     refine late_one (i := 4) (by kernel_rfl) ?_
     refine keep_step rfl (by rfl) ?_
     go_simp
     refine Calls.mono (HRa.out _ ma mc hB hT) ?_
     rintro e y34 ⟨V2, J2, rfl, hA, hI, hb⟩
     have hB := HBd.out _ _ hB hb
     have hT := hT.below hb
     have n3 := n3.below hb
     have n4 := n4.below hb
     clear hb
     refine ⟨HSw.out _ hB, ?_⟩
     try simp only [Act.put, pC, pD, pE, pF, pG, pH]
     refine late_of _ _ _ _ (by kernel_rfl) ?_
     exact dag_to hG (by kernel_rfl) (HLeaf4.out b23 b24 ma mc V2 J2 _ hB hA hI n3 n4 g3 g4)
end Go.Proofs.YtjdjbjedfbmgpaaGreatDoor
