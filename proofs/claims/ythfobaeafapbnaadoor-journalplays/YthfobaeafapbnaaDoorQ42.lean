/-
 JournalPlays: a step: whatever the act is, code and reference do the same.
-/
import Derived.Test.YthfobaeafapbnaaDoorQ01
import Derived.Deep.Cut
import Derived.Deep.CutRange
import Derived.Deep.CutBlock
import Derived.Test.YthfobaeafapbnaaDoorQ41
set_option linter.unusedVariables false
set_option maxRecDepth 100000
namespace Go.Proofs.YthfobaeafapbnaaDoor
open Go.RowKit Plain
attribute [local go_sem] Oper.semAt_some
set_option maxHeartbeats 32000000 in
theorem step_v (x0 : World) (J D k : Nat) (j : Jt) (d : Disk.Dk) (r : Disk.Rd) (V : List Value) (s : Jst) (A : Ac) (w : World) (hS : Sc x0 w J D j d) (hv : Disk.Rv w (.agg V.toArray) r) (hJ : Disk.J k d r) (hs : OkS s) (hA : OkA x0 A) (hk : k < 800000) :
  Calls Tryd.prog 10 #[.pointer (some ⟨D, 0, none⟩), .pointer (some ⟨J, 0, none⟩), .agg (pqs V (rqj j) (scs s) (scs s)).toArray, .agg (acs A).toArray] w fun e z => StK x0 w J D k d e z := by
 obtain ⟨S, hSz⟩ : ∃ S, w.heap.size = S := ⟨_, rfl⟩
 obtain ⟨PA, hPA⟩ : ∃ L, pqs V (rqj j) (scs s) (scs s) = L := ⟨_, rfl⟩
 obtain ⟨AA, hAA⟩ : ∃ L, acs A = L := ⟨_, rfl⟩
 obtain ⟨ZP, hZP⟩ : ∃ L, ZPl.toArray = L := ⟨_, rfl⟩
 obtain ⟨w1, hw1⟩ : ∃ w1, ((w.alloc (.cells PA.toArray 49)).alloc (.cells AA.toArray 53)).alloc (.cells ZP 49) = w1 := ⟨_, rfl⟩
 have hs1 : (w.alloc (.cells PA.toArray 49)).heap.size = S + 1 := by simp [hSz]
 have hs2 : ((w.alloc (.cells PA.toArray 49)).alloc (.cells AA.toArray 53)).heap.size = S + 2 := by simp [hSz]
 have hb1 : Below w.heap.size w w1 := by rw [<- hw1]; exact (((Below.refl _ _).alloc (Nat.le_refl _) _).alloc (by simp) _).alloc (by simp; omega) _
 have HX1 : Box (Sbx x0 w w1 S J D j d A PA) := ⟨hS.below hb1, by rw [<- hw1]; exact al_old (al_old (al_at hSz)), by rw [<- hw1, hAA]; exact al_old (al_at hs1), by rw [<- hw1, hZP]; exact al_at hs2, Kj.below hb1, by rw [<- hSz]; exact hS.bel.size, hSz⟩
 have HR1 : Box (Disk.Rv w1 (.agg V.toArray) r) := ⟨hv.below hb1⟩
 have HZ : Box ((Tryd.prog.info? 49).map (·.zero) = some (some (.agg ZP))) := ⟨by rw [<- hZP]; exact zeroP⟩
 have HA : Box (OkA x0 A) := ⟨hA⟩
 have HJ : Box (Disk.J k d r /\ k < 800000 /\ OkS s /\ V.length = 6 /\ pqs V (rqj j) (scs s) (scs s) = PA /\ ZPl.toArray = ZP) := ⟨hJ, hk, hs, rv_len hv, hPA, hZP⟩
 obtain ⟨c0, -, -, -, -, -, -⟩ := HX1.out.arr hA.st
 obtain ⟨q, hq, hq7⟩ := low3 A.kind
 have HQ : Box (q <= 7) := ⟨hq7⟩
 obtain ⟨kd, hkd⟩ : ∃ x, A.kind = x := ⟨_, rfl⟩
 rw [hkd] at c0 hq
 rw [hPA, hAA]
 clear hS hv hJ hs hA hk hPA hAA hZP hb1 hkd
 go_enter Tryd.func10, Tryd.ntmps10
 go_upto_region 1 with (refine atAlloc _ ?_; refine wpList_run rfl _ _ (exec_alloc 49 rfl _ HZ.out) ?_)
 (try rw [hs2])
 (try rw [hs1])
 (try simp only [hSz, hw1])
 clear hs1 hs2 hw1 hSz
 go_upto_if 21 with fail
 clear c0 hq
 obtain ⟨b2, hb2⟩ : ∃ b, decide (q <= 2) = b := ⟨_, rfl⟩
 go_cut [21] from 22 (fun b wx => b = .bool b2 /\ wx = w1)
 case first =>
  by_cases h0 : q = 0
  ·have e0 : ((q : Int) == 0) = true := by simp [h0]
   go_wp2
   go_meet
   exact ⟨by rw [<- hb2]; simp [h0], rfl⟩
  ·have e0 : ((q : Int) == 0) = false := by simp; omega
   by_cases h1 : q = 1
   ·have e1 : ((q : Int) == 1) = true := by simp; omega
    go_wp2
    go_meet
    exact ⟨by rw [<- hb2]; simp; omega, rfl⟩
   ·have e1 : ((q : Int) == 1) = false := by simp; omega
    go_wp2
    go_meet
    exact ⟨by congr 1; rw [<- hb2, Bool.eq_iff_iff]; simp; omega, rfl⟩
 case rest =>
  obtain ⟨rfl, rfl⟩ := hcut
  have HB2 : Box (decide (q <= 2) = b2) := ⟨hb2⟩
  clear hb2 hq7
  obtain rfl | rfl : b2 = true ∨ b2 = false := by cases b2 <;> simp
  ·clear HB2
   obtain ⟨-, c1, c2, -, -, -, -⟩ := HX1.out.arr HA.out.st
   obtain ⟨n, hn⟩ : ∃ n, A.L.length = n := ⟨_, rfl⟩
   have HN : Box (A.L.length = n /\ n <= 8) := ⟨hn, by have := HA.out.l8; omega⟩
   have HIM : Box (Calls Tryd.prog 22 #[.slice A.la n A.lc, .bool A.short] wc fun e x2 => ∃ la lc XI, e = .returned (.slice la n lc) /\ XI.length = n /\ OImgs x2 wc.heap.size (.slice la XI.length lc) XI /\ (∀ x ∈ XI.map pl, Byt x.2 /\ N64 x.1) /\ (∀ m ∈ XI, m.bl <= 100000) /\ Below wc.heap.size wc x2) := ⟨by
    have hi := HA.out.im wc HX1.out.sc.bel
    have := images_any A.la A.lc A.L A.short wc hi (by have := HA.out.l8; omega)
    rw [hn] at this
    refine this.mono ?_
    rintro e x2 ⟨v, XI, rfl, hig⟩
    have hlX : XI.length = n := hig.len
    have hig2 : Ig wc x2 A.short A.L A.L.length v XI := by rw [hn]; exact hig
    have hB : ∀ m ∈ A.L, Byt m.bs := fun m hm => (hi.byt m hm).1.2.1
    have hok := img_okS hig2 hB
    obtain ⟨la, lc, rfl⟩ := own_form2 hig.im.row
    exact ⟨la, lc, XI, by rw [hlX], hlX, hig.im, hok.1, hok.2, hig.bel⟩⟩
   rw [hn] at c1
   go_upto_region 6 with (go_at_call 22; refine HIM.out.mono ?_; rintro e x2 ⟨la, lc, XI, rfl, g1, g2, g3, g4, g5⟩; have H2 : Box (XI.length = n /\ OImgs x2 wc.heap.size (.slice la XI.length lc) XI /\ (∀ x ∈ XI.map pl, Byt x.2 /\ N64 x.1) /\ (∀ m ∈ XI, m.bl <= 100000) /\ Below wc.heap.size wc x2) := ⟨g1, g2, g3, g4, g5⟩; clear g1 g2 g3 g4 g5)
   clear HIM c1 c2 hn
   obtain ⟨P, hP⟩ : ∃ P, XI.map pl = P := ⟨_, rfl⟩
   have HP : Box (XI.map pl = P /\ P.length = n /\ ∀ x ∈ P, Byt x.2 /\ N64 x.1) := ⟨hP, by rw [<- hP, List.length_map]; exact H2.out.1, by rw [<- hP]; exact H2.out.2.2.1⟩
   have HX2 : Box (Sbx x0 w x2 S J D j d A PA /\ Disk.Rv x2 (.agg V.toArray) r) := ⟨HX1.out.below H2.out.2.2.2.2, HR1.out.below H2.out.2.2.2.2⟩
   obtain ⟨Y, hY⟩ : ∃ Y, appM j d P = Y := ⟨_, rfl⟩
   have hAG := apG j HX2.out.1.sc.ok d P (by rw [HP.out.2.1]; have := HN.out; omega)
   rw [hY] at hAG
   have HRA : Box (∀ (x : World) (v : Value) (a : Option Addr) (cap : Nat), Disk.Rv x v r -> Tb x a 2 ic P -> Calls Tryd.prog 23 #[v, .agg (rqj j).toArray, .slice a n cap] x fun e z => RaG x j Y (k + n) e z) := ⟨fun x v a cap hv hT => by
    have := rappend_all sealOk HJ.out.1 j HX2.out.1.sc.ok HX2.out.1.sc.fit P (by rw [HP.out.2.1]; have := HN.out; omega) HP.out.2.2 (by rw [HP.out.2.1]; have := HN.out; have := HJ.out.2.1; omega) x v a cap hv hT
    rw [hY, HP.out.2.1] at this
    exact this⟩
   have HAP : Box (Calls Tryd.prog 16 #[.pointer (some ⟨J, 0, none⟩), .slice la n lc] x2 fun e z => e = .returned (.tuple #[.agg (sa Y.2.2.2), .int .i64 Y.2.2.1]) /\ Sc x0 z J D { j with nx := Y.2.1 } Y.1 /\ Kj x2 z) := ⟨by
    have := append_s HX2.out.1.sc HJ.out.1 (by have := HJ.out.2.1; omega) la lc XI H2.out.2.1.imgs (by rw [H2.out.1]; have := HN.out; omega) H2.out.2.2.2.1
    rw [H2.out.1, hP, hY] at this
    exact this⟩
   obtain ⟨y1, y2, y3, y4⟩ := Y
   dsimp only at hAG HRA HAP
   unfold RaG at HRA
   dsimp only at HRA
   have HY : Box (OkS y4 /\ y1.n = d.n) := ⟨hAG.okS, hAG.dn⟩
   obtain ⟨SY, HSY⟩ : ∃ A, Box (sa y4 = A) := ⟨_, ⟨rfl⟩⟩
   obtain ⟨J1, hJ1⟩ : ∃ L, rqj j = L := ⟨_, rfl⟩
   obtain ⟨J2, hJ2⟩ : ∃ L, rqj { j with nx := y2 } = L := ⟨_, rfl⟩
   have hJ2' : rq j.key (j.first : Int) (j.size : Int) j.st y2 j.lim = J2 := hJ2
   have lJ2 : J2.length = 70 := by rw [<- hJ2']; exact len_rq _ _ _ _ _ _ HX2.out.1.sc.ok.key HX2.out.1.sc.ok.st
   have lJ1 : J1.length = 70 := by rw [<- hJ1]; exact len_rqj HX2.out.1.sc.ok
   have HJJ : Box (rqj j = J1 /\ J2.length = 70 /\ J2.toArray.all (·.oneCell') = true) := ⟨hJ1, lJ2, by rw [<- hJ2']; exact all_rq _ _ _ _ _ _⟩
   have HJ2 : Box (rqj { j with nx := y2 } = J2 /\ J1.length = 70) := ⟨hJ2, lJ1⟩
   rw [hJ1, hJ2', HSY.out] at HRA
   rw [HSY.out] at HAP
   have HIS : Box ((Tryd.prog.info? 26).map (·.size) = some SY.size /\ (sa zs).size = SY.size /\ SY.all (·.oneCell') = true /\ (Tryd.prog.info? 42).map (·.size) = some SY.size) := ⟨by rw [<- HSY.out, size_sa HY.out.1]; exact infoSt, by rw [<- HSY.out, size_sa HY.out.1, size_sa okS_zs], by rw [<- HSY.out]; exact all_sa y4, by rw [<- HSY.out, size_sa HY.out.1]; exact infoS13⟩
   obtain ⟨ZD, hZD⟩ : ∃ ZD, (Disk.rv 0 (.slice none 0 0) (.slice none 0 0) 0 false (.slice none 0 0)).toArray = ZD := ⟨_, rfl⟩
   obtain ⟨ZJ, hZJ⟩ : ∃ ZJ, (rq z32 0 0 zs 0 0).toArray = ZJ := ⟨_, rfl⟩
   have HZZ : Box (((Tryd.prog.info? 36).map (·.zero) = some (some (.agg ZD)) /\ ZD.size = 6) /\ ((Tryd.prog.info? 44).map (·.zero) = some (some (.agg ZJ)) /\ ZJ.size = 70)) := ⟨⟨by rw [<- hZD]; exact Disk.zeroD, by rw [<- hZD]; rfl⟩, ⟨by rw [<- hZJ]; exact zeroRj, by rw [<- hZJ, List.size_toArray, len_rq _ _ _ _ _ _ len_z32 okS_zs]⟩⟩
   have HI2 : Box ((Tryd.prog.info? 36).map (·.size) = some V.length /\ (Tryd.prog.info? 44).map (·.size) = some J1.length) := ⟨by rw [HJ.out.2.2.2.1]; exact Disk.infoD, by rw [lJ1]; exact infoRj⟩
   clear hAG hY hJ1 hJ2 hJ2' lJ1 lJ2 hZD hZJ hP
   go_upto_region 7 with (first
    | (go_at_call 16; refine HAP.out.mono ?_; rintro e x4 ⟨rfl, q1, q2⟩; have H4 : Box (Sc x0 x4 J D { j with nx := y2 } y1 /\ Kj x2 x4) := ⟨q1, q2⟩; clear q1 q2)
    | (refine atAlloc _ ?_; refine wpList_run rfl _ _ (exec_alloc 26 rfl _ zeroSt) ?_)
    | (refine atStore _ ?_; refine wpList_newRow x4 (sa zs) SY HIS.out.1 HIS.out.2.1 HIS.out.2.2.1 rfl _ _ rfl rfl rfl rfl ?_; intro x5 h5 hb5; have H5 : Box (x5.heap[x4.heap.size]? = some (.cells SY 26 (0, 0)) /\ Below x4.heap.size x4 x5) := ⟨h5, hb5⟩; clear h5 hb5))
   obtain ⟨Bt, hBt⟩ : ∃ Bt, x4.heap.size = Bt := ⟨_, rfl⟩
   (try simp only [hBt])
   rw [hBt] at H5
   have H6 : Box (Sbx x0 w x5 S J D { j with nx := y2 } y1 A PA /\ Disk.Rv x5 (.agg V.toArray) r /\ OImgs x5 wc.heap.size (.slice la XI.length lc) XI /\ x5.heap[Bt]? = some (.cells SY 26 (0, 0)) /\ S < Bt) := ⟨by
    have hb := H5.out.2
    rw [<- hBt] at hb
    have h4 := HX2.out.1.on H4.out.1 H4.out.2
    have hz := (Array.getElem?_eq_some_iff.1 h4.z).1
    exact ⟨h4.below hb, (H4.out.2.rv HX2.out.2).below hb, ((H4.out.2.trans (Kj.below hb)).imgs H2.out.2.1), H5.out.1, by omega⟩⟩
   clear hBt HAP H4 H5 HX2 HX1 HR1
   have HMo : Box (∀ y, Below x5.heap.size x5 y -> Calls Tryd.prog 24 #[.slice la n lc] y fun e z => ∃ ma mc, e = .returned (.slice ma n mc) /\ Tb z ma 2 ic P /\ Below y.heap.size y z) := ⟨fun y hy => by
    have ho : OImgs y wc.heap.size (.slice la XI.length lc) XI := (Kj.below hy).imgs H6.out.2.2.1
    have := modelOf_any la lc XI y ho.imgs (by rw [H2.out.1]; have := HN.out; omega)
    rw [H2.out.1] at this
    refine this.mono ?_
    rintro e z ⟨v, rfl, hm⟩
    have hrow := hm.row
    rw [List.take_of_length_le (by rw [List.length_map, H2.out.1]; exact Nat.le_refl _), HP.out.1] at hrow
    obtain ⟨ma, mc, rfl⟩ := own_form2 hrow
    exact ⟨ma, mc, rfl, own_tb (fun _ => rfl) hrow HP.out.2.1, hm.bel⟩⟩
   have HRo : Box (∀ y ma mc, Below x5.heap.size x5 y -> Tb y ma 2 ic P -> Calls Tryd.prog 23 #[.agg V.toArray, .agg J1.toArray, .slice ma n mc] y fun e z => ∃ (V2 : List Value) (r2 : Disk.Rd), e = .returned (.tuple #[.agg V2.toArray, .agg J2.toArray, .agg SY, .int .i64 y3]) /\ Disk.Rv z (.agg V2.toArray) r2 /\ (Disk.J (k + n) y1 r2 /\ V2.length = 6 /\ V2.toArray.all (·.oneCell') = true) /\ Below y.heap.size y z) := ⟨fun y ma mc hy hT => by
    refine (HRA.out y _ ma mc ((H6.out.2.1).below hy) hT).mono ?_
    rintro e z ⟨v', r', rfl, hv, hj, hb⟩
    obtain ⟨V2, rfl, l2, a2⟩ := rv_form hv
    exact ⟨V2, r', rfl, hv, ⟨hj, l2, a2⟩, hb⟩⟩
   have HRg : Box (∀ y, Below x5.heap.size x5 y -> y.rangeAt S 0 V /\ y.rangeAt S 6 J1) := ⟨fun y hy => by
    have hp := (H6.out.1.below hy).p
    rw [<- HJ.out.2.2.2.2.1] at hp
    exact ⟨prange0 hp, by rw [<- HJJ.out.1]; exact prange1 hp HJ.out.2.2.2.1⟩⟩
   rename_i K7 hK7
   refine begin_keep (S := fun x => Below x5.heap.size x5 x) (by kernel_rfl) (fun wd hwd => ?_)
   have hS : Below x5.heap.size x5 wd := by rw [hwd]; exact (Below.refl _ _).drew
   clear hwd
   refine take_x (i := 0) (v := ?_) rfl ?_ hS ?_
   rotate_left
   ·rintro w' -; go_simp <;> with_reducible rfl
   try simp only [Act.put, pC, pD, pE, pF, pG]
   refine take_x (i := 1) (v := .agg V.toArray) rfl (fun w' hLat => exec_load_mid 36 _ (.tmp 37) rfl Tryd.underlying36 rfl S 0 rfl V HI2.out.1 ((HRg.out w' hLat).1)) hS ?_
   try simp only [Act.put, pC, pD, pE, pF, pG, pH]
   refine take_x (i := 2) (v := ?_) rfl ?_ hS ?_
   rotate_left
   ·rintro w' -; go_simp <;> with_reducible rfl
   try simp only [Act.put, pC, pD, pE, pF, pG, pH]
   refine take_x (i := 3) (v := .agg J1.toArray) rfl (fun w' hLat => exec_load_mid 44 _ (.tmp 39) rfl Tryd.underlying44 rfl S 6 rfl J1 HI2.out.2 ((HRg.out w' hLat).2)) hS ?_
   try simp only [Act.put, pC, pD, pE, pF, pG, pH]
   refine take_x (i := 4) (v := ?_) rfl ?_ hS ?_
   rotate_left
   ·rintro w' -; go_simp <;> with_reducible rfl
   try simp only [Act.put, pC, pD, pE, pF, pG, pH]
   refine dag_in3 (fun G hG L0 hA0 => ?_)
   have HR7 : Box (∀ (ma : Option Addr) (mc : Nat) (V2 : List Value) (r2 : Disk.Rd) (b13 b14 b15 : Nat) (z : World), Below x5.heap.size x5 z -> Disk.Rv z (.agg V2.toArray) r2 -> (Disk.J (k + n) y1 r2 /\ V2.length = 6 /\ V2.toArray.all (·.oneCell') = true) -> z.heap[b13]? = some (.cells V2.toArray 36 (0, 0)) -> z.heap[b14]? = some (.cells J2.toArray 44 (0, 0)) -> z.heap[b15]? = some (.cells SY 42 (0, 0)) -> x5.heap.size <= b13 -> x5.heap.size <= b14 -> x5.heap.size <= b15 -> K7 { tmps := (((((((((((L0.set 42 (Value.slice ma n mc)).set 43 (Value.tuple #[Value.agg V2.toArray, Value.agg J2.toArray, Value.agg SY, Value.int IntKind.i64 y3])).set 36 (Value.tuple #[Value.agg V2.toArray, Value.agg J2.toArray, Value.agg SY, Value.int IntKind.i64 y3])).set 44 (Value.agg V2.toArray)).set 45 (Value.agg J2.toArray)).set 46 (Value.agg SY)).set 47 (Value.int IntKind.i64 y3)).set 13 (Value.pointer (some { block := b13, off := 0 }))).set 14 (Value.pointer (some { block := b14, off := 0 }))).set 15 (Value.pointer (some { block := b15, off := 0 }))).set 16 (Value.int IntKind.i64 y3)).toArray, defers := [] } z) := ⟨by
    intro ma mc V2 r2 b13 b14 b15 z hbz hrv hQ k13 k14 k15 g13 g14 g15
    refine hK7 _ _ ?_
    rw [hA0]
    simp only [List.set_cons_zero, List.set_cons_succ]
    clear hG hA0 hK7 hS HMo HRo HRA
    have HX7 : Box (Sbx x0 w z S J D { j with nx := y2 } y1 A (pqs V J1 (scs s) (scs s)) /\ Disk.Rv z (.agg V2.toArray) r2 /\ z.heap[Bt]? = some (.cells SY 26 (0, 0)) /\ z.heap[b13]? = some (.cells V2.toArray 36 (0, 0)) /\ z.heap[b14]? = some (.cells J2.toArray 44 (0, 0)) /\ z.heap[b15]? = some (.cells SY 42 (0, 0)) /\ S < Bt /\ S < b13 /\ S < b14 /\ S < b15) := ⟨by
     have hx := H6.out.1.below hbz
     rw [<- HJ.out.2.2.2.2.1, HJJ.out.1] at hx
     have hlt := (Array.getElem?_eq_some_iff.1 H6.out.2.2.2.1).1
     have hsb := H6.out.2.2.2.2
     exact ⟨hx, hrv, (hbz.block _ hlt).trans H6.out.2.2.2.1, k13, k14, k15, hsb, by omega, by omega, by omega⟩⟩
    have hQL : V2.length = 6 /\ V2.toArray.all (·.oneCell') = true := hQ.2
    have HQJ : Box (Disk.J (k + 8) y1 r2) := ⟨J_le hQ.1 (by have := HN.out.2; omega)⟩
    have HIV : Box ((Tryd.prog.info? 36).map (·.size) = some V2.length /\ (Tryd.prog.info? 36).map (·.size) = some V2.toArray.size /\ (Tryd.prog.info? 44).map (·.size) = some J2.length /\ (Tryd.prog.info? 44).map (·.size) = some J2.toArray.size) := ⟨by rw [hQL.1]; exact Disk.infoD, by rw [List.size_toArray, hQL.1]; exact Disk.infoD, by rw [HJJ.out.2.1]; exact infoRj, by rw [List.size_toArray, HJJ.out.2.1]; exact infoRj⟩
    have HVJ : Box (V.length = 6 /\ J1.length = 70 /\ (scs s).length = 34) := ⟨HJ.out.2.2.2.1, HJ2.out.2, len_scs HJ.out.2.2.1⟩
    clear hbz hrv hQ k13 k14 k15 g13 g14 g15 H6
    have HRa : Box (z.rangeAt b13 0 V2 /\ z.there S 0 V2.toArray.size) := ⟨range_row HX7.out.2.2.2.1, by rw [List.size_toArray]; exact (HX7.out.1.st (PC' := pqs V2 J1 (scs s) (scs s)) (pqs0 (by rw [HVJ.out.1, hQL.1])) (by rw [len_pqs HVJ.out.1 HVJ.out.2.1 HVJ.out.2.2 HVJ.out.2.2, hQL.1]; omega)).1⟩
    go_upto_region 9 with (first
     | (refine atLoad 36 ?_; refine wpList_ldMid rfl 36 _ _ rfl Tryd.underlying36 rfl b13 0 rfl V2 HIV.out.1 HRa.out.1 ?_)
     | (refine atStore _ ?_; refine wpList_store_mid rfl 36 _ _ rfl S 0 V2.toArray rfl rfl HRa.out.2 HIV.out.2.1 hQL.2 ?_))
    (try rw [List.toList_toArray])
    have HX8 : Box (Sbx x0 w (z.setCells S 0 V2) S J D { j with nx := y2 } y1 A (pqs V2 J1 (scs s) (scs s)) /\ But S z (z.setCells S 0 V2)) := ⟨(HX7.out.1.st (PC' := pqs V2 J1 (scs s) (scs s)) (pqs0 (by rw [HVJ.out.1, hQL.1])) (by rw [len_pqs HVJ.out.1 HVJ.out.2.1 HVJ.out.2.2 HVJ.out.2.2, hQL.1]; omega)).2⟩
    generalize z.setCells S 0 V2 = z8 at HX8 ⊢
    have HB8 : Box (Disk.Rv z8 (.agg V2.toArray) r2 /\ z8.heap[Bt]? = some (.cells SY 26 (0, 0)) /\ z8.heap[b14]? = some (.cells J2.toArray 44 (0, 0)) /\ z8.heap[b15]? = some (.cells SY 42 (0, 0))) := ⟨by
     have hb := HX8.out.2
     obtain ⟨h0, h1, h2, h3, h4, h5, g1, g2, g3, g4⟩ := HX7.out
     exact ⟨rv_but h1 hb h0.p (by decide) (by decide), (hb.block _ (Array.getElem?_eq_some_iff.1 h2).1 (by omega)).trans h2, (hb.block _ (Array.getElem?_eq_some_iff.1 h4).1 (by omega)).trans h4, (hb.block _ (Array.getElem?_eq_some_iff.1 h5).1 (by omega)).trans h5⟩⟩
    have HG8 : Box (S < Bt /\ S < b15) := ⟨HX7.out.2.2.2.2.2.2.1, HX7.out.2.2.2.2.2.2.2.2.2⟩
    clear HX7 HRa
    have HRa : Box (z8.rangeAt b14 0 J2 /\ z8.there S 6 J2.toArray.size) := ⟨range_row HB8.out.2.2.1, by rw [List.size_toArray]; exact (HX8.out.1.st (PC' := pqs V2 J2 (scs s) (scs s)) (pqs1 hQL.1 (by rw [HVJ.out.2.1, HJJ.out.2.1])) (by rw [len_pqs hQL.1 HVJ.out.2.1 HVJ.out.2.2 HVJ.out.2.2, HJJ.out.2.1]; omega)).1⟩
    go_upto_region 10 with (first
     | (refine atLoad 44 ?_; refine wpList_ldMid rfl 44 _ _ rfl Tryd.underlying44 rfl b14 0 rfl J2 HIV.out.2.2.1 HRa.out.1 ?_)
     | (refine atStore _ ?_; refine wpList_store_mid rfl 44 _ _ rfl S 6 J2.toArray rfl rfl HRa.out.2 HIV.out.2.2.2 HJJ.out.2.2 ?_))
    (try rw [List.toList_toArray])
    have HX9 : Box (Sbx x0 w (z8.setCells S 6 J2) S J D { j with nx := y2 } y1 A (pqs V2 J2 (scs s) (scs s)) /\ Disk.Rv (z8.setCells S 6 J2) (.agg V2.toArray) r2 /\ (z8.setCells S 6 J2).heap[Bt]? = some (.cells SY 26 (0, 0)) /\ (z8.setCells S 6 J2).heap[b15]? = some (.cells SY 42 (0, 0))) := ⟨by
     have hx := (HX8.out.1.st (PC' := pqs V2 J2 (scs s) (scs s)) (pqs1 hQL.1 (by rw [HVJ.out.2.1, HJJ.out.2.1])) (by rw [len_pqs hQL.1 HVJ.out.2.1 HVJ.out.2.2 HVJ.out.2.2, HJJ.out.2.1]; omega)).2
     have hb := hx.2
     obtain ⟨h1, h2, h4, h5⟩ := HB8.out
     have g := HG8.out
     exact ⟨hx.1, rv_but h1 hb HX8.out.1.p (by decide) (by decide), (hb.block _ (Array.getElem?_eq_some_iff.1 h2).1 (by omega)).trans h2, (hb.block _ (Array.getElem?_eq_some_iff.1 h5).1 (by omega)).trans h5⟩⟩
    generalize z8.setCells S 6 J2 = z9 at HX9 ⊢
    clear HX8 HB8 HRa
    by_cases hy3 : y3 = 0
    rotate_left
    ·have HOS : Box (OkS s) := ⟨HJ.out.2.2.1⟩
     have e3 : (y3 == 0) = false := by simpa using hy3
     go_upto_region 13 with fail
     have HPl : Box ((pqs V2 J2 (scs s) (scs s)).length = 144 /\ (pqs V2 J2 (scs s) (scs s)).toArray.all (·.oneCell') = true) := ⟨by rw [len_pqs (V := V2)] <;> first | exact hQL.1 | exact HJJ.out.2.1 | exact len_scs HOS.out, pqs_all _ _ hQL.2 HJJ.out.2.2⟩
     obtain ⟨PC, hPC⟩ : ∃ L, pqs V2 J2 (scs s) (scs s) = L := ⟨_, rfl⟩
     rw [hPC] at HPl HX9
     have HIP : Box ((Tryd.prog.info? 49).map (·.size) = some PC.length /\ (Tryd.prog.info? 49).map (·.size) = some PC.toArray.size) := ⟨by rw [HPl.out.1]; exact infoP, by rw [List.size_toArray, HPl.out.1]; exact infoP⟩
     have HIY : Box ((Tryd.prog.info? 26).map (·.size) = some (scs y4).length /\ (scs y4).toArray = SY /\ (Tryd.prog.info? 42).map (·.size) = some (scs y4).length) := ⟨by rw [len_scs HY.out.1]; exact infoSt, by rw [<- HSY.out]; rfl, by rw [len_scs HY.out.1]; exact infoS13⟩
     have HSO : Box (∀ x, Calls Tryd.prog 9 #[.agg SY] x fun e x' => e = .returned (.agg SY) /\ Below x.heap.size x x') := ⟨fun x => by
      have := stateOf_any y4 HY.out.1 x
      rw [HSY.out] at this
      exact this⟩
     have HBx : Box (∀ x, Below z9.heap.size z9 x -> x.rangeAt S 0 PC /\ x.rangeAt Bt 0 (scs y4) /\ x.rangeAt b15 0 (scs y4)) := ⟨fun x hx => ⟨range_row (HX9.out.1.below hx).p, range_row (by rw [HIY.out.2.1]; exact (hx.block _ (Array.getElem?_eq_some_iff.1 HX9.out.2.2.1).1).trans HX9.out.2.2.1), range_row (by rw [HIY.out.2.1]; exact (hx.block _ (Array.getElem?_eq_some_iff.1 HX9.out.2.2.2).1).trans HX9.out.2.2.2)⟩⟩
     refine begin_keep (S := fun x => x.rangeAt S 0 PC /\ x.rangeAt Bt 0 (scs y4) /\ x.rangeAt b15 0 (scs y4)) (by kernel_rfl) (fun wd hwd => ?_)
     have hB : Below z9.heap.size z9 wd := by rw [hwd]; exact (Below.refl _ _).drew
     have hS := HBx.out wd hB
     clear hwd
     refine take_x (i := 0) (v := .agg PC.toArray) rfl (fun w' hLat => exec_load_mid 49 _ (.tmp 6) rfl Tryd.underlying49 rfl S 0 rfl PC HIP.out.1 (hLat.1)) hS ?_
     try simp only [Act.put, pC, pD, pE, pF, pG]
     refine take_x (i := 1) (v := ?_) rfl ?_ hS ?_
     rotate_left
     ·rintro w' -; go_simp <;> with_reducible rfl
     try simp only [Act.put, pC, pD, pE, pF, pG, pH]
     refine take_x (i := 2) (v := ?_) rfl ?_ hS ?_
     rotate_left
     ·rintro w' -; go_simp <;> with_reducible rfl
     try simp only [Act.put, pC, pD, pE, pF, pG, pH]
     refine take_x (i := 3) (v := .bool true) rfl (fun w' hLat => by clear hLat; go_simp <;> simp) hS ?_
     try simp only [Act.put, pC, pD, pE, pF, pG, pH]
     refine take_x (i := 4) (v := ?_) rfl ?_ hS ?_
     rotate_left
     ·rintro w' -; go_simp <;> with_reducible rfl
     try simp only [Act.put, pC, pD, pE, pF, pG, pH]
     refine take_x (i := 5) (v := .agg SY) rfl (fun w' hLat => (by rw [<- HIY.out.2.1]; exact exec_load_mid 26 _ (.tmp 11) rfl Tryd.underlying26 rfl Bt 0 rfl (scs y4) HIY.out.1 (hLat.2.1))) hS ?_
     try simp only [Act.put, pC, pD, pE, pF, pG, pH]
     refine take_x (i := 7) (v := .agg SY) rfl (fun w' hLat => (by rw [<- HIY.out.2.1]; exact exec_load_mid 42 _ (.tmp 15) rfl Tryd.underlying42 rfl b15 0 rfl (scs y4) HIY.out.2.2 (hLat.2.2))) hS ?_
     try simp only [Act.put, pC, pD, pE, pF, pG, pH]
     refine one_keep (i := 6) (by kernel_rfl) ?_
     refine keep_step rfl (by rfl) ?_
     go_simp
     refine Calls.mono (HSO.out _) ?_
     rintro e z10 ⟨rfl, hb⟩
     have hB := below_to hB hb
     have hS := HBx.out z10 hB
     clear hb
     refine ⟨hS, ?_⟩
     try simp only [Act.put, pC, pD, pE, pF, pG, pH]
     refine take_x (i := 8) (v := .bool true) rfl (fun w' hLat => exec_eqS13 (.tmp 64) (.tmp 65) _ rfl y4 y4 HY.out.1 HY.out.1 true (by simp [eqS]) (by rw [HSY.out]; rfl) (by rw [HSY.out]; rfl)) hS ?_
     try simp only [Act.put, pC, pD, pE, pF, pG, pH]
     refine take_x (i := 9) (v := ?_) rfl ?_ hS ?_
     rotate_left
     ·rintro w' -; go_simp <;> with_reducible rfl
     try simp only [Act.put, pC, pD, pE, pF, pG, pH]
     have hx10 := HX9.out.1.below hB
     have hth : z10.there (S + 2) 0 PC.toArray.size := there_row hx10.z (by rw [List.size_toArray, List.size_toArray, HPl.out.1, len_ZPl]; omega)
     have hbt : But (S + 2) z10 (z10.setCells (S + 2) 0 PC) := But.setCells PC 0 (But.refl _ _)
     have hrow : (z10.setCells (S + 2) 0 PC).heap[S + 2]? = some (.cells PC.toArray 49 (0, 0)) := (put_row hx10.z (by rw [HPl.out.1, len_ZPl])).1
     refine one_keep (i := 10) (by kernel_rfl) ?_
     refine keep_step rfl (by rfl) ?_
     refine wp_store_mid 49 (.tmp 8) (.tmp 58) rfl (S + 2) 0 PC.toArray rfl rfl hth HIP.out.2 HPl.out.2 ?_
     rw [List.toList_toArray]
     have hg : S ≠ S + 2 /\ Bt ≠ S + 2 /\ b15 ≠ S + 2 := ⟨by omega, ne_typed ((hB.block _ (Array.getElem?_eq_some_iff.1 HX9.out.2.2.1).1).trans HX9.out.2.2.1) hx10.z (by decide), ne_typed ((hB.block _ (Array.getElem?_eq_some_iff.1 HX9.out.2.2.2).1).trans HX9.out.2.2.2) hx10.z (by decide)⟩
     have hS : (z10.setCells (S + 2) 0 PC).rangeAt S 0 PC /\ (z10.setCells (S + 2) 0 PC).rangeAt Bt 0 (scs y4) /\ (z10.setCells (S + 2) 0 PC).rangeAt b15 0 (scs y4) := ⟨but_range hbt hS.1 hg.1, but_range hbt hS.2.1 hg.2.1, but_range hbt hS.2.2 hg.2.2⟩
     refine ⟨hS, ?_⟩
     try simp only [Act.put, pF, pG, pH]
     refine take_x (i := 11) (v := ?_) rfl ?_ hS ?_
     rotate_left
     ·rintro w' -; go_simp <;> with_reducible rfl
     try simp only [Act.put, pC, pD, pE, pF, pG, pH]
     refine wpAnyH_done (by kernel_rfl) ?_ _
     have hfin := hx10.fin hbt
     have hrv : Disk.Rv (z10.setCells (S + 2) 0 PC) (.agg V2.toArray) r2 := rv_but (HX9.out.2.1.below hB) hbt hx10.z (by decide) (by decide)
     clear hS hx10 hth
     go_wp2
     refine bodyPost_ret (results_row2 (t := 8) (u := 9) rfl _ Tryd.underlying49 rfl _ _ (S + 2) PC.toArray HIP.out.2 rfl hrow) rfl ?_
     exact ⟨V2, { j with nx := y2 }, y1, r2, s, by rw [HJ2.out.1, hPC]; rfl, hfin.1, HY.out.2, hrv, HQJ.out, HOS.out, hfin.2⟩
    ·obtain rfl : y3 = 0 := hy3
     have HOS : Box (OkS y4) := ⟨HY.out.1⟩
     have HI4 : Box ((Tryd.prog.info? 26).map (·.size) = some (scs y4).length /\ (Tryd.prog.info? 42).map (·.size) = some (scs y4).length /\ (scs y4).length = 34 /\ (scs y4).toArray = SY /\ SY.toList = scs y4) := ⟨by rw [len_scs HY.out.1]; exact infoSt, by rw [len_scs HY.out.1]; exact infoS13, len_scs HY.out.1, by rw [<- HSY.out]; rfl, by rw [<- HSY.out]; exact toList_sa y4⟩
     have HRa : Box (z9.rangeAt Bt 0 (scs y4) /\ z9.there S 76 SY.size) := ⟨range_row (by rw [HI4.out.2.2.2.1]; exact HX9.out.2.2.1), by
      have := (HX9.out.1.st (PC' := pqs V2 J2 (scs y4) (scs s)) (pqs2 hQL.1 HJJ.out.2.1 (by rw [HVJ.out.2.2, HI4.out.2.2.1])) (by rw [len_pqs hQL.1 HJJ.out.2.1 HVJ.out.2.2 HVJ.out.2.2, HI4.out.2.2.1]; omega)).1
      rwa [<- List.size_toArray, HI4.out.2.2.2.1] at this⟩
     go_upto_region 12 with (first
      | (refine atLoad 26 ?_; refine wpList_ldMid rfl 26 _ _ rfl Tryd.underlying26 rfl Bt 0 rfl (scs y4) HI4.out.1 HRa.out.1 ?_; rw [HI4.out.2.2.2.1])
      | (refine atStore _ ?_; refine wpList_store_mid rfl 26 _ _ rfl S 76 SY rfl rfl HRa.out.2 HIS.out.1 HIS.out.2.2.1 ?_))
     (try rw [HI4.out.2.2.2.2])
     have HXa : Box (Sbx x0 w (z9.setCells S 76 (scs y4)) S J D { j with nx := y2 } y1 A (pqs V2 J2 (scs y4) (scs s)) /\ Disk.Rv (z9.setCells S 76 (scs y4)) (.agg V2.toArray) r2 /\ (z9.setCells S 76 (scs y4)).heap[Bt]? = some (.cells SY 26 (0, 0)) /\ (z9.setCells S 76 (scs y4)).heap[b15]? = some (.cells SY 42 (0, 0))) := ⟨by
      have hx := (HX9.out.1.st (PC' := pqs V2 J2 (scs y4) (scs s)) (pqs2 hQL.1 HJJ.out.2.1 (by rw [HVJ.out.2.2, HI4.out.2.2.1])) (by rw [len_pqs hQL.1 HJJ.out.2.1 HVJ.out.2.2 HVJ.out.2.2, HI4.out.2.2.1]; omega)).2
      have hb := hx.2
      obtain ⟨h0, h1, h4, h5⟩ := HX9.out
      have g := HG8.out
      exact ⟨hx.1, rv_but h1 hb h0.p (by decide) (by decide), (hb.block _ (Array.getElem?_eq_some_iff.1 h4).1 (by omega)).trans h4, (hb.block _ (Array.getElem?_eq_some_iff.1 h5).1 (by omega)).trans h5⟩⟩
     generalize z9.setCells S 76 (scs y4) = za at HXa ⊢
     clear HX9 HRa
     have HRa : Box (za.rangeAt b15 0 (scs y4) /\ za.there S 110 SY.size) := ⟨range_row (by rw [HI4.out.2.2.2.1]; exact HXa.out.2.2.2), by
      have := (HXa.out.1.st (PC' := pqs V2 J2 (scs y4) (scs y4)) (pqs3 hQL.1 HJJ.out.2.1 HI4.out.2.2.1 (by rw [HVJ.out.2.2, HI4.out.2.2.1])) (by rw [len_pqs hQL.1 HJJ.out.2.1 HI4.out.2.2.1 HVJ.out.2.2, HI4.out.2.2.1]; omega)).1
      rwa [<- List.size_toArray, HI4.out.2.2.2.1] at this⟩
     go_upto_region 13 with (first
      | (refine atLoad 42 ?_; refine wpList_ldMid rfl 42 _ _ rfl Tryd.underlying42 rfl b15 0 rfl (scs y4) HI4.out.2.1 HRa.out.1 ?_; rw [HI4.out.2.2.2.1])
      | (refine atStore _ ?_; refine wpList_store_mid rfl 42 _ _ rfl S 110 SY rfl rfl HRa.out.2 HIS.out.2.2.2 HIS.out.2.2.1 ?_))
     (try rw [HI4.out.2.2.2.2])
     have HX9 : Box (Sbx x0 w (za.setCells S 110 (scs y4)) S J D { j with nx := y2 } y1 A (pqs V2 J2 (scs y4) (scs y4)) /\ Disk.Rv (za.setCells S 110 (scs y4)) (.agg V2.toArray) r2 /\ (za.setCells S 110 (scs y4)).heap[Bt]? = some (.cells SY 26 (0, 0)) /\ (za.setCells S 110 (scs y4)).heap[b15]? = some (.cells SY 42 (0, 0))) := ⟨by
      have hx := (HXa.out.1.st (PC' := pqs V2 J2 (scs y4) (scs y4)) (pqs3 hQL.1 HJJ.out.2.1 HI4.out.2.2.1 (by rw [HVJ.out.2.2, HI4.out.2.2.1])) (by rw [len_pqs hQL.1 HJJ.out.2.1 HI4.out.2.2.1 HVJ.out.2.2, HI4.out.2.2.1]; omega)).2
      have hb := hx.2
      obtain ⟨h0, h1, h4, h5⟩ := HXa.out
      have g := HG8.out
      exact ⟨hx.1, rv_but h1 hb h0.p (by decide) (by decide), (hb.block _ (Array.getElem?_eq_some_iff.1 h4).1 (by omega)).trans h4, (hb.block _ (Array.getElem?_eq_some_iff.1 h5).1 (by omega)).trans h5⟩⟩
     generalize za.setCells S 110 (scs y4) = z9 at HX9 ⊢
     clear HXa HRa
     have HPl : Box ((pqs V2 J2 (scs y4) (scs y4)).length = 144 /\ (pqs V2 J2 (scs y4) (scs y4)).toArray.all (·.oneCell') = true) := ⟨by rw [len_pqs (V := V2)] <;> first | exact hQL.1 | exact HJJ.out.2.1 | exact len_scs HOS.out, pqs_all _ _ hQL.2 HJJ.out.2.2⟩
     obtain ⟨PC, hPC⟩ : ∃ L, pqs V2 J2 (scs y4) (scs y4) = L := ⟨_, rfl⟩
     rw [hPC] at HPl HX9
     have HIP : Box ((Tryd.prog.info? 49).map (·.size) = some PC.length /\ (Tryd.prog.info? 49).map (·.size) = some PC.toArray.size) := ⟨by rw [HPl.out.1]; exact infoP, by rw [List.size_toArray, HPl.out.1]; exact infoP⟩
     have HIY : Box ((Tryd.prog.info? 26).map (·.size) = some (scs y4).length /\ (scs y4).toArray = SY /\ (Tryd.prog.info? 42).map (·.size) = some (scs y4).length) := ⟨by rw [len_scs HY.out.1]; exact infoSt, by rw [<- HSY.out]; rfl, by rw [len_scs HY.out.1]; exact infoS13⟩
     have HSO : Box (∀ x, Calls Tryd.prog 9 #[.agg SY] x fun e x' => e = .returned (.agg SY) /\ Below x.heap.size x x') := ⟨fun x => by
      have := stateOf_any y4 HY.out.1 x
      rw [HSY.out] at this
      exact this⟩
     have HBx : Box (∀ x, Below z9.heap.size z9 x -> x.rangeAt S 0 PC /\ x.rangeAt Bt 0 (scs y4) /\ x.rangeAt b15 0 (scs y4)) := ⟨fun x hx => ⟨range_row (HX9.out.1.below hx).p, range_row (by rw [HIY.out.2.1]; exact (hx.block _ (Array.getElem?_eq_some_iff.1 HX9.out.2.2.1).1).trans HX9.out.2.2.1), range_row (by rw [HIY.out.2.1]; exact (hx.block _ (Array.getElem?_eq_some_iff.1 HX9.out.2.2.2).1).trans HX9.out.2.2.2)⟩⟩
     refine begin_keep (S := fun x => x.rangeAt S 0 PC /\ x.rangeAt Bt 0 (scs y4) /\ x.rangeAt b15 0 (scs y4)) (by kernel_rfl) (fun wd hwd => ?_)
     have hB : Below z9.heap.size z9 wd := by rw [hwd]; exact (Below.refl _ _).drew
     have hS := HBx.out wd hB
     clear hwd
     refine take_x (i := 0) (v := .agg PC.toArray) rfl (fun w' hLat => exec_load_mid 49 _ (.tmp 6) rfl Tryd.underlying49 rfl S 0 rfl PC HIP.out.1 (hLat.1)) hS ?_
     try simp only [Act.put, pC, pD, pE, pF, pG]
     refine take_x (i := 1) (v := ?_) rfl ?_ hS ?_
     rotate_left
     ·rintro w' -; go_simp <;> with_reducible rfl
     try simp only [Act.put, pC, pD, pE, pF, pG, pH]
     refine take_x (i := 2) (v := ?_) rfl ?_ hS ?_
     rotate_left
     ·rintro w' -; go_simp <;> with_reducible rfl
     try simp only [Act.put, pC, pD, pE, pF, pG, pH]
     refine take_x (i := 3) (v := .bool true) rfl (fun w' hLat => by clear hLat; go_simp <;> simp) hS ?_
     try simp only [Act.put, pC, pD, pE, pF, pG, pH]
     refine take_x (i := 4) (v := ?_) rfl ?_ hS ?_
     rotate_left
     ·rintro w' -; go_simp <;> with_reducible rfl
     try simp only [Act.put, pC, pD, pE, pF, pG, pH]
     refine take_x (i := 5) (v := .agg SY) rfl (fun w' hLat => (by rw [<- HIY.out.2.1]; exact exec_load_mid 26 _ (.tmp 11) rfl Tryd.underlying26 rfl Bt 0 rfl (scs y4) HIY.out.1 (hLat.2.1))) hS ?_
     try simp only [Act.put, pC, pD, pE, pF, pG, pH]
     refine take_x (i := 7) (v := .agg SY) rfl (fun w' hLat => (by rw [<- HIY.out.2.1]; exact exec_load_mid 42 _ (.tmp 15) rfl Tryd.underlying42 rfl b15 0 rfl (scs y4) HIY.out.2.2 (hLat.2.2))) hS ?_
     try simp only [Act.put, pC, pD, pE, pF, pG, pH]
     refine one_keep (i := 6) (by kernel_rfl) ?_
     refine keep_step rfl (by rfl) ?_
     go_simp
     refine Calls.mono (HSO.out _) ?_
     rintro e z10 ⟨rfl, hb⟩
     have hB := below_to hB hb
     have hS := HBx.out z10 hB
     clear hb
     refine ⟨hS, ?_⟩
     try simp only [Act.put, pC, pD, pE, pF, pG, pH]
     refine take_x (i := 8) (v := .bool true) rfl (fun w' hLat => exec_eqS13 (.tmp 64) (.tmp 65) _ rfl y4 y4 HY.out.1 HY.out.1 true (by simp [eqS]) (by rw [HSY.out]; rfl) (by rw [HSY.out]; rfl)) hS ?_
     try simp only [Act.put, pC, pD, pE, pF, pG, pH]
     refine take_x (i := 9) (v := ?_) rfl ?_ hS ?_
     rotate_left
     ·rintro w' -; go_simp <;> with_reducible rfl
     try simp only [Act.put, pC, pD, pE, pF, pG, pH]
     have hx10 := HX9.out.1.below hB
     have hth : z10.there (S + 2) 0 PC.toArray.size := there_row hx10.z (by rw [List.size_toArray, List.size_toArray, HPl.out.1, len_ZPl]; omega)
     have hbt : But (S + 2) z10 (z10.setCells (S + 2) 0 PC) := But.setCells PC 0 (But.refl _ _)
     have hrow : (z10.setCells (S + 2) 0 PC).heap[S + 2]? = some (.cells PC.toArray 49 (0, 0)) := (put_row hx10.z (by rw [HPl.out.1, len_ZPl])).1
     refine one_keep (i := 10) (by kernel_rfl) ?_
     refine keep_step rfl (by rfl) ?_
     refine wp_store_mid 49 (.tmp 8) (.tmp 58) rfl (S + 2) 0 PC.toArray rfl rfl hth HIP.out.2 HPl.out.2 ?_
     rw [List.toList_toArray]
     have hg : S ≠ S + 2 /\ Bt ≠ S + 2 /\ b15 ≠ S + 2 := ⟨by omega, ne_typed ((hB.block _ (Array.getElem?_eq_some_iff.1 HX9.out.2.2.1).1).trans HX9.out.2.2.1) hx10.z (by decide), ne_typed ((hB.block _ (Array.getElem?_eq_some_iff.1 HX9.out.2.2.2).1).trans HX9.out.2.2.2) hx10.z (by decide)⟩
     have hS : (z10.setCells (S + 2) 0 PC).rangeAt S 0 PC /\ (z10.setCells (S + 2) 0 PC).rangeAt Bt 0 (scs y4) /\ (z10.setCells (S + 2) 0 PC).rangeAt b15 0 (scs y4) := ⟨but_range hbt hS.1 hg.1, but_range hbt hS.2.1 hg.2.1, but_range hbt hS.2.2 hg.2.2⟩
     refine ⟨hS, ?_⟩
     try simp only [Act.put, pF, pG, pH]
     refine take_x (i := 11) (v := ?_) rfl ?_ hS ?_
     rotate_left
     ·rintro w' -; go_simp <;> with_reducible rfl
     try simp only [Act.put, pC, pD, pE, pF, pG, pH]
     refine wpAnyH_done (by kernel_rfl) ?_ _
     have hfin := hx10.fin hbt
     have hrv : Disk.Rv (z10.setCells (S + 2) 0 PC) (.agg V2.toArray) r2 := rv_but (HX9.out.2.1.below hB) hbt hx10.z (by decide) (by decide)
     clear hS hx10 hth
     go_wp2
     refine bodyPost_ret (results_row2 (t := 8) (u := 9) rfl _ Tryd.underlying49 rfl _ _ (S + 2) PC.toArray HIP.out.2 rfl hrow) rfl ?_
     exact ⟨V2, { j with nx := y2 }, y1, r2, y4, by rw [HJ2.out.1, hPC]; rfl, hfin.1, HY.out.2, hrv, HQJ.out, HOS.out, hfin.2⟩⟩
   have HN2_12_13_14 : Box (∀ ma mc (V2 : List Value) r2 b13 b14 b15 (y : World), Below x5.heap.size x5 y -> Disk.Rv y (.agg V2.toArray) r2 -> (Disk.J (k + n) y1 r2 /\ V2.length = 6 /\ V2.toArray.all (·.oneCell') = true) -> Nb y b13 ZD 36 -> x5.heap.size <= b13 -> Nb y b14 ZJ 44 -> x5.heap.size <= b14 -> Nb y b15 (sa zs) 42 -> x5.heap.size <= b15 -> G 4 #[true, true, true, true, true, true, true, true, true, true, true, true, true, true, true, false, false, false, false] { tmps := ((((((((((L0.set 42 (Value.slice ma n mc)).set 43 (Value.tuple #[Value.agg V2.toArray, Value.agg J2.toArray, Value.agg SY, Value.int IntKind.i64 y3])).set 36 (Value.tuple #[Value.agg V2.toArray, Value.agg J2.toArray, Value.agg SY, Value.int IntKind.i64 y3])).set 44 (Value.agg V2.toArray)).set 45 (Value.agg J2.toArray)).set 46 (Value.agg SY)).set 47 (Value.int IntKind.i64 y3)).set 13 (Value.pointer (some { block := b13, off := 0 }))).set 14 (Value.pointer (some { block := b14, off := 0 }))).set 15 (Value.pointer (some { block := b15, off := 0 }))).toArray, defers := [] } y) := ⟨by
    intro ma mc V2 r2 b13 b14 b15 y hS hA hQ n13 g13 n14 g14 n15 g15
    rw [hG, hA0]
    simp only [List.set_cons_zero, List.set_cons_succ]
    have h3 : Box _ := ⟨st33 (V2 := V2) (J2 := J2) (SY := SY) hS n13 n14 n15 g13 g14 g15 (by rw [HZZ.out.1.2, hQ.2.1]) (by rw [HZZ.out.2.2, HJJ.out.2.1]) HIS.out.2.1 hA⟩
    refine one_keep (i := 15) (by kernel_rfl) (keep_step rfl (by rfl) ?_)
    refine wp_store_mid 36 (.tmp 13) (.tmp 44) rfl b13 0 V2.toArray rfl rfl h3.out.t1 (by rw [List.size_toArray, hQ.2.1]; exact Disk.infoD) hQ.2.2 ?_
    rw [List.toList_toArray]
    refine ⟨h3.out.s1, ?_⟩
    try simp only [Act.put, pF, pG, pH]
    refine one_keep (i := 16) (by kernel_rfl) (keep_step rfl (by rfl) ?_)
    refine wp_store_mid 44 (.tmp 14) (.tmp 45) rfl b14 0 J2.toArray rfl rfl h3.out.t2 (by rw [List.size_toArray, HJJ.out.2.1]; exact infoRj) HJJ.out.2.2 ?_
    rw [List.toList_toArray]
    refine ⟨h3.out.s2, ?_⟩
    try simp only [Act.put, pF, pG, pH]
    refine one_keep (i := 17) (by kernel_rfl) (keep_step rfl (by rfl) ?_)
    refine wp_store_mid 42 (.tmp 15) (.tmp 46) rfl b15 0 SY rfl rfl h3.out.t3 HIS.out.2.2.2 HIS.out.2.2.1 ?_
    refine ⟨h3.out.s3, ?_⟩
    try simp only [Act.put, pF, pG, pH]
    refine take_x (i := 18) (v := ?_) rfl ?_ h3.out.s3 ?_
    rotate_left
    ·rintro w' -; go_simp <;> with_reducible rfl
    try simp only [Act.put, pC, pD, pE, pF, pG, pH]
    refine wpAnyH_done (by kernel_rfl) ?_ _
    show K7 _ _
    exact act_to3 (K := K7) (by rw [hA0]; kernel_rfl) (HR7.out ma mc V2 r2 b13 b14 b15 _ h3.out.s3 h3.out.rv hQ h3.out.r1 h3.out.r2 h3.out.r3 g13 g14 g15)⟩
   have HN2_12_13 : Box (∀ ma mc (V2 : List Value) r2 b13 b14 (y : World), Below x5.heap.size x5 y -> Disk.Rv y (.agg V2.toArray) r2 -> (Disk.J (k + n) y1 r2 /\ V2.length = 6 /\ V2.toArray.all (·.oneCell') = true) -> Nb y b13 ZD 36 -> x5.heap.size <= b13 -> Nb y b14 ZJ 44 -> x5.heap.size <= b14 -> G 5 #[true, true, true, true, true, true, true, true, true, true, true, true, true, true, false, false, false, false, false] { tmps := (((((((((L0.set 42 (Value.slice ma n mc)).set 43 (Value.tuple #[Value.agg V2.toArray, Value.agg J2.toArray, Value.agg SY, Value.int IntKind.i64 y3])).set 36 (Value.tuple #[Value.agg V2.toArray, Value.agg J2.toArray, Value.agg SY, Value.int IntKind.i64 y3])).set 44 (Value.agg V2.toArray)).set 45 (Value.agg J2.toArray)).set 46 (Value.agg SY)).set 47 (Value.int IntKind.i64 y3)).set 13 (Value.pointer (some { block := b13, off := 0 }))).set 14 (Value.pointer (some { block := b14, off := 0 }))).toArray, defers := [] } y) := ⟨by
    intro ma mc V2 r2 b13 b14 y hS hA hQ n13 g13 n14 g14
    rw [hG, hA0]
    simp only [List.set_cons_zero, List.set_cons_succ]
    refine one_keep (i := 14) (by kernel_rfl) ?_
    refine keep_step rfl (by rfl) (al_arm 42 rfl _ zeroS13 hS fun b15 z n15 g15 hb hS => ?_)
    try simp only [Act.put, pC, pD, pE, pF, pG, pH]
    exact dag_to3 hG (by kernel_rfl) (by rw [hA0]; kernel_rfl) (HN2_12_13_14.out ma mc V2 r2 b13 b14 b15 _ hS (hA.below hb) hQ (n13.below hb) g13 (n14.below hb) g14 n15 g15)⟩
   have HN2_12_14 : Box (∀ ma mc (V2 : List Value) r2 b13 b15 (y : World), Below x5.heap.size x5 y -> Disk.Rv y (.agg V2.toArray) r2 -> (Disk.J (k + n) y1 r2 /\ V2.length = 6 /\ V2.toArray.all (·.oneCell') = true) -> Nb y b13 ZD 36 -> x5.heap.size <= b13 -> Nb y b15 (sa zs) 42 -> x5.heap.size <= b15 -> G 5 #[true, true, true, true, true, true, true, true, true, true, true, true, true, false, true, false, false, false, false] { tmps := (((((((((L0.set 42 (Value.slice ma n mc)).set 43 (Value.tuple #[Value.agg V2.toArray, Value.agg J2.toArray, Value.agg SY, Value.int IntKind.i64 y3])).set 36 (Value.tuple #[Value.agg V2.toArray, Value.agg J2.toArray, Value.agg SY, Value.int IntKind.i64 y3])).set 44 (Value.agg V2.toArray)).set 45 (Value.agg J2.toArray)).set 46 (Value.agg SY)).set 47 (Value.int IntKind.i64 y3)).set 13 (Value.pointer (some { block := b13, off := 0 }))).set 15 (Value.pointer (some { block := b15, off := 0 }))).toArray, defers := [] } y) := ⟨by
    intro ma mc V2 r2 b13 b15 y hS hA hQ n13 g13 n15 g15
    rw [hG, hA0]
    simp only [List.set_cons_zero, List.set_cons_succ]
    refine one_keep (i := 13) (by kernel_rfl) ?_
    refine keep_step rfl (by rfl) (al_arm 44 rfl _ HZZ.out.2.1 hS fun b14 z n14 g14 hb hS => ?_)
    try simp only [Act.put, pC, pD, pE, pF, pG, pH]
    exact dag_to3 hG (by kernel_rfl) (by rw [hA0]; kernel_rfl) (HN2_12_13_14.out ma mc V2 r2 b13 b14 b15 _ hS (hA.below hb) hQ (n13.below hb) g13 n14 g14 (n15.below hb) g15)⟩
   have HN2_13_14 : Box (∀ ma mc (V2 : List Value) r2 b14 b15 (y : World), Below x5.heap.size x5 y -> Disk.Rv y (.agg V2.toArray) r2 -> (Disk.J (k + n) y1 r2 /\ V2.length = 6 /\ V2.toArray.all (·.oneCell') = true) -> Nb y b14 ZJ 44 -> x5.heap.size <= b14 -> Nb y b15 (sa zs) 42 -> x5.heap.size <= b15 -> G 5 #[true, true, true, true, true, true, true, true, true, true, true, true, false, true, true, false, false, false, false] { tmps := (((((((((L0.set 42 (Value.slice ma n mc)).set 43 (Value.tuple #[Value.agg V2.toArray, Value.agg J2.toArray, Value.agg SY, Value.int IntKind.i64 y3])).set 36 (Value.tuple #[Value.agg V2.toArray, Value.agg J2.toArray, Value.agg SY, Value.int IntKind.i64 y3])).set 44 (Value.agg V2.toArray)).set 45 (Value.agg J2.toArray)).set 46 (Value.agg SY)).set 47 (Value.int IntKind.i64 y3)).set 14 (Value.pointer (some { block := b14, off := 0 }))).set 15 (Value.pointer (some { block := b15, off := 0 }))).toArray, defers := [] } y) := ⟨by
    intro ma mc V2 r2 b14 b15 y hS hA hQ n14 g14 n15 g15
    rw [hG, hA0]
    simp only [List.set_cons_zero, List.set_cons_succ]
    refine one_keep (i := 12) (by kernel_rfl) ?_
    refine keep_step rfl (by rfl) (al_arm 36 rfl _ HZZ.out.1.1 hS fun b13 z n13 g13 hb hS => ?_)
    try simp only [Act.put, pC, pD, pE, pF, pG, pH]
    exact dag_to3 hG (by kernel_rfl) (by rw [hA0]; kernel_rfl) (HN2_12_13_14.out ma mc V2 r2 b13 b14 b15 _ hS (hA.below hb) hQ n13 g13 (n14.below hb) g14 (n15.below hb) g15)⟩
   have HN2_12 : Box (∀ ma mc (V2 : List Value) r2 b13 (y : World), Below x5.heap.size x5 y -> Disk.Rv y (.agg V2.toArray) r2 -> (Disk.J (k + n) y1 r2 /\ V2.length = 6 /\ V2.toArray.all (·.oneCell') = true) -> Nb y b13 ZD 36 -> x5.heap.size <= b13 -> G 6 #[true, true, true, true, true, true, true, true, true, true, true, true, true, false, false, false, false, false, false] { tmps := ((((((((L0.set 42 (Value.slice ma n mc)).set 43 (Value.tuple #[Value.agg V2.toArray, Value.agg J2.toArray, Value.agg SY, Value.int IntKind.i64 y3])).set 36 (Value.tuple #[Value.agg V2.toArray, Value.agg J2.toArray, Value.agg SY, Value.int IntKind.i64 y3])).set 44 (Value.agg V2.toArray)).set 45 (Value.agg J2.toArray)).set 46 (Value.agg SY)).set 47 (Value.int IntKind.i64 y3)).set 13 (Value.pointer (some { block := b13, off := 0 }))).toArray, defers := [] } y) := ⟨by
    intro ma mc V2 r2 b13 y hS hA hQ n13 g13
    rw [hG, hA0]
    simp only [List.set_cons_zero, List.set_cons_succ]
    refine two_keep (i := 13) (j := 14) (by kernel_rfl) ?_ ?_
    ·as_aux_lemma =>
      refine keep_step rfl (by rfl) (al_arm 44 rfl _ HZZ.out.2.1 hS fun b14 z n14 g14 hb hS => ?_)
      try simp only [Act.put, pC, pD, pE, pF, pG, pH]
      exact dag_to3 hG (by kernel_rfl) (by rw [hA0]; kernel_rfl) (HN2_12_13.out ma mc V2 r2 b13 b14 _ hS (hA.below hb) hQ (n13.below hb) g13 n14 g14)
    ·as_aux_lemma =>
      refine keep_step rfl (by rfl) (al_arm 42 rfl _ zeroS13 hS fun b15 z n15 g15 hb hS => ?_)
      try simp only [Act.put, pC, pD, pE, pF, pG, pH]
      exact dag_to3 hG (by kernel_rfl) (by rw [hA0]; kernel_rfl) (HN2_12_14.out ma mc V2 r2 b13 b15 _ hS (hA.below hb) hQ (n13.below hb) g13 n15 g15)⟩
   have HN2_13 : Box (∀ ma mc (V2 : List Value) r2 b14 (y : World), Below x5.heap.size x5 y -> Disk.Rv y (.agg V2.toArray) r2 -> (Disk.J (k + n) y1 r2 /\ V2.length = 6 /\ V2.toArray.all (·.oneCell') = true) -> Nb y b14 ZJ 44 -> x5.heap.size <= b14 -> G 6 #[true, true, true, true, true, true, true, true, true, true, true, true, false, true, false, false, false, false, false] { tmps := ((((((((L0.set 42 (Value.slice ma n mc)).set 43 (Value.tuple #[Value.agg V2.toArray, Value.agg J2.toArray, Value.agg SY, Value.int IntKind.i64 y3])).set 36 (Value.tuple #[Value.agg V2.toArray, Value.agg J2.toArray, Value.agg SY, Value.int IntKind.i64 y3])).set 44 (Value.agg V2.toArray)).set 45 (Value.agg J2.toArray)).set 46 (Value.agg SY)).set 47 (Value.int IntKind.i64 y3)).set 14 (Value.pointer (some { block := b14, off := 0 }))).toArray, defers := [] } y) := ⟨by
    intro ma mc V2 r2 b14 y hS hA hQ n14 g14
    rw [hG, hA0]
    simp only [List.set_cons_zero, List.set_cons_succ]
    refine two_keep (i := 12) (j := 14) (by kernel_rfl) ?_ ?_
    ·as_aux_lemma =>
      refine keep_step rfl (by rfl) (al_arm 36 rfl _ HZZ.out.1.1 hS fun b13 z n13 g13 hb hS => ?_)
      try simp only [Act.put, pC, pD, pE, pF, pG, pH]
      exact dag_to3 hG (by kernel_rfl) (by rw [hA0]; kernel_rfl) (HN2_12_13.out ma mc V2 r2 b13 b14 _ hS (hA.below hb) hQ n13 g13 (n14.below hb) g14)
    ·as_aux_lemma =>
      refine keep_step rfl (by rfl) (al_arm 42 rfl _ zeroS13 hS fun b15 z n15 g15 hb hS => ?_)
      try simp only [Act.put, pC, pD, pE, pF, pG, pH]
      exact dag_to3 hG (by kernel_rfl) (by rw [hA0]; kernel_rfl) (HN2_13_14.out ma mc V2 r2 b14 b15 _ hS (hA.below hb) hQ (n14.below hb) g14 n15 g15)⟩
   have HN2_14 : Box (∀ ma mc (V2 : List Value) r2 b15 (y : World), Below x5.heap.size x5 y -> Disk.Rv y (.agg V2.toArray) r2 -> (Disk.J (k + n) y1 r2 /\ V2.length = 6 /\ V2.toArray.all (·.oneCell') = true) -> Nb y b15 (sa zs) 42 -> x5.heap.size <= b15 -> G 6 #[true, true, true, true, true, true, true, true, true, true, true, true, false, false, true, false, false, false, false] { tmps := ((((((((L0.set 42 (Value.slice ma n mc)).set 43 (Value.tuple #[Value.agg V2.toArray, Value.agg J2.toArray, Value.agg SY, Value.int IntKind.i64 y3])).set 36 (Value.tuple #[Value.agg V2.toArray, Value.agg J2.toArray, Value.agg SY, Value.int IntKind.i64 y3])).set 44 (Value.agg V2.toArray)).set 45 (Value.agg J2.toArray)).set 46 (Value.agg SY)).set 47 (Value.int IntKind.i64 y3)).set 15 (Value.pointer (some { block := b15, off := 0 }))).toArray, defers := [] } y) := ⟨by
    intro ma mc V2 r2 b15 y hS hA hQ n15 g15
    rw [hG, hA0]
    simp only [List.set_cons_zero, List.set_cons_succ]
    refine two_keep (i := 12) (j := 13) (by kernel_rfl) ?_ ?_
    ·as_aux_lemma =>
      refine keep_step rfl (by rfl) (al_arm 36 rfl _ HZZ.out.1.1 hS fun b13 z n13 g13 hb hS => ?_)
      try simp only [Act.put, pC, pD, pE, pF, pG, pH]
      exact dag_to3 hG (by kernel_rfl) (by rw [hA0]; kernel_rfl) (HN2_12_14.out ma mc V2 r2 b13 b15 _ hS (hA.below hb) hQ n13 g13 (n15.below hb) g15)
    ·as_aux_lemma =>
      refine keep_step rfl (by rfl) (al_arm 44 rfl _ HZZ.out.2.1 hS fun b14 z n14 g14 hb hS => ?_)
      try simp only [Act.put, pC, pD, pE, pF, pG, pH]
      exact dag_to3 hG (by kernel_rfl) (by rw [hA0]; kernel_rfl) (HN2_13_14.out ma mc V2 r2 b14 b15 _ hS (hA.below hb) hQ n14 g14 (n15.below hb) g15)⟩
   have HN2 : Box (∀ ma mc (V2 : List Value) r2 (y : World), Below x5.heap.size x5 y -> Disk.Rv y (.agg V2.toArray) r2 -> (Disk.J (k + n) y1 r2 /\ V2.length = 6 /\ V2.toArray.all (·.oneCell') = true) -> G 7 #[true, true, true, true, true, true, true, true, true, true, true, true, false, false, false, false, false, false, false] { tmps := (((((((L0.set 42 (Value.slice ma n mc)).set 43 (Value.tuple #[Value.agg V2.toArray, Value.agg J2.toArray, Value.agg SY, Value.int IntKind.i64 y3])).set 36 (Value.tuple #[Value.agg V2.toArray, Value.agg J2.toArray, Value.agg SY, Value.int IntKind.i64 y3])).set 44 (Value.agg V2.toArray)).set 45 (Value.agg J2.toArray)).set 46 (Value.agg SY)).set 47 (Value.int IntKind.i64 y3)).toArray, defers := [] } y) := ⟨by
    intro ma mc V2 r2 y hS hA hQ
    rw [hG, hA0]
    simp only [List.set_cons_zero, List.set_cons_succ]
    refine wpAnyH_all (rs := [12, 13, 14]) (by kernel_rfl) (by simp) (fun q hq => ?_)
    simp only [List.mem_cons, List.not_mem_nil, or_false] at hq
    rcases hq with rfl | rfl | rfl
    ·as_aux_lemma =>
      refine keep_step rfl (by rfl) (al_arm 36 rfl _ HZZ.out.1.1 hS fun b13 z n13 g13 hb hS => ?_)
      try simp only [Act.put, pC, pD, pE, pF, pG, pH]
      exact dag_to3 hG (by kernel_rfl) (by rw [hA0]; kernel_rfl) (HN2_12.out ma mc V2 r2 b13 _ hS (hA.below hb) hQ n13 g13)
    ·as_aux_lemma =>
      refine keep_step rfl (by rfl) (al_arm 44 rfl _ HZZ.out.2.1 hS fun b14 z n14 g14 hb hS => ?_)
      try simp only [Act.put, pC, pD, pE, pF, pG, pH]
      exact dag_to3 hG (by kernel_rfl) (by rw [hA0]; kernel_rfl) (HN2_13.out ma mc V2 r2 b14 _ hS (hA.below hb) hQ n14 g14)
    ·as_aux_lemma =>
      refine keep_step rfl (by rfl) (al_arm 42 rfl _ zeroS13 hS fun b15 z n15 g15 hb hS => ?_)
      try simp only [Act.put, pC, pD, pE, pF, pG, pH]
      exact dag_to3 hG (by kernel_rfl) (by rw [hA0]; kernel_rfl) (HN2_14.out ma mc V2 r2 b15 _ hS (hA.below hb) hQ n15 g15)⟩
   have HN1_12_13_14 : Box (∀ ma mc b13 b14 b15 (y : World), Below x5.heap.size x5 y -> Tb y ma 2 ic P -> Nb y b13 ZD 36 -> x5.heap.size <= b13 -> Nb y b14 ZJ 44 -> x5.heap.size <= b14 -> Nb y b15 (sa zs) 42 -> x5.heap.size <= b15 -> G 10 #[true, true, true, true, true, true, false, false, false, false, false, false, true, true, true, false, false, false, false] { tmps := ((((L0.set 42 (Value.slice ma n mc)).set 13 (Value.pointer (some { block := b13, off := 0 }))).set 14 (Value.pointer (some { block := b14, off := 0 }))).set 15 (Value.pointer (some { block := b15, off := 0 }))).toArray, defers := [] } y) := ⟨by
    intro ma mc b13 b14 b15 y hS hT n13 g13 n14 g14 n15 g15
    rw [hG, hA0]
    simp only [List.set_cons_zero, List.set_cons_succ]
    refine one_keep (i := 6) (by kernel_rfl) ?_
    refine keep_step rfl (by rfl) ?_
    go_simp
    refine Calls.mono (HRo.out _ ma mc hS hT) ?_
    rintro e z ⟨V2, r2, rfl, hA, hQ, hb⟩
    have hS := below_to hS hb
    have n13 := n13.below hb
    have n14 := n14.below hb
    have n15 := n15.below hb
    clear hb hT
    refine ⟨hS, ?_⟩
    try simp only [Act.put, pC, pD, pE, pF, pG, pH]
    refine take_x (i := 7) (v := ?_) rfl ?_ hS ?_
    rotate_left
    ·rintro w' -; go_simp <;> with_reducible rfl
    try simp only [Act.put, pC, pD, pE, pF, pG, pH]
    refine take_x (i := 8) (v := ?_) rfl ?_ hS ?_
    rotate_left
    ·rintro w' -; go_simp <;> with_reducible rfl
    try simp only [Act.put, pC, pD, pE, pF, pG, pH]
    refine take_x (i := 9) (v := ?_) rfl ?_ hS ?_
    rotate_left
    ·rintro w' -; go_simp <;> with_reducible rfl
    try simp only [Act.put, pC, pD, pE, pF, pG, pH]
    refine take_x (i := 10) (v := ?_) rfl ?_ hS ?_
    rotate_left
    ·rintro w' -; go_simp <;> with_reducible rfl
    try simp only [Act.put, pC, pD, pE, pF, pG, pH]
    refine take_x (i := 11) (v := ?_) rfl ?_ hS ?_
    rotate_left
    ·rintro w' -; go_simp <;> with_reducible rfl
    try simp only [Act.put, pC, pD, pE, pF, pG, pH]
    exact dag_to3 hG (by kernel_rfl) (by rw [hA0]; kernel_rfl) (HN2_12_13_14.out ma mc V2 r2 b13 b14 b15 _ hS hA hQ n13 g13 n14 g14 n15 g15)⟩
   have HN1_12_13 : Box (∀ ma mc b13 b14 (y : World), Below x5.heap.size x5 y -> Tb y ma 2 ic P -> Nb y b13 ZD 36 -> x5.heap.size <= b13 -> Nb y b14 ZJ 44 -> x5.heap.size <= b14 -> G 11 #[true, true, true, true, true, true, false, false, false, false, false, false, true, true, false, false, false, false, false] { tmps := (((L0.set 42 (Value.slice ma n mc)).set 13 (Value.pointer (some { block := b13, off := 0 }))).set 14 (Value.pointer (some { block := b14, off := 0 }))).toArray, defers := [] } y) := ⟨by
    intro ma mc b13 b14 y hS hT n13 g13 n14 g14
    rw [hG, hA0]
    simp only [List.set_cons_zero, List.set_cons_succ]
    refine two_keep (i := 6) (j := 14) (by kernel_rfl) ?_ ?_
    ·as_aux_lemma =>
      refine keep_step rfl (by rfl) ?_
      go_simp
      refine Calls.mono (HRo.out _ ma mc hS hT) ?_
      rintro e z ⟨V2, r2, rfl, hA, hQ, hb⟩
      have hS := below_to hS hb
      have n13 := n13.below hb
      have n14 := n14.below hb
      clear hb hT
      refine ⟨hS, ?_⟩
      try simp only [Act.put, pC, pD, pE, pF, pG, pH]
      refine take_x (i := 7) (v := ?_) rfl ?_ hS ?_
      rotate_left
      ·rintro w' -; go_simp <;> with_reducible rfl
      try simp only [Act.put, pC, pD, pE, pF, pG, pH]
      refine take_x (i := 8) (v := ?_) rfl ?_ hS ?_
      rotate_left
      ·rintro w' -; go_simp <;> with_reducible rfl
      try simp only [Act.put, pC, pD, pE, pF, pG, pH]
      refine take_x (i := 9) (v := ?_) rfl ?_ hS ?_
      rotate_left
      ·rintro w' -; go_simp <;> with_reducible rfl
      try simp only [Act.put, pC, pD, pE, pF, pG, pH]
      refine take_x (i := 10) (v := ?_) rfl ?_ hS ?_
      rotate_left
      ·rintro w' -; go_simp <;> with_reducible rfl
      try simp only [Act.put, pC, pD, pE, pF, pG, pH]
      refine take_x (i := 11) (v := ?_) rfl ?_ hS ?_
      rotate_left
      ·rintro w' -; go_simp <;> with_reducible rfl
      try simp only [Act.put, pC, pD, pE, pF, pG, pH]
      exact dag_to3 hG (by kernel_rfl) (by rw [hA0]; kernel_rfl) (HN2_12_13.out ma mc V2 r2 b13 b14 _ hS hA hQ n13 g13 n14 g14)
    ·as_aux_lemma =>
      refine keep_step rfl (by rfl) (al_arm 42 rfl _ zeroS13 hS fun b15 z n15 g15 hb hS => ?_)
      try simp only [Act.put, pC, pD, pE, pF, pG, pH]
      exact dag_to3 hG (by kernel_rfl) (by rw [hA0]; kernel_rfl) (HN1_12_13_14.out ma mc b13 b14 b15 _ hS (hT.below hb) (n13.below hb) g13 (n14.below hb) g14 n15 g15)⟩
   have HN1_12_14 : Box (∀ ma mc b13 b15 (y : World), Below x5.heap.size x5 y -> Tb y ma 2 ic P -> Nb y b13 ZD 36 -> x5.heap.size <= b13 -> Nb y b15 (sa zs) 42 -> x5.heap.size <= b15 -> G 11 #[true, true, true, true, true, true, false, false, false, false, false, false, true, false, true, false, false, false, false] { tmps := (((L0.set 42 (Value.slice ma n mc)).set 13 (Value.pointer (some { block := b13, off := 0 }))).set 15 (Value.pointer (some { block := b15, off := 0 }))).toArray, defers := [] } y) := ⟨by
    intro ma mc b13 b15 y hS hT n13 g13 n15 g15
    rw [hG, hA0]
    simp only [List.set_cons_zero, List.set_cons_succ]
    refine two_keep (i := 6) (j := 13) (by kernel_rfl) ?_ ?_
    ·as_aux_lemma =>
      refine keep_step rfl (by rfl) ?_
      go_simp
      refine Calls.mono (HRo.out _ ma mc hS hT) ?_
      rintro e z ⟨V2, r2, rfl, hA, hQ, hb⟩
      have hS := below_to hS hb
      have n13 := n13.below hb
      have n15 := n15.below hb
      clear hb hT
      refine ⟨hS, ?_⟩
      try simp only [Act.put, pC, pD, pE, pF, pG, pH]
      refine take_x (i := 7) (v := ?_) rfl ?_ hS ?_
      rotate_left
      ·rintro w' -; go_simp <;> with_reducible rfl
      try simp only [Act.put, pC, pD, pE, pF, pG, pH]
      refine take_x (i := 8) (v := ?_) rfl ?_ hS ?_
      rotate_left
      ·rintro w' -; go_simp <;> with_reducible rfl
      try simp only [Act.put, pC, pD, pE, pF, pG, pH]
      refine take_x (i := 9) (v := ?_) rfl ?_ hS ?_
      rotate_left
      ·rintro w' -; go_simp <;> with_reducible rfl
      try simp only [Act.put, pC, pD, pE, pF, pG, pH]
      refine take_x (i := 10) (v := ?_) rfl ?_ hS ?_
      rotate_left
      ·rintro w' -; go_simp <;> with_reducible rfl
      try simp only [Act.put, pC, pD, pE, pF, pG, pH]
      refine take_x (i := 11) (v := ?_) rfl ?_ hS ?_
      rotate_left
      ·rintro w' -; go_simp <;> with_reducible rfl
      try simp only [Act.put, pC, pD, pE, pF, pG, pH]
      exact dag_to3 hG (by kernel_rfl) (by rw [hA0]; kernel_rfl) (HN2_12_14.out ma mc V2 r2 b13 b15 _ hS hA hQ n13 g13 n15 g15)
    ·as_aux_lemma =>
      refine keep_step rfl (by rfl) (al_arm 44 rfl _ HZZ.out.2.1 hS fun b14 z n14 g14 hb hS => ?_)
      try simp only [Act.put, pC, pD, pE, pF, pG, pH]
      exact dag_to3 hG (by kernel_rfl) (by rw [hA0]; kernel_rfl) (HN1_12_13_14.out ma mc b13 b14 b15 _ hS (hT.below hb) (n13.below hb) g13 n14 g14 (n15.below hb) g15)⟩
   have HN1_13_14 : Box (∀ ma mc b14 b15 (y : World), Below x5.heap.size x5 y -> Tb y ma 2 ic P -> Nb y b14 ZJ 44 -> x5.heap.size <= b14 -> Nb y b15 (sa zs) 42 -> x5.heap.size <= b15 -> G 11 #[true, true, true, true, true, true, false, false, false, false, false, false, false, true, true, false, false, false, false] { tmps := (((L0.set 42 (Value.slice ma n mc)).set 14 (Value.pointer (some { block := b14, off := 0 }))).set 15 (Value.pointer (some { block := b15, off := 0 }))).toArray, defers := [] } y) := ⟨by
    intro ma mc b14 b15 y hS hT n14 g14 n15 g15
    rw [hG, hA0]
    simp only [List.set_cons_zero, List.set_cons_succ]
    refine two_keep (i := 6) (j := 12) (by kernel_rfl) ?_ ?_
    ·as_aux_lemma =>
      refine keep_step rfl (by rfl) ?_
      go_simp
      refine Calls.mono (HRo.out _ ma mc hS hT) ?_
      rintro e z ⟨V2, r2, rfl, hA, hQ, hb⟩
      have hS := below_to hS hb
      have n14 := n14.below hb
      have n15 := n15.below hb
      clear hb hT
      refine ⟨hS, ?_⟩
      try simp only [Act.put, pC, pD, pE, pF, pG, pH]
      refine take_x (i := 7) (v := ?_) rfl ?_ hS ?_
      rotate_left
      ·rintro w' -; go_simp <;> with_reducible rfl
      try simp only [Act.put, pC, pD, pE, pF, pG, pH]
      refine take_x (i := 8) (v := ?_) rfl ?_ hS ?_
      rotate_left
      ·rintro w' -; go_simp <;> with_reducible rfl
      try simp only [Act.put, pC, pD, pE, pF, pG, pH]
      refine take_x (i := 9) (v := ?_) rfl ?_ hS ?_
      rotate_left
      ·rintro w' -; go_simp <;> with_reducible rfl
      try simp only [Act.put, pC, pD, pE, pF, pG, pH]
      refine take_x (i := 10) (v := ?_) rfl ?_ hS ?_
      rotate_left
      ·rintro w' -; go_simp <;> with_reducible rfl
      try simp only [Act.put, pC, pD, pE, pF, pG, pH]
      refine take_x (i := 11) (v := ?_) rfl ?_ hS ?_
      rotate_left
      ·rintro w' -; go_simp <;> with_reducible rfl
      try simp only [Act.put, pC, pD, pE, pF, pG, pH]
      exact dag_to3 hG (by kernel_rfl) (by rw [hA0]; kernel_rfl) (HN2_13_14.out ma mc V2 r2 b14 b15 _ hS hA hQ n14 g14 n15 g15)
    ·as_aux_lemma =>
      refine keep_step rfl (by rfl) (al_arm 36 rfl _ HZZ.out.1.1 hS fun b13 z n13 g13 hb hS => ?_)
      try simp only [Act.put, pC, pD, pE, pF, pG, pH]
      exact dag_to3 hG (by kernel_rfl) (by rw [hA0]; kernel_rfl) (HN1_12_13_14.out ma mc b13 b14 b15 _ hS (hT.below hb) n13 g13 (n14.below hb) g14 (n15.below hb) g15)⟩
   have HN1_12 : Box (∀ ma mc b13 (y : World), Below x5.heap.size x5 y -> Tb y ma 2 ic P -> Nb y b13 ZD 36 -> x5.heap.size <= b13 -> G 12 #[true, true, true, true, true, true, false, false, false, false, false, false, true, false, false, false, false, false, false] { tmps := ((L0.set 42 (Value.slice ma n mc)).set 13 (Value.pointer (some { block := b13, off := 0 }))).toArray, defers := [] } y) := ⟨by
    intro ma mc b13 y hS hT n13 g13
    rw [hG, hA0]
    simp only [List.set_cons_zero, List.set_cons_succ]
    refine wpAnyH_all (rs := [6, 13, 14]) (by kernel_rfl) (by simp) (fun q hq => ?_)
    simp only [List.mem_cons, List.not_mem_nil, or_false] at hq
    rcases hq with rfl | rfl | rfl
    ·as_aux_lemma =>
      refine keep_step rfl (by rfl) ?_
      go_simp
      refine Calls.mono (HRo.out _ ma mc hS hT) ?_
      rintro e z ⟨V2, r2, rfl, hA, hQ, hb⟩
      have hS := below_to hS hb
      have n13 := n13.below hb
      clear hb hT
      refine ⟨hS, ?_⟩
      try simp only [Act.put, pC, pD, pE, pF, pG, pH]
      refine take_x (i := 7) (v := ?_) rfl ?_ hS ?_
      rotate_left
      ·rintro w' -; go_simp <;> with_reducible rfl
      try simp only [Act.put, pC, pD, pE, pF, pG, pH]
      refine take_x (i := 8) (v := ?_) rfl ?_ hS ?_
      rotate_left
      ·rintro w' -; go_simp <;> with_reducible rfl
      try simp only [Act.put, pC, pD, pE, pF, pG, pH]
      refine take_x (i := 9) (v := ?_) rfl ?_ hS ?_
      rotate_left
      ·rintro w' -; go_simp <;> with_reducible rfl
      try simp only [Act.put, pC, pD, pE, pF, pG, pH]
      refine take_x (i := 10) (v := ?_) rfl ?_ hS ?_
      rotate_left
      ·rintro w' -; go_simp <;> with_reducible rfl
      try simp only [Act.put, pC, pD, pE, pF, pG, pH]
      refine take_x (i := 11) (v := ?_) rfl ?_ hS ?_
      rotate_left
      ·rintro w' -; go_simp <;> with_reducible rfl
      try simp only [Act.put, pC, pD, pE, pF, pG, pH]
      exact dag_to3 hG (by kernel_rfl) (by rw [hA0]; kernel_rfl) (HN2_12.out ma mc V2 r2 b13 _ hS hA hQ n13 g13)
    ·as_aux_lemma =>
      refine keep_step rfl (by rfl) (al_arm 44 rfl _ HZZ.out.2.1 hS fun b14 z n14 g14 hb hS => ?_)
      try simp only [Act.put, pC, pD, pE, pF, pG, pH]
      exact dag_to3 hG (by kernel_rfl) (by rw [hA0]; kernel_rfl) (HN1_12_13.out ma mc b13 b14 _ hS (hT.below hb) (n13.below hb) g13 n14 g14)
    ·as_aux_lemma =>
      refine keep_step rfl (by rfl) (al_arm 42 rfl _ zeroS13 hS fun b15 z n15 g15 hb hS => ?_)
      try simp only [Act.put, pC, pD, pE, pF, pG, pH]
      exact dag_to3 hG (by kernel_rfl) (by rw [hA0]; kernel_rfl) (HN1_12_14.out ma mc b13 b15 _ hS (hT.below hb) (n13.below hb) g13 n15 g15)⟩
   have HN1_13 : Box (∀ ma mc b14 (y : World), Below x5.heap.size x5 y -> Tb y ma 2 ic P -> Nb y b14 ZJ 44 -> x5.heap.size <= b14 -> G 12 #[true, true, true, true, true, true, false, false, false, false, false, false, false, true, false, false, false, false, false] { tmps := ((L0.set 42 (Value.slice ma n mc)).set 14 (Value.pointer (some { block := b14, off := 0 }))).toArray, defers := [] } y) := ⟨by
    intro ma mc b14 y hS hT n14 g14
    rw [hG, hA0]
    simp only [List.set_cons_zero, List.set_cons_succ]
    refine wpAnyH_all (rs := [6, 12, 14]) (by kernel_rfl) (by simp) (fun q hq => ?_)
    simp only [List.mem_cons, List.not_mem_nil, or_false] at hq
    rcases hq with rfl | rfl | rfl
    ·as_aux_lemma =>
      refine keep_step rfl (by rfl) ?_
      go_simp
      refine Calls.mono (HRo.out _ ma mc hS hT) ?_
      rintro e z ⟨V2, r2, rfl, hA, hQ, hb⟩
      have hS := below_to hS hb
      have n14 := n14.below hb
      clear hb hT
      refine ⟨hS, ?_⟩
      try simp only [Act.put, pC, pD, pE, pF, pG, pH]
      refine take_x (i := 7) (v := ?_) rfl ?_ hS ?_
      rotate_left
      ·rintro w' -; go_simp <;> with_reducible rfl
      try simp only [Act.put, pC, pD, pE, pF, pG, pH]
      refine take_x (i := 8) (v := ?_) rfl ?_ hS ?_
      rotate_left
      ·rintro w' -; go_simp <;> with_reducible rfl
      try simp only [Act.put, pC, pD, pE, pF, pG, pH]
      refine take_x (i := 9) (v := ?_) rfl ?_ hS ?_
      rotate_left
      ·rintro w' -; go_simp <;> with_reducible rfl
      try simp only [Act.put, pC, pD, pE, pF, pG, pH]
      refine take_x (i := 10) (v := ?_) rfl ?_ hS ?_
      rotate_left
      ·rintro w' -; go_simp <;> with_reducible rfl
      try simp only [Act.put, pC, pD, pE, pF, pG, pH]
      refine take_x (i := 11) (v := ?_) rfl ?_ hS ?_
      rotate_left
      ·rintro w' -; go_simp <;> with_reducible rfl
      try simp only [Act.put, pC, pD, pE, pF, pG, pH]
      exact dag_to3 hG (by kernel_rfl) (by rw [hA0]; kernel_rfl) (HN2_13.out ma mc V2 r2 b14 _ hS hA hQ n14 g14)
    ·as_aux_lemma =>
      refine keep_step rfl (by rfl) (al_arm 36 rfl _ HZZ.out.1.1 hS fun b13 z n13 g13 hb hS => ?_)
      try simp only [Act.put, pC, pD, pE, pF, pG, pH]
      exact dag_to3 hG (by kernel_rfl) (by rw [hA0]; kernel_rfl) (HN1_12_13.out ma mc b13 b14 _ hS (hT.below hb) n13 g13 (n14.below hb) g14)
    ·as_aux_lemma =>
      refine keep_step rfl (by rfl) (al_arm 42 rfl _ zeroS13 hS fun b15 z n15 g15 hb hS => ?_)
      try simp only [Act.put, pC, pD, pE, pF, pG, pH]
      exact dag_to3 hG (by kernel_rfl) (by rw [hA0]; kernel_rfl) (HN1_13_14.out ma mc b14 b15 _ hS (hT.below hb) (n14.below hb) g14 n15 g15)⟩
   have HN1_14 : Box (∀ ma mc b15 (y : World), Below x5.heap.size x5 y -> Tb y ma 2 ic P -> Nb y b15 (sa zs) 42 -> x5.heap.size <= b15 -> G 12 #[true, true, true, true, true, true, false, false, false, false, false, false, false, false, true, false, false, false, false] { tmps := ((L0.set 42 (Value.slice ma n mc)).set 15 (Value.pointer (some { block := b15, off := 0 }))).toArray, defers := [] } y) := ⟨by
    intro ma mc b15 y hS hT n15 g15
    rw [hG, hA0]
    simp only [List.set_cons_zero, List.set_cons_succ]
    refine wpAnyH_all (rs := [6, 12, 13]) (by kernel_rfl) (by simp) (fun q hq => ?_)
    simp only [List.mem_cons, List.not_mem_nil, or_false] at hq
    rcases hq with rfl | rfl | rfl
    ·as_aux_lemma =>
      refine keep_step rfl (by rfl) ?_
      go_simp
      refine Calls.mono (HRo.out _ ma mc hS hT) ?_
      rintro e z ⟨V2, r2, rfl, hA, hQ, hb⟩
      have hS := below_to hS hb
      have n15 := n15.below hb
      clear hb hT
      refine ⟨hS, ?_⟩
      try simp only [Act.put, pC, pD, pE, pF, pG, pH]
      refine take_x (i := 7) (v := ?_) rfl ?_ hS ?_
      rotate_left
      ·rintro w' -; go_simp <;> with_reducible rfl
      try simp only [Act.put, pC, pD, pE, pF, pG, pH]
      refine take_x (i := 8) (v := ?_) rfl ?_ hS ?_
      rotate_left
      ·rintro w' -; go_simp <;> with_reducible rfl
      try simp only [Act.put, pC, pD, pE, pF, pG, pH]
      refine take_x (i := 9) (v := ?_) rfl ?_ hS ?_
      rotate_left
      ·rintro w' -; go_simp <;> with_reducible rfl
      try simp only [Act.put, pC, pD, pE, pF, pG, pH]
      refine take_x (i := 10) (v := ?_) rfl ?_ hS ?_
      rotate_left
      ·rintro w' -; go_simp <;> with_reducible rfl
      try simp only [Act.put, pC, pD, pE, pF, pG, pH]
      refine take_x (i := 11) (v := ?_) rfl ?_ hS ?_
      rotate_left
      ·rintro w' -; go_simp <;> with_reducible rfl
      try simp only [Act.put, pC, pD, pE, pF, pG, pH]
      exact dag_to3 hG (by kernel_rfl) (by rw [hA0]; kernel_rfl) (HN2_14.out ma mc V2 r2 b15 _ hS hA hQ n15 g15)
    ·as_aux_lemma =>
      refine keep_step rfl (by rfl) (al_arm 36 rfl _ HZZ.out.1.1 hS fun b13 z n13 g13 hb hS => ?_)
      try simp only [Act.put, pC, pD, pE, pF, pG, pH]
      exact dag_to3 hG (by kernel_rfl) (by rw [hA0]; kernel_rfl) (HN1_12_14.out ma mc b13 b15 _ hS (hT.below hb) n13 g13 (n15.below hb) g15)
    ·as_aux_lemma =>
      refine keep_step rfl (by rfl) (al_arm 44 rfl _ HZZ.out.2.1 hS fun b14 z n14 g14 hb hS => ?_)
      try simp only [Act.put, pC, pD, pE, pF, pG, pH]
      exact dag_to3 hG (by kernel_rfl) (by rw [hA0]; kernel_rfl) (HN1_13_14.out ma mc b14 b15 _ hS (hT.below hb) n14 g14 (n15.below hb) g15)⟩
   have HN1 : Box (∀ ma mc (y : World), Below x5.heap.size x5 y -> Tb y ma 2 ic P -> G 13 #[true, true, true, true, true, true, false, false, false, false, false, false, false, false, false, false, false, false, false] { tmps := (L0.set 42 (Value.slice ma n mc)).toArray, defers := [] } y) := ⟨by
    intro ma mc y hS hT
    rw [hG, hA0]
    simp only [List.set_cons_zero, List.set_cons_succ]
    refine wpAnyH_all (rs := [6, 12, 13, 14]) (by kernel_rfl) (by simp) (fun q hq => ?_)
    simp only [List.mem_cons, List.not_mem_nil, or_false] at hq
    rcases hq with rfl | rfl | rfl | rfl
    ·as_aux_lemma =>
      refine keep_step rfl (by rfl) ?_
      go_simp
      refine Calls.mono (HRo.out _ ma mc hS hT) ?_
      rintro e z ⟨V2, r2, rfl, hA, hQ, hb⟩
      have hS := below_to hS hb
      clear hb hT
      refine ⟨hS, ?_⟩
      try simp only [Act.put, pC, pD, pE, pF, pG, pH]
      refine take_x (i := 7) (v := ?_) rfl ?_ hS ?_
      rotate_left
      ·rintro w' -; go_simp <;> with_reducible rfl
      try simp only [Act.put, pC, pD, pE, pF, pG, pH]
      refine take_x (i := 8) (v := ?_) rfl ?_ hS ?_
      rotate_left
      ·rintro w' -; go_simp <;> with_reducible rfl
      try simp only [Act.put, pC, pD, pE, pF, pG, pH]
      refine take_x (i := 9) (v := ?_) rfl ?_ hS ?_
      rotate_left
      ·rintro w' -; go_simp <;> with_reducible rfl
      try simp only [Act.put, pC, pD, pE, pF, pG, pH]
      refine take_x (i := 10) (v := ?_) rfl ?_ hS ?_
      rotate_left
      ·rintro w' -; go_simp <;> with_reducible rfl
      try simp only [Act.put, pC, pD, pE, pF, pG, pH]
      refine take_x (i := 11) (v := ?_) rfl ?_ hS ?_
      rotate_left
      ·rintro w' -; go_simp <;> with_reducible rfl
      try simp only [Act.put, pC, pD, pE, pF, pG, pH]
      exact dag_to3 hG (by kernel_rfl) (by rw [hA0]; kernel_rfl) (HN2.out ma mc V2 r2 _ hS hA hQ)
    ·as_aux_lemma =>
      refine keep_step rfl (by rfl) (al_arm 36 rfl _ HZZ.out.1.1 hS fun b13 z n13 g13 hb hS => ?_)
      try simp only [Act.put, pC, pD, pE, pF, pG, pH]
      exact dag_to3 hG (by kernel_rfl) (by rw [hA0]; kernel_rfl) (HN1_12.out ma mc b13 _ hS (hT.below hb) n13 g13)
    ·as_aux_lemma =>
      refine keep_step rfl (by rfl) (al_arm 44 rfl _ HZZ.out.2.1 hS fun b14 z n14 g14 hb hS => ?_)
      try simp only [Act.put, pC, pD, pE, pF, pG, pH]
      exact dag_to3 hG (by kernel_rfl) (by rw [hA0]; kernel_rfl) (HN1_13.out ma mc b14 _ hS (hT.below hb) n14 g14)
    ·as_aux_lemma =>
      refine keep_step rfl (by rfl) (al_arm 42 rfl _ zeroS13 hS fun b15 z n15 g15 hb hS => ?_)
      try simp only [Act.put, pC, pD, pE, pF, pG, pH]
      exact dag_to3 hG (by kernel_rfl) (by rw [hA0]; kernel_rfl) (HN1_14.out ma mc b15 _ hS (hT.below hb) n15 g15)⟩
   have HN0_12_13_14 : Box (∀ b13 b14 b15 (y : World), Below x5.heap.size x5 y -> Nb y b13 ZD 36 -> x5.heap.size <= b13 -> Nb y b14 ZJ 44 -> x5.heap.size <= b14 -> Nb y b15 (sa zs) 42 -> x5.heap.size <= b15 -> G 11 #[true, true, true, true, true, false, false, false, false, false, false, false, true, true, true, false, false, false, false] { tmps := (((L0.set 13 (Value.pointer (some { block := b13, off := 0 }))).set 14 (Value.pointer (some { block := b14, off := 0 }))).set 15 (Value.pointer (some { block := b15, off := 0 }))).toArray, defers := [] } y) := ⟨by
    intro b13 b14 b15 y hS n13 g13 n14 g14 n15 g15
    rw [hG, hA0]
    simp only [List.set_cons_zero, List.set_cons_succ]
    refine one_keep (i := 5) (by kernel_rfl) ?_
    refine keep_step rfl (by rfl) ?_
    go_simp
    refine Calls.mono (HMo.out _ hS) ?_
    rintro e z ⟨ma, mc, rfl, hT, hb⟩
    have hS := below_to hS hb
    have n13 := n13.below hb
    have n14 := n14.below hb
    have n15 := n15.below hb
    clear hb
    refine ⟨hS, ?_⟩
    try simp only [Act.put, pC, pD, pE, pF, pG, pH]
    exact dag_to3 hG (by kernel_rfl) (by rw [hA0]; kernel_rfl) (HN1_12_13_14.out ma mc b13 b14 b15 _ hS hT n13 g13 n14 g14 n15 g15)⟩
   have HN0_12_13 : Box (∀ b13 b14 (y : World), Below x5.heap.size x5 y -> Nb y b13 ZD 36 -> x5.heap.size <= b13 -> Nb y b14 ZJ 44 -> x5.heap.size <= b14 -> G 12 #[true, true, true, true, true, false, false, false, false, false, false, false, true, true, false, false, false, false, false] { tmps := ((L0.set 13 (Value.pointer (some { block := b13, off := 0 }))).set 14 (Value.pointer (some { block := b14, off := 0 }))).toArray, defers := [] } y) := ⟨by
    intro b13 b14 y hS n13 g13 n14 g14
    rw [hG, hA0]
    simp only [List.set_cons_zero, List.set_cons_succ]
    refine two_keep (i := 5) (j := 14) (by kernel_rfl) ?_ ?_
    ·as_aux_lemma =>
      refine keep_step rfl (by rfl) ?_
      go_simp
      refine Calls.mono (HMo.out _ hS) ?_
      rintro e z ⟨ma, mc, rfl, hT, hb⟩
      have hS := below_to hS hb
      have n13 := n13.below hb
      have n14 := n14.below hb
      clear hb
      refine ⟨hS, ?_⟩
      try simp only [Act.put, pC, pD, pE, pF, pG, pH]
      exact dag_to3 hG (by kernel_rfl) (by rw [hA0]; kernel_rfl) (HN1_12_13.out ma mc b13 b14 _ hS hT n13 g13 n14 g14)
    ·as_aux_lemma =>
      refine keep_step rfl (by rfl) (al_arm 42 rfl _ zeroS13 hS fun b15 z n15 g15 hb hS => ?_)
      try simp only [Act.put, pC, pD, pE, pF, pG, pH]
      exact dag_to3 hG (by kernel_rfl) (by rw [hA0]; kernel_rfl) (HN0_12_13_14.out b13 b14 b15 _ hS (n13.below hb) g13 (n14.below hb) g14 n15 g15)⟩
   have HN0_12_14 : Box (∀ b13 b15 (y : World), Below x5.heap.size x5 y -> Nb y b13 ZD 36 -> x5.heap.size <= b13 -> Nb y b15 (sa zs) 42 -> x5.heap.size <= b15 -> G 12 #[true, true, true, true, true, false, false, false, false, false, false, false, true, false, true, false, false, false, false] { tmps := ((L0.set 13 (Value.pointer (some { block := b13, off := 0 }))).set 15 (Value.pointer (some { block := b15, off := 0 }))).toArray, defers := [] } y) := ⟨by
    intro b13 b15 y hS n13 g13 n15 g15
    rw [hG, hA0]
    simp only [List.set_cons_zero, List.set_cons_succ]
    refine two_keep (i := 5) (j := 13) (by kernel_rfl) ?_ ?_
    ·as_aux_lemma =>
      refine keep_step rfl (by rfl) ?_
      go_simp
      refine Calls.mono (HMo.out _ hS) ?_
      rintro e z ⟨ma, mc, rfl, hT, hb⟩
      have hS := below_to hS hb
      have n13 := n13.below hb
      have n15 := n15.below hb
      clear hb
      refine ⟨hS, ?_⟩
      try simp only [Act.put, pC, pD, pE, pF, pG, pH]
      exact dag_to3 hG (by kernel_rfl) (by rw [hA0]; kernel_rfl) (HN1_12_14.out ma mc b13 b15 _ hS hT n13 g13 n15 g15)
    ·as_aux_lemma =>
      refine keep_step rfl (by rfl) (al_arm 44 rfl _ HZZ.out.2.1 hS fun b14 z n14 g14 hb hS => ?_)
      try simp only [Act.put, pC, pD, pE, pF, pG, pH]
      exact dag_to3 hG (by kernel_rfl) (by rw [hA0]; kernel_rfl) (HN0_12_13_14.out b13 b14 b15 _ hS (n13.below hb) g13 n14 g14 (n15.below hb) g15)⟩
   have HN0_13_14 : Box (∀ b14 b15 (y : World), Below x5.heap.size x5 y -> Nb y b14 ZJ 44 -> x5.heap.size <= b14 -> Nb y b15 (sa zs) 42 -> x5.heap.size <= b15 -> G 12 #[true, true, true, true, true, false, false, false, false, false, false, false, false, true, true, false, false, false, false] { tmps := ((L0.set 14 (Value.pointer (some { block := b14, off := 0 }))).set 15 (Value.pointer (some { block := b15, off := 0 }))).toArray, defers := [] } y) := ⟨by
    intro b14 b15 y hS n14 g14 n15 g15
    rw [hG, hA0]
    simp only [List.set_cons_zero, List.set_cons_succ]
    refine two_keep (i := 5) (j := 12) (by kernel_rfl) ?_ ?_
    ·as_aux_lemma =>
      refine keep_step rfl (by rfl) ?_
      go_simp
      refine Calls.mono (HMo.out _ hS) ?_
      rintro e z ⟨ma, mc, rfl, hT, hb⟩
      have hS := below_to hS hb
      have n14 := n14.below hb
      have n15 := n15.below hb
      clear hb
      refine ⟨hS, ?_⟩
      try simp only [Act.put, pC, pD, pE, pF, pG, pH]
      exact dag_to3 hG (by kernel_rfl) (by rw [hA0]; kernel_rfl) (HN1_13_14.out ma mc b14 b15 _ hS hT n14 g14 n15 g15)
    ·as_aux_lemma =>
      refine keep_step rfl (by rfl) (al_arm 36 rfl _ HZZ.out.1.1 hS fun b13 z n13 g13 hb hS => ?_)
      try simp only [Act.put, pC, pD, pE, pF, pG, pH]
      exact dag_to3 hG (by kernel_rfl) (by rw [hA0]; kernel_rfl) (HN0_12_13_14.out b13 b14 b15 _ hS n13 g13 (n14.below hb) g14 (n15.below hb) g15)⟩
   have HN0_12 : Box (∀ b13 (y : World), Below x5.heap.size x5 y -> Nb y b13 ZD 36 -> x5.heap.size <= b13 -> G 13 #[true, true, true, true, true, false, false, false, false, false, false, false, true, false, false, false, false, false, false] { tmps := (L0.set 13 (Value.pointer (some { block := b13, off := 0 }))).toArray, defers := [] } y) := ⟨by
    intro b13 y hS n13 g13
    rw [hG, hA0]
    simp only [List.set_cons_zero, List.set_cons_succ]
    refine wpAnyH_all (rs := [5, 13, 14]) (by kernel_rfl) (by simp) (fun q hq => ?_)
    simp only [List.mem_cons, List.not_mem_nil, or_false] at hq
    rcases hq with rfl | rfl | rfl
    ·as_aux_lemma =>
      refine keep_step rfl (by rfl) ?_
      go_simp
      refine Calls.mono (HMo.out _ hS) ?_
      rintro e z ⟨ma, mc, rfl, hT, hb⟩
      have hS := below_to hS hb
      have n13 := n13.below hb
      clear hb
      refine ⟨hS, ?_⟩
      try simp only [Act.put, pC, pD, pE, pF, pG, pH]
      exact dag_to3 hG (by kernel_rfl) (by rw [hA0]; kernel_rfl) (HN1_12.out ma mc b13 _ hS hT n13 g13)
    ·as_aux_lemma =>
      refine keep_step rfl (by rfl) (al_arm 44 rfl _ HZZ.out.2.1 hS fun b14 z n14 g14 hb hS => ?_)
      try simp only [Act.put, pC, pD, pE, pF, pG, pH]
      exact dag_to3 hG (by kernel_rfl) (by rw [hA0]; kernel_rfl) (HN0_12_13.out b13 b14 _ hS (n13.below hb) g13 n14 g14)
    ·as_aux_lemma =>
      refine keep_step rfl (by rfl) (al_arm 42 rfl _ zeroS13 hS fun b15 z n15 g15 hb hS => ?_)
      try simp only [Act.put, pC, pD, pE, pF, pG, pH]
      exact dag_to3 hG (by kernel_rfl) (by rw [hA0]; kernel_rfl) (HN0_12_14.out b13 b15 _ hS (n13.below hb) g13 n15 g15)⟩
   have HN0_13 : Box (∀ b14 (y : World), Below x5.heap.size x5 y -> Nb y b14 ZJ 44 -> x5.heap.size <= b14 -> G 13 #[true, true, true, true, true, false, false, false, false, false, false, false, false, true, false, false, false, false, false] { tmps := (L0.set 14 (Value.pointer (some { block := b14, off := 0 }))).toArray, defers := [] } y) := ⟨by
    intro b14 y hS n14 g14
    rw [hG, hA0]
    simp only [List.set_cons_zero, List.set_cons_succ]
    refine wpAnyH_all (rs := [5, 12, 14]) (by kernel_rfl) (by simp) (fun q hq => ?_)
    simp only [List.mem_cons, List.not_mem_nil, or_false] at hq
    rcases hq with rfl | rfl | rfl
    ·as_aux_lemma =>
      refine keep_step rfl (by rfl) ?_
      go_simp
      refine Calls.mono (HMo.out _ hS) ?_
      rintro e z ⟨ma, mc, rfl, hT, hb⟩
      have hS := below_to hS hb
      have n14 := n14.below hb
      clear hb
      refine ⟨hS, ?_⟩
      try simp only [Act.put, pC, pD, pE, pF, pG, pH]
      exact dag_to3 hG (by kernel_rfl) (by rw [hA0]; kernel_rfl) (HN1_13.out ma mc b14 _ hS hT n14 g14)
    ·as_aux_lemma =>
      refine keep_step rfl (by rfl) (al_arm 36 rfl _ HZZ.out.1.1 hS fun b13 z n13 g13 hb hS => ?_)
      try simp only [Act.put, pC, pD, pE, pF, pG, pH]
      exact dag_to3 hG (by kernel_rfl) (by rw [hA0]; kernel_rfl) (HN0_12_13.out b13 b14 _ hS n13 g13 (n14.below hb) g14)
    ·as_aux_lemma =>
      refine keep_step rfl (by rfl) (al_arm 42 rfl _ zeroS13 hS fun b15 z n15 g15 hb hS => ?_)
      try simp only [Act.put, pC, pD, pE, pF, pG, pH]
      exact dag_to3 hG (by kernel_rfl) (by rw [hA0]; kernel_rfl) (HN0_13_14.out b14 b15 _ hS (n14.below hb) g14 n15 g15)⟩
   have HN0_14 : Box (∀ b15 (y : World), Below x5.heap.size x5 y -> Nb y b15 (sa zs) 42 -> x5.heap.size <= b15 -> G 13 #[true, true, true, true, true, false, false, false, false, false, false, false, false, false, true, false, false, false, false] { tmps := (L0.set 15 (Value.pointer (some { block := b15, off := 0 }))).toArray, defers := [] } y) := ⟨by
    intro b15 y hS n15 g15
    rw [hG, hA0]
    simp only [List.set_cons_zero, List.set_cons_succ]
    refine wpAnyH_all (rs := [5, 12, 13]) (by kernel_rfl) (by simp) (fun q hq => ?_)
    simp only [List.mem_cons, List.not_mem_nil, or_false] at hq
    rcases hq with rfl | rfl | rfl
    ·as_aux_lemma =>
      refine keep_step rfl (by rfl) ?_
      go_simp
      refine Calls.mono (HMo.out _ hS) ?_
      rintro e z ⟨ma, mc, rfl, hT, hb⟩
      have hS := below_to hS hb
      have n15 := n15.below hb
      clear hb
      refine ⟨hS, ?_⟩
      try simp only [Act.put, pC, pD, pE, pF, pG, pH]
      exact dag_to3 hG (by kernel_rfl) (by rw [hA0]; kernel_rfl) (HN1_14.out ma mc b15 _ hS hT n15 g15)
    ·as_aux_lemma =>
      refine keep_step rfl (by rfl) (al_arm 36 rfl _ HZZ.out.1.1 hS fun b13 z n13 g13 hb hS => ?_)
      try simp only [Act.put, pC, pD, pE, pF, pG, pH]
      exact dag_to3 hG (by kernel_rfl) (by rw [hA0]; kernel_rfl) (HN0_12_14.out b13 b15 _ hS n13 g13 (n15.below hb) g15)
    ·as_aux_lemma =>
      refine keep_step rfl (by rfl) (al_arm 44 rfl _ HZZ.out.2.1 hS fun b14 z n14 g14 hb hS => ?_)
      try simp only [Act.put, pC, pD, pE, pF, pG, pH]
      exact dag_to3 hG (by kernel_rfl) (by rw [hA0]; kernel_rfl) (HN0_13_14.out b14 b15 _ hS n14 g14 (n15.below hb) g15)⟩
   rw [hG, hA0]
   refine wpAnyH_all (rs := [5, 12, 13, 14]) (by kernel_rfl) (by simp) (fun q hq => ?_)
   simp only [List.mem_cons, List.not_mem_nil, or_false] at hq
   rcases hq with rfl | rfl | rfl | rfl
   ·as_aux_lemma =>
     refine keep_step rfl (by rfl) ?_
     go_simp
     refine Calls.mono (HMo.out _ hS) ?_
     rintro e z ⟨ma, mc, rfl, hT, hb⟩
     have hS := below_to hS hb
     clear hb
     refine ⟨hS, ?_⟩
     try simp only [Act.put, pC, pD, pE, pF, pG, pH]
     exact dag_to3 hG (by kernel_rfl) (by rw [hA0]; kernel_rfl) (HN1.out ma mc _ hS hT)
   ·as_aux_lemma =>
     refine keep_step rfl (by rfl) (al_arm 36 rfl _ HZZ.out.1.1 hS fun b13 z n13 g13 hb hS => ?_)
     try simp only [Act.put, pC, pD, pE, pF, pG, pH]
     exact dag_to3 hG (by kernel_rfl) (by rw [hA0]; kernel_rfl) (HN0_12.out b13 _ hS n13 g13)
   ·as_aux_lemma =>
     refine keep_step rfl (by rfl) (al_arm 44 rfl _ HZZ.out.2.1 hS fun b14 z n14 g14 hb hS => ?_)
     try simp only [Act.put, pC, pD, pE, pF, pG, pH]
     exact dag_to3 hG (by kernel_rfl) (by rw [hA0]; kernel_rfl) (HN0_13.out b14 _ hS n14 g14)
   ·as_aux_lemma =>
     refine keep_step rfl (by rfl) (al_arm 42 rfl _ zeroS13 hS fun b15 z n15 g15 hb hS => ?_)
     try simp only [Act.put, pC, pD, pE, pF, pG, pH]
     exact dag_to3 hG (by kernel_rfl) (by rw [hA0]; kernel_rfl) (HN0_14.out b15 _ hS n15 g15)
  ·have hq3 : 3 <= q := by have := HB2.out; simp at this; omega
   have hq7 := HQ.out
   have HPA : Box (∃ J1, rqj j = J1 /\ J1.length = 70 /\ pqs V J1 (scs s) (scs s) = PA) := ⟨_, rfl, len_rqj HX1.out.sc.ok, HJ.out.2.2.2.2.1⟩
   obtain ⟨J1, hJ1, lJ1, hPA⟩ := HPA.out
   have HJ1 : Box (rqj j = J1 /\ J1.length = 70 /\ (scs s).length = 34 /\ V.toArray.all (·.oneCell') = true) := ⟨hJ1, lJ1, len_scs HJ.out.2.2.1, rv_all HR1.out⟩
   have HX1' : Box (Sbx x0 w wc S J D j d A (pqs V J1 (scs s) (scs s))) := ⟨by rw [hPA]; exact HX1.out⟩
   clear HX1 HPA hJ1 lJ1 hPA HB2
   have HIs : Box ((Tryd.prog.info? 26).map (·.size) = some (scs s).length /\ (Tryd.prog.info? 42).map (·.size) = some (scs s).length /\ (scs s).toArray = sa s /\ (Tryd.prog.info? 44).map (·.size) = some J1.length /\ (Tryd.prog.info? 36).map (·.size) = some V.length) := ⟨by rw [HJ1.out.2.2.1]; exact infoSt, by rw [HJ1.out.2.2.1]; exact infoS13, rfl, by rw [HJ1.out.2.1]; exact infoRj, by rw [HJ.out.2.2.2.1]; exact Disk.infoD⟩
   obtain ⟨SA, HSA⟩ : ∃ L, Box (sa s = L) := ⟨_, ⟨rfl⟩⟩
   obtain ⟨l0, hl0⟩ : ∃ x, A.lim = x := ⟨_, rfl⟩
   have HL0 : Box (A.lim = l0 /\ 0 <= l0 /\ l0 <= 18446744073709551615) := ⟨hl0, by rw [<- hl0]; exact HA.out.lim.1, by rw [<- hl0]; exact HA.out.lim.2⟩
   clear hl0
   obtain ⟨b4, hb4⟩ : ∃ b, decide (q <= 4) = b := ⟨_, rfl⟩
   go_upto_if 68 with fail
   go_cut [20, 68] from 69 (fun c b wx => c = .int .i64 (q : Int) /\ b = .bool b4 /\ wx = wc)
   case first =>
    by_cases h3 : q = 3
    ·have e3 : ((q : Int) == 3) = true := by simp; omega
     go_wp2
     go_meet
     exact ⟨by simp [h3], by rw [<- hb4]; simp; omega, rfl⟩
    ·have e3 : ((q : Int) == 3) = false := by simp; omega
     go_wp2
     go_meet
     exact ⟨rfl, by congr 1; rw [<- hb4, Bool.eq_iff_iff]; simp; omega, rfl⟩
   case rest =>
    obtain ⟨rfl, rfl, rfl⟩ := hcut
    have HB4 : Box (decide (q <= 4) = b4) := ⟨hb4⟩
    clear hb4 hq3 hq7
    obtain rfl | rfl : b4 = true ∨ b4 = false := by cases b4 <;> simp
    ·clear HB4
     obtain ⟨-, -, -, -, c4, -, -⟩ := HX1'.out.arr HA.out.st
     rw [HL0.out.1] at c4
     have HAD : Box (Calls Tryd.prog 17 #[.pointer (some ⟨J, 0, none⟩), .agg SA, .int .u64 l0] wc fun e z => e = .returned (.tuple #[]) /\ Sc x0 z J D (adp j s l0) d /\ Kj wc z) := ⟨by
      have := adopt_s HX1'.out.sc s HJ.out.2.2.1 l0 HL0.out.2
      rw [HSA.out] at this
      exact this⟩
     have HRa : Box (wc.rangeAt S 76 (scs s)) := ⟨prange2 HX1'.out.p HJ.out.2.2.2.1 HJ1.out.2.1⟩
     go_upto_region 17 with (first
      | (refine atLoad 26 ?_; refine wpList_ldMid rfl 26 _ _ rfl Tryd.underlying26 rfl S 76 rfl (scs s) HIs.out.1 HRa.out ?_; rw [HIs.out.2.2.1, HSA.out])
      | (go_at_call 17; refine HAD.out.mono ?_; rintro e x2 ⟨rfl, q1, q2⟩; have H2 : Box (Sbx x0 w x2 S J D (adp j s l0) d A (pqs V J1 (scs s) (scs s)) /\ Disk.Rv x2 (.agg V.toArray) r) := ⟨HX1'.out.on q1 q2, q2.rv HR1.out⟩; clear q1 q2))
     obtain ⟨jn, hjn⟩ : ∃ x, adp j s l0 = x := ⟨_, rfl⟩
     rw [hjn] at H2
     obtain ⟨Jn, hJn⟩ : ∃ L, rqj jn = L := ⟨_, rfl⟩
     have HJn : Box (Jn.length = 70 /\ Jn.toArray.all (·.oneCell') = true) := ⟨by rw [<- hJn]; exact len_rqj H2.out.1.sc.ok, by rw [<- hJn]; exact all_rq _ _ _ _ _ _⟩
     have HRD : Box (∀ x, Calls Tryd.prog 25 #[.agg J1.toArray, .agg SA, .int .u64 l0] x fun e z => e = .returned (.agg Jn.toArray) /\ Below x.heap.size x z) := ⟨fun x => by
      have := radopt_any j.key HX1'.out.sc.ok.key j rfl HX1'.out.sc.ok s HJ.out.2.2.1 l0 HL0.out.2.1 x
      rw [hjn] at this
      rw [<- HJ1.out.1, <- hJn, <- HSA.out]
      exact this⟩
     have HJe : Box (rqj jn = Jn) := ⟨hJn⟩
     clear c4 HAD HRa hjn hJn HR1 HX1'
     obtain ⟨-, -, -, -, c4, -, -⟩ := H2.out.1.arr HA.out.st
     rw [HL0.out.1] at c4
     have HRa : Box (x2.rangeAt S 6 J1 /\ x2.rangeAt S 110 (scs s)) := ⟨prange1 H2.out.1.p HJ.out.2.2.2.1, prange3 H2.out.1.p HJ.out.2.2.2.1 HJ1.out.2.1 HJ1.out.2.2.1⟩
     have HIn : Box ((Tryd.prog.info? 44).map (·.size) = some Jn.toArray.size) := ⟨by rw [List.size_toArray, HJn.out.1]; exact infoRj⟩
     go_upto_region 18 with (first
      | (refine atLoad 44 ?_; refine wpList_ldMid rfl 44 _ _ rfl Tryd.underlying44 rfl S 6 rfl J1 HIs.out.2.2.2.1 HRa.out.1 ?_)
      | (refine atLoad 42 ?_; refine wpList_ldMid rfl 42 _ _ rfl Tryd.underlying42 rfl S 110 rfl (scs s) HIs.out.2.1 HRa.out.2 ?_; rw [HIs.out.2.2.1, HSA.out])
      | (go_at_call 25; refine (HRD.out _).mono ?_; rintro e x3 ⟨rfl, hb⟩; have H3 : Box (Sbx x0 w x3 S J D jn d A (pqs V J1 (scs s) (scs s)) /\ Disk.Rv x3 (.agg V.toArray) r) := ⟨H2.out.1.below hb, H2.out.2.below hb⟩; have HTh : Box (x3.there S 6 Jn.toArray.size) := ⟨by rw [List.size_toArray]; exact (H3.out.1.st (PC' := pqs V Jn (scs s) (scs s)) (pqs1 HJ.out.2.2.2.1 (by rw [HJ1.out.2.1, HJn.out.1])) (by rw [len_pqs HJ.out.2.2.2.1 HJ1.out.2.1 HJ1.out.2.2.1 HJ1.out.2.2.1, HJn.out.1]; omega)).1⟩; clear hb)
      | (refine atStore _ ?_; refine wpList_store_mid rfl 44 _ _ rfl S 6 Jn.toArray rfl rfl HTh.out HIn.out HJn.out.2 ?_))
     (try rw [List.toList_toArray])
     obtain ⟨PC, HPC⟩ : ∃ L, Box (pqs V Jn (scs s) (scs s) = L) := ⟨_, ⟨rfl⟩⟩
     have HXf : Box (Sbx x0 w (x3.setCells S 6 Jn) S J D jn d A PC /\ Disk.Rv (x3.setCells S 6 Jn) (.agg V.toArray) r /\ Disk.J (k + 8) d r) := ⟨by
      have hx := (H3.out.1.st (off := 6) (vs := Jn) (PC' := PC) (by rw [pqs1 HJ.out.2.2.2.1 (by rw [HJ1.out.2.1, HJn.out.1]), HPC.out]) (by rw [len_pqs HJ.out.2.2.2.1 HJ1.out.2.1 HJ1.out.2.2.1 HJ1.out.2.2.1, HJn.out.1]; omega)).2
      exact ⟨hx.1, rv_but H3.out.2 hx.2 H3.out.1.p (by decide) (by decide), J_le HJ.out.1 (by omega)⟩⟩
     generalize x3.setCells S 6 Jn = yf at HXf ⊢
     clear H2 H3 HTh HRa c4 HRD
     have HPl : Box (PC.length = 144 /\ PC.toArray.all (·.oneCell') = true) := ⟨by rw [<- HPC.out]; rw [len_pqs (by first | exact HJ.out.2.2.2.1 | exact HVn.out.1) (by first | exact HJn.out.1 | exact HJ1.out.2.1) HJ1.out.2.2.1 HJ1.out.2.2.1], by rw [<- HPC.out]; exact pqs_all _ _ (by first | exact HVn.out.2 | exact HJ1.out.2.2.2) (by first | exact HJn.out.2 | (rw [<- HJ1.out.1]; exact all_rq _ _ _ _ _ _))⟩
     have HIP : Box ((Tryd.prog.info? 49).map (·.size) = some PC.length /\ (Tryd.prog.info? 49).map (·.size) = some PC.toArray.size /\ ZPl.toArray.size = PC.toArray.size) := ⟨by rw [HPl.out.1]; exact infoP, by rw [List.size_toArray, HPl.out.1]; exact infoP, by rw [List.size_toArray, List.size_toArray, HPl.out.1, len_ZPl]⟩
     have HRf : Box (yf.rangeAt S 0 PC) := ⟨range_row HXf.out.1.p⟩
     go_wp2_with (first
      | (refine atLoad 49 ?_; refine wpList_ldMid rfl 49 _ _ rfl Tryd.underlying49 rfl S 0 rfl PC HIP.out.1 HRf.out ?_)
      | (refine atStore _ ?_; refine wpList_store_row rfl 49 _ _ rfl (S + 2) PC.toArray rfl rfl 49 ZPl.toArray HXf.out.1.z HIP.out.2.1 HIP.out.2.2 HPl.out.2 ?_))
     have hfin := HXf.out.1.fin (but_setRow yf (S + 2) PC.toArray)
     have hrv : Disk.Rv (yf.setRow (S + 2) PC.toArray) (.agg V.toArray) r := rv_but HXf.out.2.1 (but_setRow _ _ _) HXf.out.1.z (by decide) (by decide)
     refine bodyPost_ret (results_row2 (t := 8) (u := 9) rfl _ Tryd.underlying49 rfl _ _ (S + 2) PC.toArray HIP.out.2.1 rfl (setRow_heap _ _ _ _ _ _ HXf.out.1.z)) rfl ?_
     exact ⟨V, jn, d, r, s, by rw [HJe.out, HPC.out]; rfl, hfin.1, rfl, hrv, HXf.out.2.2, HJ.out.2.2.1, hfin.2⟩
    ·have hq5 : 5 <= q := by have := HB4.out; simp at this; omega
     clear HB4
     by_cases h5 : q = 5
     ·have e5 : ((q : Int) == 5) = true := by simp; omega
      clear h5 hq5
      obtain ⟨-, -, -, cr, -, -, -⟩ := HX1'.out.arr HA.out.st
      obtain ⟨SB, HSB⟩ : ∃ L, Box (sa A.st = L) := ⟨_, ⟨rfl⟩⟩
      have HIB : Box ((Tryd.prog.info? 26).map (·.size) = some (scs A.st).length /\ (scs A.st).toArray = sa A.st /\ (Tryd.prog.info? 26).map (·.size) = some SB.size /\ (sa zs).size = SB.size /\ SB.all (·.oneCell') = true) := ⟨by rw [len_scs HA.out.st]; exact infoSt, rfl, by rw [<- HSB.out, size_sa HA.out.st]; exact infoSt, by rw [<- HSB.out, size_sa HA.out.st, size_sa okS_zs], by rw [<- HSB.out]; exact all_sa _⟩
      have HCr : Box (wc.rangeAt (S + 1) 3 (scs A.st)) := ⟨cr⟩
      clear cr
      go_upto_region 21 with (first
       | (refine atAlloc _ ?_; refine wpList_run rfl _ _ (exec_alloc 26 rfl _ zeroSt) ?_)
       | (refine atLoad 26 ?_; refine wpList_ldMid rfl 26 _ _ rfl Tryd.underlying26 rfl (S + 1) 3 rfl (scs A.st) HIB.out.1 HCr.out ?_; rw [HIB.out.2.1, HSB.out])
       | (refine atStore _ ?_; refine wpList_newRow wc (sa zs) SB HIB.out.2.2.1 HIB.out.2.2.2.1 HIB.out.2.2.2.2 rfl _ _ rfl rfl rfl rfl ?_; intro x2 h5 hb5; have H2 : Box (x2.heap[wc.heap.size]? = some (.cells SB 26 (0, 0)) /\ Below wc.heap.size wc x2) := ⟨h5, hb5⟩; clear h5 hb5))
      obtain ⟨Bs, hBs⟩ : ∃ B, wc.heap.size = B := ⟨_, rfl⟩
      (try simp only [hBs])
      have HX2 : Box (Sbx x0 w x2 S J D j d A (pqs V J1 (scs s) (scs s)) /\ Disk.Rv x2 (.agg V.toArray) r /\ x2.heap[Bs]? = some (.cells (sa A.st) 26 (0, 0)) /\ S + 2 < Bs /\ x0.heap.size <= Bs) := ⟨by
       have hz := (Array.getElem?_eq_some_iff.1 HX1'.out.z).1
       have hx := HX1'.out.sc.bel.size
       refine ⟨HX1'.out.below H2.out.2, HR1.out.below H2.out.2, ?_, by omega, by omega⟩
       rw [<- hBs, HSB.out]
       exact H2.out.1⟩
      clear hBs H2 HX1' HR1 HCr
      obtain ⟨-, -, c2, -, -, -, -⟩ := HX2.out.1.arr HA.out.st
      obtain ⟨sh, hsh⟩ : ∃ b, A.short = b := ⟨_, rfl⟩
      rw [hsh] at c2
      clear hsh
      go_upto_if 91 with fail
      clear c2
      go_cut [] from 92 (fun wx => Box (∃ su, OkS su /\ Sbx x0 w wx S J D j d A (pqs V J1 (scs s) (scs s)) /\ Disk.Rv wx (.agg V.toArray) r /\ wx.heap[Bs]? = some (.cells (sa su) 26 (0, 0)) /\ S + 2 < Bs /\ x0.heap.size <= Bs))
      case first =>
       obtain rfl | rfl : sh = true ∨ sh = false := by cases sh <;> simp
       ·obtain ⟨EJ, HEJ⟩ : ∃ L, Box (sa (ety j) = L) := ⟨_, ⟨rfl⟩⟩
        have HEM : Box (Calls Tryd.prog 13 #[.pointer (some ⟨J, 0, none⟩)] x2 fun e z => e = .returned (.agg EJ) /\ Below x2.heap.size x2 z) := ⟨by
         have := empty_any HX2.out.1.sc.row HX2.out.1.sc.ok
         rw [HEJ.out] at this
         exact this⟩
        have HOE : Box (OkS (ety j) /\ (Tryd.prog.info? 26).map (·.size) = some EJ.size /\ (sa A.st).size = EJ.size /\ EJ.all (·.oneCell') = true) := ⟨okS_ety j HX2.out.1.sc.ok, by rw [<- HEJ.out, size_sa (okS_ety j HX2.out.1.sc.ok)]; exact infoSt, by rw [<- HEJ.out, size_sa (okS_ety j HX2.out.1.sc.ok), size_sa HA.out.st], by rw [<- HEJ.out]; exact all_sa _⟩
        go_wp2_with (first
         | (go_at_call 13; refine HEM.out.mono ?_; rintro e x3 ⟨rfl, hb⟩; have H3 : Box (Below x2.heap.size x2 x3 /\ x3.heap[Bs]? = some (.cells (sa A.st) 26 (0, 0))) := ⟨hb, (hb.block _ (Array.getElem?_eq_some_iff.1 HX2.out.2.2.1).1).trans HX2.out.2.2.1⟩; clear hb)
         | (refine atStore _ ?_; refine wpList_store_row rfl 26 _ _ rfl Bs EJ rfl rfl 26 (sa A.st) H3.out.2 HOE.out.2.1 HOE.out.2.2.1 HOE.out.2.2.2 ?_))
        go_meet
        have hb := but_setRow x3 Bs EJ
        have hx3 := HX2.out.1.below H3.out.1
        have hne : ∀ (q : Nat) (cs : Array Value) (t : TypeId) (f : Nat × Nat), x3.heap[q]? = some (.cells cs t f) -> t ≠ 26 -> (x3.setRow Bs EJ).heap[q]? = some (.cells cs t f) := fun q cs t f hq ht => (hb.block q (Array.getElem?_eq_some_iff.1 hq).1 (ne_typed hq H3.out.2 ht)).trans hq
        have hlo := HX2.out.2.2.2
        have hkj : Kj w (x3.setRow Bs EJ) := ⟨Nat.le_trans hx3.kj.1 hb.size, fun q cs t f hq h1 h2 => by
         have hlt := (Array.getElem?_eq_some_iff.1 hq).1
         have hsz := hx3.sz
         have hy := hx3.kj.2 q cs t f hq h1 h2
         exact (hb.block q (Array.getElem?_eq_some_iff.1 hy).1 (by omega)).trans hy⟩
        exact ⟨ety j, HOE.out.1, ⟨hx3.sc.but hb H3.out.2 (by unfold Disk.Own4; decide) (by decide) hlo.2, hne _ _ _ _ hx3.p (by decide), hne _ _ _ _ hx3.a (by decide), hne _ _ _ _ hx3.z (by decide), hkj, hx3.lo, hx3.sz⟩, rv_but (HX2.out.2.1.below H3.out.1) hb H3.out.2 (by decide) (by decide), by rw [HEJ.out]; exact setRow_heap _ _ _ _ _ _ H3.out.2, hlo⟩
       ·go_wp2
        go_meet
        exact ⟨A.st, HA.out.st, HX2.out⟩
      case rest =>
       obtain ⟨su, hsu, hX⟩ := hcut.out
       obtain ⟨SU, HSU⟩ : ∃ L, Box (sa su = L) := ⟨_, ⟨rfl⟩⟩
       have HX3 : Box (OkS su /\ Sbx x0 w wc S J D j d A (pqs V J1 (scs s) (scs s)) /\ Disk.Rv wc (.agg V.toArray) r /\ wc.heap[Bs]? = some (.cells (sa su) 26 (0, 0)) /\ S + 2 < Bs /\ x0.heap.size <= Bs) := ⟨hsu, hX⟩
       have HIU : Box ((Tryd.prog.info? 26).map (·.size) = some (scs su).length /\ (scs su).toArray = sa su) := ⟨by rw [len_scs hsu]; exact infoSt, rfl⟩
       clear hcut hsu hX HX2
       obtain ⟨-, -, -, -, c4, -, -⟩ := HX3.out.2.1.arr HA.out.st
       rw [HL0.out.1] at c4
       have HAD : Box (Calls Tryd.prog 17 #[.pointer (some ⟨J, 0, none⟩), .agg SU, .int .u64 l0] wc fun e z => e = .returned (.tuple #[]) /\ Sc x0 z J D (adp j su l0) d /\ Kj wc z) := ⟨by
        have := adopt_s HX3.out.2.1.sc su HX3.out.1 l0 HL0.out.2
        rw [HSU.out] at this
        exact this⟩
       have HRa : Box (wc.rangeAt Bs 0 (scs su)) := ⟨range_sa HX3.out.2.2.2.1⟩
       go_upto_region 24 with (first
        | (refine atLoad 26 ?_; refine wpList_ldMid rfl 26 _ _ rfl Tryd.underlying26 rfl Bs 0 rfl (scs su) HIU.out.1 HRa.out ?_; rw [HIU.out.2, HSU.out])
        | (go_at_call 17; refine HAD.out.mono ?_; rintro e x4 ⟨rfl, q1, q2⟩; have H4 : Box (Sbx x0 w x4 S J D (adp j su l0) d A (pqs V J1 (scs s) (scs s)) /\ Disk.Rv x4 (.agg V.toArray) r /\ x4.heap[Bs]? = some (.cells (sa su) 26 (0, 0))) := ⟨HX3.out.2.1.on q1 q2, q2.rv HX3.out.2.2.1, q2.2 _ _ _ _ HX3.out.2.2.2.1 (by unfold Disk.Own4; decide) (by decide)⟩; clear q1 q2))
       obtain ⟨jn, hjn⟩ : ∃ x, adp j su l0 = x := ⟨_, rfl⟩
       rw [hjn] at H4
       obtain ⟨Jn, hJn⟩ : ∃ L, rqj jn = L := ⟨_, rfl⟩
       have HJn : Box (Jn.length = 70 /\ Jn.toArray.all (·.oneCell') = true) := ⟨by rw [<- hJn]; exact len_rqj H4.out.1.sc.ok, by rw [<- hJn]; exact all_rq _ _ _ _ _ _⟩
       have HRD : Box (∀ x, Calls Tryd.prog 25 #[.agg J1.toArray, .agg SU, .int .u64 l0] x fun e z => e = .returned (.agg Jn.toArray) /\ Below x.heap.size x z) := ⟨fun x => by
        have := radopt_any j.key HX3.out.2.1.sc.ok.key j rfl HX3.out.2.1.sc.ok su HX3.out.1 l0 HL0.out.2.1 x
        rw [hjn] at this
        rw [<- HJ1.out.1, <- hJn, <- HSU.out]
        exact this⟩
       have HSO : Box (∀ x, Calls Tryd.prog 9 #[.agg SU] x fun e x' => e = .returned (.agg SU) /\ Below x.heap.size x x') := ⟨fun x => by
        have := stateOf_any su HX3.out.1 x
        rw [HSU.out] at this
        exact this⟩
       have HJe : Box (rqj jn = Jn /\ (Tryd.prog.info? 44).map (·.size) = some Jn.toArray.size) := ⟨hJn, by rw [List.size_toArray, HJn.out.1]; exact infoRj⟩
       clear c4 HAD HRa hjn hJn
       have HBx : Box (∀ x, Below x4.heap.size x4 x -> x.rangeAt S 6 J1 /\ x.rangeAt Bs 0 (scs su) /\ x.cell? ⟨S + 1, 37, none⟩ = some (.int .u64 l0)) := ⟨fun x hx => by
        have h := H4.out.1.below hx
        have hc := (h.arr HA.out.st).2.2.2.2.1
        rw [HL0.out.1] at hc
        exact ⟨prange1 h.p HJ.out.2.2.2.1, range_sa ((hx.block _ (Array.getElem?_eq_some_iff.1 H4.out.2.2).1).trans H4.out.2.2), hc⟩⟩
       refine begin_keep (S := fun x => x.rangeAt Bs 0 (scs su) /\ x.cell? ⟨S + 1, 37, none⟩ = some (.int .u64 l0)) (by kernel_rfl) (fun wd hwd => ?_)
       have hB : Below x4.heap.size x4 wd := by rw [hwd]; exact (Below.refl _ _).drew
       have hS := (HBx.out wd hB).2
       have hM := (HBx.out wd hB).1
       clear hwd
       refine take_x (i := 0) (v := ?_) rfl ?_ hS ?_
       rotate_left
       ·rintro w' -; go_simp <;> with_reducible rfl
       try simp only [Act.put, pC, pD, pE, pF, pG]
       refine take_x (i := 2) (v := .agg SU) rfl (fun w' hLat => (by rw [<- HSU.out, <- HIU.out.2]; exact exec_load_mid 26 _ (.tmp 17) rfl Tryd.underlying26 rfl Bs 0 rfl (scs su) HIU.out.1 (hLat.1))) hS ?_
       try simp only [Act.put, pC, pD, pE, pF, pG, pH]
       refine take_x (i := 4) (v := ?_) rfl ?_ hS ?_
       rotate_left
       ·rintro w' -; go_simp <;> with_reducible rfl
       try simp only [Act.put, pC, pD, pE, pF, pG, pH]
       refine take_x (i := 5) (v := .int .u64 l0) rfl (fun w' hLat => exec_load1 24 _ (.tmp 103) rfl Tryd.underlying24 rfl ⟨S + 1, 37, none⟩ rfl _ hLat.2) hS ?_
       try simp only [Act.put, pC, pD, pE, pF, pG, pH]
       refine take_late 8 (fun x => x.rangeAt S 6 J1) (i := 1) (v := .agg J1.toArray) rfl (by kernel_rfl) (by kernel_rfl) (by kernel_rfl) (fun _ _ _ h => h) (by rfl) (by decide) (by kernel_rfl) (by kernel_rfl) (fun w' _ hLat => exec_load_mid 44 _ (.tmp 99) rfl Tryd.underlying44 rfl S 6 rfl J1 HIs.out.2.2.2.1 (hLat)) hS hM ?_
       try simp only [Act.put, pC, pD, pE, pF, pG, pH]
       refine late_one (i := 3) (by kernel_rfl) ?_
       refine keep_step rfl (by rfl) ?_
       go_simp
       refine Calls.mono (HSO.out _) ?_
       rintro e x5 ⟨rfl, hb⟩
       have hB := below_to hB hb
       have hS := (HBx.out x5 hB).2
       have hM := (HBx.out x5 hB).1
       clear hb
       refine ⟨⟨hS, hM⟩, ?_⟩
       try simp only [Act.put, pC, pD, pE, pF, pG, pH]
       refine late_one (i := 6) (by kernel_rfl) ?_
       refine keep_step rfl (by rfl) ?_
       go_simp
       refine Calls.mono (HRD.out _) ?_
       rintro e x6 ⟨rfl, hb⟩
       have hB := below_to hB hb
       have hS := (HBx.out x6 hB).2
       have hM := (HBx.out x6 hB).1
       clear hb
       refine ⟨⟨hS, hM⟩, ?_⟩
       try simp only [Act.put, pC, pD, pE, pF, pG, pH]
       obtain ⟨PC, HPC⟩ : ∃ L, Box (pqs V Jn (scs s) (scs s) = L) := ⟨_, ⟨rfl⟩⟩
       have H6 := H4.out.1.below hB
       have hst := H6.st (off := 6) (vs := Jn) (PC' := PC) (by rw [pqs1 HJ.out.2.2.2.1 (by rw [HJ1.out.2.1, HJn.out.1]), HPC.out]) (by rw [len_pqs HJ.out.2.2.2.1 HJ1.out.2.1 HJ1.out.2.2.1 HJ1.out.2.2.1, HJn.out.1]; omega)
       have HXf : Box (Sbx x0 w (x6.setCells S 6 Jn) S J D jn d A PC /\ Disk.Rv (x6.setCells S 6 Jn) (.agg V.toArray) r /\ Disk.J (k + 8) d r) := ⟨hst.2.1, rv_but (H4.out.2.1.below hB) hst.2.2 H6.p (by decide) (by decide), J_le HJ.out.1 (by omega)⟩
       have hth : x6.there S 6 Jn.toArray.size := by rw [List.size_toArray]; exact hst.1
       refine late_one (i := 7) (by kernel_rfl) ?_
       refine keep_step rfl (by rfl) ?_
       refine Disk.wp_run (v := .pointer (some ⟨S, 6, none⟩)) (w' := x6) (by go_simp <;> with_reducible rfl) ?_
       refine ⟨⟨hS, fun _ => hM⟩, ?_⟩
       try simp only [Act.put, pC, pD, pE, pF, pG, pH]
       have hS8 : (x6.setCells S 6 Jn).rangeAt Bs 0 (scs su) /\ (x6.setCells S 6 Jn).cell? ⟨S + 1, 37, none⟩ = some (.int .u64 l0) := by
        have hlo := HX3.out.2.2.2.2.1
        exact ⟨but_range hst.2.2 hS.1 (by omega), but_cell hst.2.2 hS.2 (by show S + 1 ≠ S; omega)⟩
       refine late_one (i := 8) (by kernel_rfl) ?_
       refine keep_step rfl (by rfl) ?_
       refine wp_store_mid 44 (.tmp 106) (.tmp 105) rfl S 6 Jn.toArray rfl rfl hth HJe.out.2 HJn.out.2 ?_
       rw [List.toList_toArray]
       refine ⟨⟨hS8, fun h0 => by simp at h0⟩, ?_⟩
       refine late_of _ _ _ _ (by kernel_rfl) ?_
       try simp only [Act.put, pF, pG, pH]
       refine wpAnyH_done (by kernel_rfl) ?_ _
       generalize x6.setCells S 6 Jn = yf at HXf hS8 ⊢
       clear H4 H6 hst hth hS hM hB hS8 HRD HSO HBx
       have HPl : Box (PC.length = 144 /\ PC.toArray.all (·.oneCell') = true) := ⟨by rw [<- HPC.out]; rw [len_pqs (by first | exact HJ.out.2.2.2.1 | exact HVn.out.1) (by first | exact HJn.out.1 | exact HJ1.out.2.1) HJ1.out.2.2.1 HJ1.out.2.2.1], by rw [<- HPC.out]; exact pqs_all _ _ (by first | exact HVn.out.2 | exact HJ1.out.2.2.2) (by first | exact HJn.out.2 | (rw [<- HJ1.out.1]; exact all_rq _ _ _ _ _ _))⟩
       have HIP : Box ((Tryd.prog.info? 49).map (·.size) = some PC.length /\ (Tryd.prog.info? 49).map (·.size) = some PC.toArray.size /\ ZPl.toArray.size = PC.toArray.size) := ⟨by rw [HPl.out.1]; exact infoP, by rw [List.size_toArray, HPl.out.1]; exact infoP, by rw [List.size_toArray, List.size_toArray, HPl.out.1, len_ZPl]⟩
       have HRf : Box (yf.rangeAt S 0 PC) := ⟨range_row HXf.out.1.p⟩
       go_wp2_with (first
        | (refine atLoad 49 ?_; refine wpList_ldMid rfl 49 _ _ rfl Tryd.underlying49 rfl S 0 rfl PC HIP.out.1 HRf.out ?_)
        | (refine atStore _ ?_; refine wpList_store_row rfl 49 _ _ rfl (S + 2) PC.toArray rfl rfl 49 ZPl.toArray HXf.out.1.z HIP.out.2.1 HIP.out.2.2 HPl.out.2 ?_))
       have hfin := HXf.out.1.fin (but_setRow yf (S + 2) PC.toArray)
       have hrv : Disk.Rv (yf.setRow (S + 2) PC.toArray) (.agg V.toArray) r := rv_but HXf.out.2.1 (but_setRow _ _ _) HXf.out.1.z (by decide) (by decide)
       refine bodyPost_ret (results_row2 (t := 8) (u := 9) rfl _ Tryd.underlying49 rfl _ _ (S + 2) PC.toArray HIP.out.2.1 rfl (setRow_heap _ _ _ _ _ _ HXf.out.1.z)) rfl ?_
       exact ⟨V, jn, d, r, s, by rw [HJe.out.1, HPC.out]; rfl, hfin.1, rfl, hrv, HXf.out.2.2, HJ.out.2.2.1, hfin.2⟩
     ·have e5 : ((q : Int) == 5) = false := by simp; omega
      have HAf : Box (∃ u : Nat, bits .and .i64 A.aft 7 = (u : Int) /\ u <= 7) := ⟨low3 _⟩
      obtain ⟨u, hu, hu7⟩ := HAf.out
      by_cases h6 : q = 6
      ·have e6 : ((q : Int) == 6) = true := by simp; omega
       clear h5 h6 hq5
       obtain ⟨-, -, -, -, -, c5, -⟩ := HX1'.out.arr HA.out.st
       have HST : Box _ := ⟨stop_s HX1'.out.sc HJ.out.1 (u : Int) (by omega)⟩
       clear HAf
       go_upto_region 28 with (go_at_call 26; refine HST.out.mono ?_; rintro e x2 ⟨d2, r2, rfl, q1, q2, q3, q4, q5⟩; have H2 : Box (Sbx x0 w x2 S J D j d2 A (pqs V J1 (scs s) (scs s)) /\ Disk.Rv x2 (.agg V.toArray) r /\ Disk.J (k + 8) d2 r2) := ⟨HX1'.out.on q1 q3, q3.rv HR1.out, J_le q4 (by omega)⟩; have HDn : Box (∀ _ : Unit, d2.n = d.n) := ⟨fun _ => q2⟩; have HRS : Box _ := ⟨q5⟩; clear q1 q2 q3 q4 q5)
       clear HST HX1' HR1 c5
       obtain ⟨-, -, -, -, -, c5, c6⟩ := H2.out.1.arr HA.out.st
       clear c6
       have HRa : Box (x2.rangeAt S 0 V) := ⟨prange0 H2.out.1.p⟩
       have HC2 : Box (Calls Tryd.prog 27 #[.agg V.toArray, .int .i64 (u : Int)] x2 fun e z => ∃ V2 : List Value, e = .returned (.agg V2.toArray) /\ Disk.Rv z (.agg V2.toArray) r2 /\ Below x2.heap.size x2 z /\ V2.length = 6 /\ V2.toArray.all (·.oneCell') = true) := ⟨by
        refine (HRS.out x2 _ H2.out.2.1).mono ?_
        rintro e z ⟨v', rfl, hv, hb⟩
        obtain ⟨V2, rfl, l2, a2⟩ := rv_form hv
        exact ⟨V2, rfl, hv, hb, l2, a2⟩⟩
       clear HRS
       go_upto_region 29 with (first
        | (refine atLoad 36 ?_; refine wpList_ldMid rfl 36 _ _ rfl Tryd.underlying36 rfl S 0 rfl V HIs.out.2.2.2.2 HRa.out ?_)
        | (go_at_call 27; refine HC2.out.mono ?_; rintro e x3 ⟨V2, rfl, hv, hb, l2, a2⟩; have H3 : Box (Sbx x0 w x3 S J D j d2 A (pqs V J1 (scs s) (scs s)) /\ Disk.Rv x3 (.agg V2.toArray) r2) := ⟨H2.out.1.below hb, hv⟩; have HVn : Box (V2.length = 6 /\ V2.toArray.all (·.oneCell') = true) := ⟨l2, a2⟩; have HIv : Box ((Tryd.prog.info? 36).map (·.size) = some V2.toArray.size) := ⟨by rw [List.size_toArray, l2]; exact Disk.infoD⟩; have HTh : Box (x3.there S 0 V2.toArray.size) := ⟨by rw [List.size_toArray]; exact (H3.out.1.st (off := 0) (vs := V2) (PC' := pqs V2 J1 (scs s) (scs s)) (pqs0 (by rw [HJ.out.2.2.2.1, l2])) (by rw [len_pqs HJ.out.2.2.2.1 HJ1.out.2.1 HJ1.out.2.2.1 HJ1.out.2.2.1, l2]; omega)).1⟩; clear hv hb l2 a2)
        | (refine atStore _ ?_; refine wpList_store_mid rfl 36 _ _ rfl S 0 V2.toArray rfl rfl HTh.out HIv.out HVn.out.2 ?_))
       (try rw [List.toList_toArray])
       obtain ⟨PC, HPC⟩ : ∃ L, Box (pqs V2 J1 (scs s) (scs s) = L) := ⟨_, ⟨rfl⟩⟩
       have HXf : Box (Sbx x0 w (x3.setCells S 0 V2) S J D j d2 A PC /\ Disk.Rv (x3.setCells S 0 V2) (.agg V2.toArray) r2 /\ Disk.J (k + 8) d2 r2) := ⟨by
        have hx := (H3.out.1.st (off := 0) (vs := V2) (PC' := PC) (by rw [pqs0 (by rw [HJ.out.2.2.2.1, HVn.out.1]), HPC.out]) (by rw [len_pqs HJ.out.2.2.2.1 HJ1.out.2.1 HJ1.out.2.2.1 HJ1.out.2.2.1, HVn.out.1]; omega)).2
        exact ⟨hx.1, rv_but H3.out.2 hx.2 H3.out.1.p (by decide) (by decide), H2.out.2.2⟩⟩
       generalize x3.setCells S 0 V2 = yf at HXf ⊢
       clear H2 H3 HTh HRa HC2 HIv c5
       have HPl : Box (PC.length = 144 /\ PC.toArray.all (·.oneCell') = true) := ⟨by rw [<- HPC.out]; rw [len_pqs HVn.out.1 HJ1.out.2.1 HJ1.out.2.2.1 HJ1.out.2.2.1], by rw [<- HPC.out]; exact pqs_all _ _ HVn.out.2 (by rw [<- HJ1.out.1]; exact all_rq _ _ _ _ _ _)⟩
       have HIP : Box ((Tryd.prog.info? 49).map (·.size) = some PC.length /\ (Tryd.prog.info? 49).map (·.size) = some PC.toArray.size /\ ZPl.toArray.size = PC.toArray.size) := ⟨by rw [HPl.out.1]; exact infoP, by rw [List.size_toArray, HPl.out.1]; exact infoP, by rw [List.size_toArray, List.size_toArray, HPl.out.1, len_ZPl]⟩
       have HRf : Box (yf.rangeAt S 0 PC) := ⟨range_row HXf.out.1.p⟩
       go_wp2_with (first
        | (refine atLoad 49 ?_; refine wpList_ldMid rfl 49 _ _ rfl Tryd.underlying49 rfl S 0 rfl PC HIP.out.1 HRf.out ?_)
        | (refine atStore _ ?_; refine wpList_store_row rfl 49 _ _ rfl (S + 2) PC.toArray rfl rfl 49 ZPl.toArray HXf.out.1.z HIP.out.2.1 HIP.out.2.2 HPl.out.2 ?_))
       have hfin := HXf.out.1.fin (but_setRow yf (S + 2) PC.toArray)
       have hrv : Disk.Rv (yf.setRow (S + 2) PC.toArray) (.agg V2.toArray) r2 := rv_but HXf.out.2.1 (but_setRow _ _ _) HXf.out.1.z (by decide) (by decide)
       refine bodyPost_ret (results_row2 (t := 8) (u := 9) rfl _ Tryd.underlying49 rfl _ _ (S + 2) PC.toArray HIP.out.2.1 rfl (setRow_heap _ _ _ _ _ _ HXf.out.1.z)) rfl ?_
       exact ⟨V2, j, d2, r2, s, by rw [HJ1.out.1, HPC.out]; rfl, hfin.1, HDn.out (), hrv, HXf.out.2.2, HJ.out.2.2.1, hfin.2⟩
      ·have e6 : ((q : Int) == 6) = false := by have := HQ.out; simp; omega
       clear h5 h6 hq5 hu hu7 HAf
       obtain ⟨-, -, -, -, -, -, c6⟩ := HX1'.out.arr HA.out.st
       have HST : Box _ := ⟨crash_s HX1'.out.sc HJ.out.1 (by have := HJ.out.2.1; omega) A.ka A.kl A.kc A.K HA.out.bo HA.out.bn HA.out.bl⟩
       go_upto_region 31 with (go_at_call 28; refine HST.out.mono ?_; rintro e x2 ⟨d2, r2, rfl, q1, q2, q3, q4, q5⟩; have H2 : Box (Sbx x0 w x2 S J D j d2 A (pqs V J1 (scs s) (scs s)) /\ Disk.Rv x2 (.agg V.toArray) r /\ Disk.J (k + 8) d2 r2) := ⟨HX1'.out.on q1 q3, q3.rv HR1.out, J_le q4 (by omega)⟩; have HDn : Box (∀ _ : Unit, d2.n = d.n) := ⟨fun _ => q2⟩; have HRS : Box _ := ⟨q5⟩; clear q1 q2 q3 q4 q5)
       clear HST HX1' HR1 c6
       obtain ⟨-, -, -, -, -, c5, c6⟩ := H2.out.1.arr HA.out.st
       clear c5
       have HRa : Box (x2.rangeAt S 0 V) := ⟨prange0 H2.out.1.p⟩
       have HC2 : Box (Calls Tryd.prog 29 #[.agg V.toArray, .slice A.ka A.kl A.kc] x2 fun e z => ∃ V2 : List Value, e = .returned (.agg V2.toArray) /\ Disk.Rv z (.agg V2.toArray) r2 /\ Below x2.heap.size x2 z /\ V2.length = 6 /\ V2.toArray.all (·.oneCell') = true) := ⟨by
        refine (HRS.out x2 _ H2.out.1.sc.bel H2.out.2.1).mono ?_
        rintro e z ⟨v', rfl, hv, hb⟩
        obtain ⟨V2, rfl, l2, a2⟩ := rv_form hv
        exact ⟨V2, rfl, hv, hb, l2, a2⟩⟩
       clear HRS
       go_upto_region 32 with (first
        | (refine atLoad 36 ?_; refine wpList_ldMid rfl 36 _ _ rfl Tryd.underlying36 rfl S 0 rfl V HIs.out.2.2.2.2 HRa.out ?_)
        | (go_at_call 29; refine HC2.out.mono ?_; rintro e x3 ⟨V2, rfl, hv, hb, l2, a2⟩; have H3 : Box (Sbx x0 w x3 S J D j d2 A (pqs V J1 (scs s) (scs s)) /\ Disk.Rv x3 (.agg V2.toArray) r2) := ⟨H2.out.1.below hb, hv⟩; have HVn : Box (V2.length = 6 /\ V2.toArray.all (·.oneCell') = true) := ⟨l2, a2⟩; have HIv : Box ((Tryd.prog.info? 36).map (·.size) = some V2.toArray.size) := ⟨by rw [List.size_toArray, l2]; exact Disk.infoD⟩; have HTh : Box (x3.there S 0 V2.toArray.size) := ⟨by rw [List.size_toArray]; exact (H3.out.1.st (off := 0) (vs := V2) (PC' := pqs V2 J1 (scs s) (scs s)) (pqs0 (by rw [HJ.out.2.2.2.1, l2])) (by rw [len_pqs HJ.out.2.2.2.1 HJ1.out.2.1 HJ1.out.2.2.1 HJ1.out.2.2.1, l2]; omega)).1⟩; clear hv hb l2 a2)
        | (refine atStore _ ?_; refine wpList_store_mid rfl 36 _ _ rfl S 0 V2.toArray rfl rfl HTh.out HIv.out HVn.out.2 ?_))
       (try rw [List.toList_toArray])
       obtain ⟨PC, HPC⟩ : ∃ L, Box (pqs V2 J1 (scs s) (scs s) = L) := ⟨_, ⟨rfl⟩⟩
       have HXf : Box (Sbx x0 w (x3.setCells S 0 V2) S J D j d2 A PC /\ Disk.Rv (x3.setCells S 0 V2) (.agg V2.toArray) r2 /\ Disk.J (k + 8) d2 r2) := ⟨by
        have hx := (H3.out.1.st (off := 0) (vs := V2) (PC' := PC) (by rw [pqs0 (by rw [HJ.out.2.2.2.1, HVn.out.1]), HPC.out]) (by rw [len_pqs HJ.out.2.2.2.1 HJ1.out.2.1 HJ1.out.2.2.1 HJ1.out.2.2.1, HVn.out.1]; omega)).2
        exact ⟨hx.1, rv_but H3.out.2 hx.2 H3.out.1.p (by decide) (by decide), H2.out.2.2⟩⟩
       generalize x3.setCells S 0 V2 = yf at HXf ⊢
       clear H2 H3 HTh HRa HC2 HIv c6
       have HPl : Box (PC.length = 144 /\ PC.toArray.all (·.oneCell') = true) := ⟨by rw [<- HPC.out]; rw [len_pqs HVn.out.1 HJ1.out.2.1 HJ1.out.2.2.1 HJ1.out.2.2.1], by rw [<- HPC.out]; exact pqs_all _ _ HVn.out.2 (by rw [<- HJ1.out.1]; exact all_rq _ _ _ _ _ _)⟩
       have HIP : Box ((Tryd.prog.info? 49).map (·.size) = some PC.length /\ (Tryd.prog.info? 49).map (·.size) = some PC.toArray.size /\ ZPl.toArray.size = PC.toArray.size) := ⟨by rw [HPl.out.1]; exact infoP, by rw [List.size_toArray, HPl.out.1]; exact infoP, by rw [List.size_toArray, List.size_toArray, HPl.out.1, len_ZPl]⟩
       have HRf : Box (yf.rangeAt S 0 PC) := ⟨range_row HXf.out.1.p⟩
       go_wp2_with (first
        | (refine atLoad 49 ?_; refine wpList_ldMid rfl 49 _ _ rfl Tryd.underlying49 rfl S 0 rfl PC HIP.out.1 HRf.out ?_)
        | (refine atStore _ ?_; refine wpList_store_row rfl 49 _ _ rfl (S + 2) PC.toArray rfl rfl 49 ZPl.toArray HXf.out.1.z HIP.out.2.1 HIP.out.2.2 HPl.out.2 ?_))
       have hfin := HXf.out.1.fin (but_setRow yf (S + 2) PC.toArray)
       have hrv : Disk.Rv (yf.setRow (S + 2) PC.toArray) (.agg V2.toArray) r2 := rv_but HXf.out.2.1 (but_setRow _ _ _) HXf.out.1.z (by decide) (by decide)
       refine bodyPost_ret (results_row2 (t := 8) (u := 9) rfl _ Tryd.underlying49 rfl _ _ (S + 2) PC.toArray HIP.out.2.1 rfl (setRow_heap _ _ _ _ _ _ HXf.out.1.z)) rfl ?_
       exact ⟨V2, j, d2, r2, s, by rw [HJ1.out.1, HPC.out]; rfl, hfin.1, HDn.out (), hrv, HXf.out.2.2, HJ.out.2.2.1, hfin.2⟩
end Go.Proofs.YthfobaeafapbnaaDoor
