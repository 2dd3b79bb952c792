/-
 JournalPlays: whatever is done with a journal, code and reference answer the same.
-/
import Derived.Test.YthfobaeafapbnaaDoorQ01
import Derived.Deep.Cut
import Derived.Deep.CutRange
import Derived.Deep.CutBlock
import Derived.Test.YthfobaeafapbnaaDoorQ42
import Derived.Test.YthfobaeafapbnaaDoorQ41
set_option linter.unusedVariables false
set_option maxRecDepth 100000
namespace Go.Proofs.YthfobaeafapbnaaDoor
open Go.RowKit Plain
attribute [local go_sem] Oper.semAt_some
theorem builtP (parts : List (Nat × Value)) : Tryd.prog.built 49 parts = Instr.fill (fun i => #[(0, 6), (6, 70), (76, 34), (110, 34)][i]?) ZPl.toArray parts := by kernel_rfl
theorem built_P (V Q : List Value) (h1 : V.length = 6) (h2 : Q.length = 70) : Tryd.prog.built 49 [(0, .agg V.toArray), (1, .agg Q.toArray)] = some (pqs V Q (scs zs) (scs zs)).toArray := by
 have h6 : (Disk.rv 0 (.slice none 0 0) (.slice none 0 0) 0 false (.slice none 0 0)).length = 6 := rfl
 have h70 : (rq z32 0 0 zs 0 0).length = 70 := len_rq _ _ _ _ _ _ len_z32 okS_zs
 have h34 : (scs zs).length = 34 := len_scs okS_zs
 rw [builtP, fill_step _ _ 0 0 6 _ _ rfl (by rw [List.size_toArray, h1]) (by rw [List.size_toArray, len_ZPl]; omega), List.toList_toArray, List.toList_toArray, ZPl, pqs0 (by rw [h6, h1])]
 rw [fill_step _ _ 1 6 70 _ _ rfl (by rw [List.size_toArray, h2]) (by rw [List.size_toArray, len_pqs h1 h70 h34 h34]; omega), List.toList_toArray, List.toList_toArray, pqs1 h1 (by rw [h70, h2]), Instr.fill]
structure Lp (x1 y : World) (J D Bp i n : Nat) (j : Jt) (d : Disk.Dk) (r : Disk.Rd) (V : List Value) (s : Jst) : Prop where
 sc : Sc x1 y J D j d
 p : y.heap[Bp]? = some (.cells (pqs V (rqj j) (scs s) (scs s)).toArray 49 (0, 0))
 rv : Disk.Rv y (.agg V.toArray) r
 hj : Disk.J (8 * i) d r
 os : OkS s
 dn : d.n = n
 lo : x1.heap.size <= Bp
theorem Lp.below {x1 y z : World} {J D Bp i n : Nat} {j : Jt} {d : Disk.Dk} {r : Disk.Rd} {V : List Value} {s : Jst} (h : Lp x1 y J D Bp i n j d r V s) (hb : Below y.heap.size y z) : Lp x1 z J D Bp i n j d r V s :=
 ⟨h.sc.below hb, (hb.block _ (Array.getElem?_eq_some_iff.1 h.p).1).trans h.p, h.rv.below hb, h.hj, h.os, h.dn, h.lo⟩
theorem Lp.cells {x1 y : World} {J D Bp i n : Nat} {j : Jt} {d : Disk.Dk} {r : Disk.Rd} {V : List Value} {s : Jst} (h : Lp x1 y J D Bp i n j d r V s) :
  y.rangeAt Bp 0 V /\ y.rangeAt Bp 6 (rqj j) /\ y.rangeAt Bp 40 (scs j.st) /\ y.cell? ⟨Bp, 39, none⟩ = some (.int .u64 (j.size : Int)) /\ y.cell? ⟨Bp, 41, none⟩ = some (.int .u64 (j.st.count : Int)) /\ y.cell? ⟨Bp, 74, none⟩ = some (.int .u64 j.nx) := by
 have hv := rv_len h.rv
 have h1 := prange1 h.p hv
 have hk := h.sc.ok.key
 have hl : (scs j.st).length = 34 := len_scs h.sc.ok.st
 have hr : ∀ k v, (rqj j)[k]? = some v -> y.cell? ⟨Bp, 6 + k, none⟩ = some v := fun k v e => h1 k v e
 obtain ⟨-, q33, q35, q68, -⟩ := rq_at (f := (j.first : Int)) (n := (j.size : Int)) (x := j.nx) (y := j.lim) hk h.sc.ok.st
 refine ⟨prange0 h.p, h1, fun k v e => ?_, hr 33 _ q33, hr 35 _ q35, hr 68 _ q68⟩
 have hi := (List.getElem?_eq_some_iff.1 e).1
 have := hr (34 + k) v (by
  have e2 : (rqj j)[34 + k]? = (scs j.st ++ [.int .u64 j.nx, .int .u64 j.lim])[k]? := by
   rw [rqj, rq, List.getElem?_append_right (by simp [hk]; omega), List.length_map, hk, show 34 + k - 32 = k + 2 by omega]
   rfl
  rw [e2, List.getElem?_append_left hi]
  exact e)
 rw [show 6 + (34 + k) = 40 + k by omega] at this
 exact this
set_option maxHeartbeats 32000000 in
theorem journalPlays_no (n : Nat) (hn : 1 <= n /\ n <= 30) (K : List Int) (hK : K.length = 32 /\ Byt K) (f z : Int) (s : Jst) (hs : OkS s) (nx lim : Int) (a : Option Addr) (cap : Nat) (L : List Ac) (hL : L.length <= 9223372036854775807) (w : World) (hT : Dig.Tabs w) (hT2 : Seal.Tab w) (hA : Ats w a L)
  (hj : ∀ (x0 x : World) (D : Nat) (fp : Nat -> Prop) (d : Disk.Dk), Disk.Cx x0 x D fp d -> d.n = n -> Calls Tryd.prog 7 #[.pointer (some ⟨D, 0, none⟩), .agg (u8s K), .int .i64 f, .int .i64 z, .agg (sa s), .int .u64 nx, .int .u64 lim] x fun e w' => e = .returned (.tuple #[.pointer none, .int .i64 1]) /\ Below x.heap.size x w')
  (hr : ∀ x, Calls Tryd.prog 8 #[.int .i64 (n : Int), .agg (u8s K), .int .i64 f, .int .i64 z, .agg (sa s), .int .u64 nx, .int .u64 lim] x fun e w' => e = .returned (.tuple #[.agg (rq z32 0 0 zs 0 0).toArray, .int .i64 1]) /\ Below x.heap.size x w') :
  Calls Tryd.prog 3 #[.int .i64 (n : Int), .agg (u8s K), .int .i64 f, .int .i64 z, .agg (sa s), .int .u64 nx, .int .u64 lim, .slice a L.length cap] w fun e w' => e = .returned (.bool true) /\ Below w.heap.size w w' := by
 obtain ⟨S, hS⟩ : ∃ S, w.heap.size = S := ⟨_, rfl⟩
 obtain ⟨AK, HAK⟩ : ∃ A, Box (u8s K = A) := ⟨_, ⟨rfl⟩⟩
 obtain ⟨SA, HSA⟩ : ∃ A, Box (sa s = A) := ⟨_, ⟨rfl⟩⟩
 obtain ⟨N, hN⟩ : ∃ N, L.length = N := ⟨_, rfl⟩
 rw [HAK.out, HSA.out, hN]
 obtain ⟨w1, hw1⟩ : ∃ w1, (w.alloc (.cells AK 23)).alloc (.cells SA 26) = w1 := ⟨_, rfl⟩
 have hb1 : Below w.heap.size w w1 := by rw [<- hw1]; exact ((Below.refl _ _).alloc (Nat.le_refl _) _).alloc (by simp) _
 have hs1 : (w.alloc (.cells AK 23)).heap.size = S + 1 := by simp [hS]
 have r1 : w1.heap[S]? = some (.cells AK 23 (0, 0)) := by rw [<- hw1]; exact al_old (al_at hS)
 have r2 : w1.heap[S + 1]? = some (.cells SA 26 (0, 0)) := by rw [<- hw1]; exact al_at hs1
 have HAW : Box (Calls Tryd.prog 4 #[] w1 fun e w' => e = .returned (.bool true) /\ Below w1.heap.size w1 w') := ⟨awake_v w1 (hT.below hb1) (hT2.below hb1)⟩
 have HX : Box (∀ x, Below w1.heap.size w1 x -> (x.rangeAt S 0 (K.map (Value.int .u8)) /\ x.rangeAt (S + 1) 0 (scs s)) /\ Dig.Tabs x /\ Seal.Tab x /\ Below w.heap.size w x) := ⟨fun x hx => by
  have k1 := (hx.block S (Array.getElem?_eq_some_iff.1 r1).1).trans r1
  have k2 := (hx.block (S + 1) (Array.getElem?_eq_some_iff.1 r2).1).trans r2
  rw [<- HAK.out] at k1
  rw [<- HSA.out] at k2
  exact ⟨⟨range_row (cs := K.map (Value.int .u8)) k1, range_sa k2⟩, hT.below (below_to hb1 hx), hT2.below (below_to hb1 hx), below_to hb1 hx⟩⟩
 have HKI : Box ((Tryd.prog.info? 23).map (·.size) = some (K.map (Value.int .u8)).length /\ (K.map (Value.int .u8)).toArray = AK /\ K.length = 32 /\ Byt K) := ⟨by rw [List.length_map, hK.1]; exact infoSum, by rw [<- HAK.out]; rfl, hK⟩
 have HSI : Box ((Tryd.prog.info? 26).map (·.size) = some (scs s).length /\ (scs s).toArray = SA /\ OkS s) := ⟨by rw [len_scs hs]; exact infoSt, by rw [<- HSA.out]; rfl, hs⟩
 have HLN : Box (L.length = N /\ N <= 9223372036854775807 /\ Ats w a L) := ⟨hN, by omega, hA⟩
 have HNn : Box (1 <= n /\ n <= 30) := ⟨hn⟩
 have g1 : decide ((n : Int) < 1) = false := by simp; omega
 have g2 : decide ((30 : Int) < (n : Int)) = false := by simp; omega
 have g3 : ¬ (n : Int) < 1 := by omega
 have g4 : ¬ (30 : Int) < (n : Int) := by omega
 clear hT hT2 hK hs hb1 r1 r2 hn hN hL hA
 go_enter Tryd.func3, Tryd.ntmps3
 go_upto_region 1 with fail
 (try rw [hs1])
 (try simp only [hS])
 (try simp only [hw1])
 clear hw1 hs1 hS
 go_upto_region 4 with (go_at_call 4; refine HAW.out.mono ?_; rintro e x1 ⟨rfl, hb⟩; have H1 : Box (Below w1.heap.size w1 x1) := ⟨hb⟩; clear hb)
 go_upto_region 6 with fail
 clear HAW g1 g2 g3 g4
 obtain ⟨D, hD⟩ : ∃ D, x1.heap.size + 1 = D := ⟨_, rfl⟩
 have HD : Box (Calls Tryd.prog 5 #[.int .i64 (n : Int)] x1 fun e w' => e = .returned (.tuple #[.pointer (some ⟨D, 0, none⟩), .int .i64 0]) /\ ∃ fp, Disk.Cx x1 w' D fp (Disk.dk0 n)) := ⟨by have := Disk.new_cx x1 n ⟨HNn.out.1, by have := HNn.out.2; omega⟩; rw [hD] at this; exact this⟩
 clear hD
 obtain ⟨dz, hdz⟩ : ∃ dz, Disk.dk0 n = dz := ⟨_, rfl⟩
 rw [hdz] at HD
 have HD0 : Box (dz.n = n /\ Disk.J 0 dz (Disk.rd0 n)) := ⟨by rw [<- hdz]; exact ⟨rfl, Disk.j_new n⟩⟩
 clear hdz
 go_upto_region 7 with (go_at_call 5; refine HD.out.mono ?_; rintro e x2 ⟨rfl, fp2, hc⟩; have H2 : Box (Disk.Cx x1 x2 D fp2 dz) := ⟨hc⟩; clear hc)
 clear HD
 obtain ⟨rz, hrz⟩ : ∃ rz, Disk.rd0 n = rz := ⟨_, rfl⟩
 rw [hrz] at HD0
 have HRn : Box (Calls Tryd.prog 6 #[.int .i64 (n : Int)] x2 fun e w' => ∃ V : List Value, e = .returned (.tuple #[.agg V.toArray, .int .i64 0]) /\ Disk.Rv w' (.agg V.toArray) rz /\ Below x2.heap.size x2 w' /\ V.toArray.all (·.oneCell') = true /\ (Tryd.prog.info? 36).map (·.size) = some V.toArray.size /\ V.length = 6) := ⟨by
  have := Disk.rnew_any x2 n ⟨HNn.out.1, by have := HNn.out.2; omega⟩
  rw [hrz] at this
  refine this.mono ?_
  rintro e w' ⟨v, rfl, hr, hb⟩
  obtain ⟨V, rfl, hl, ha⟩ := rv_form hr
  exact ⟨V, rfl, hr, hb, ha, by rw [List.size_toArray, hl]; exact Disk.infoD, hl⟩⟩
 clear hrz
 obtain ⟨ZD, hZD⟩ : ∃ ZD, (Disk.rv 0 (.slice none 0 0) (.slice none 0 0) 0 false (.slice none 0 0)).toArray = ZD := ⟨_, rfl⟩
 have HZD : Box ((Tryd.prog.info? 36).map (·.zero) = some (some (.agg ZD)) /\ ZD.size = 6) := ⟨by rw [<- hZD]; exact Disk.zeroD, by rw [<- hZD]; rfl⟩
 obtain ⟨ZJ, hZJ⟩ : ∃ ZJ, (rq z32 0 0 zs 0 0).toArray = ZJ := ⟨_, rfl⟩
 have HZJ : Box ((Tryd.prog.info? 44).map (·.zero) = some (some (.agg ZJ)) /\ ZJ.size = 70) := ⟨by rw [<- hZJ]; exact zeroRj, by rw [<- hZJ, List.size_toArray, len_rq _ _ _ _ _ _ len_z32 okS_zs]⟩
 clear hZD hZJ
 go_upto_region 8 with (first
  | (go_at_call 6; refine HRn.out.mono ?_; rintro e x3 ⟨V, rfl, hr, hb, ha, hi, hl⟩; have H3 : Box (Disk.Rv x3 (.agg V.toArray) rz /\ Below x2.heap.size x2 x3 /\ V.toArray.all (·.oneCell') = true /\ (Tryd.prog.info? 36).map (·.size) = some V.toArray.size /\ ZD.size = V.toArray.size /\ V.length = 6) := ⟨hr, hb, ha, hi, by rw [HZD.out.2, List.size_toArray, hl], hl⟩; clear hr hb ha hi hl)
  | (refine atAlloc _ ?_; refine wpList_run rfl _ _ (exec_alloc 36 rfl _ HZD.out.1) ?_)
  | (refine atStore _ ?_; refine wpList_newRow x3 ZD V.toArray H3.out.2.2.2.1 H3.out.2.2.2.2.1 H3.out.2.2.1 rfl _ _ rfl rfl rfl rfl ?_; intro x4 h4 hb4; have H4 : Box (x4.heap[x3.heap.size]? = some (.cells V.toArray 36 (0, 0)) /\ Below x3.heap.size x3 x4) := ⟨h4, hb4⟩; clear h4 hb4))
 obtain ⟨Bm, hBm⟩ : ∃ Bm, x3.heap.size = Bm := ⟨_, rfl⟩
 (try simp only [hBm])
 have H4a : Box (Disk.Rv x4 (.agg V.toArray) rz /\ x4.heap[Bm]? = some (.cells V.toArray 36 (0, 0)) /\ Disk.Cx x1 x4 D fp2 dz /\ x2.heap.size <= Bm /\ Below x2.heap.size x2 x4) := ⟨H3.out.1.below H4.out.2, by rw [<- hBm]; exact H4.out.1, (H2.out.step H3.out.2.1).step H4.out.2, by rw [<- hBm]; exact H3.out.2.1.size, below_to H3.out.2.1 H4.out.2⟩
 have HVl : Box (V.length = 6) := ⟨H3.out.2.2.2.2.2⟩
 clear hBm H3 H4 HRn
 have HB4 : Box (∀ x, Below x4.heap.size x4 x -> Below w1.heap.size w1 x) := ⟨fun x hx => below_to (below_to H1.out H2.out.bel) (below_to H4a.out.2.2.2.2 hx)⟩
 have HR4 : Box (∀ x, Below x4.heap.size x4 x -> x.rangeAt S 0 (K.map (Value.int .u8)) /\ x.rangeAt (S + 1) 0 (scs s)) := ⟨fun x hx => (HX.out x (HB4.out x hx)).1⟩
 have HR4a : Box (x4.rangeAt S 0 (K.map (Value.int .u8)) /\ x4.rangeAt (S + 1) 0 (scs s)) := ⟨HR4.out x4 (Below.refl _ _)⟩
 have HSO : Box (∀ x, Calls Tryd.prog 9 #[.agg SA] x fun e x' => e = .returned (.agg SA) /\ Below x.heap.size x x') := ⟨fun x => by
  have := stateOf_any s HSI.out.2.2 x
  rw [HSA.out] at this
  exact this⟩
 obtain ⟨RQ, hRQ⟩ : ∃ RQ, rq z32 0 0 zs 0 0 = RQ := ⟨_, rfl⟩
 have HJ0 : Box (RQ.length = 70 /\ RQ.length = 70 /\ RQ.toArray.all (·.oneCell') = true) := ⟨by rw [<- hRQ]; exact len_rq _ _ _ _ _ _ len_z32 okS_zs, by rw [<- hRQ]; exact len_rq _ _ _ _ _ _ len_z32 okS_zs, by rw [<- hRQ]; exact all_rq _ _ _ _ _ _⟩
 have HJN : Box (Calls Tryd.prog 7 #[.pointer (some ⟨D, 0, none⟩), .agg AK, .int .i64 f, .int .i64 z, .agg SA, .int .u64 nx, .int .u64 lim] x4 fun e w' => e = .returned (.tuple #[.pointer none, .int .i64 1]) /\ Below x4.heap.size x4 w') := ⟨by
  have := hj x1 x4 D fp2 dz H4a.out.2.2.1 HD0.out.1
  rw [HAK.out, HSA.out] at this
  exact this⟩
 have HRN : Box (∀ x, Calls Tryd.prog 8 #[.int .i64 (n : Int), .agg AK, .int .i64 f, .int .i64 z, .agg SA, .int .u64 nx, .int .u64 lim] x fun e w' => e = .returned (.tuple #[.agg RQ.toArray, .int .i64 1]) /\ Below x.heap.size x w') := ⟨fun x => by
  have := hr x
  rw [HAK.out, HSA.out, hRQ] at this
  exact this⟩
 clear hRQ hj hr
 go_upto_region 9 with (first
  | (refine atLoad 23 ?_; refine wpList_ldMid rfl 23 _ _ rfl Tryd.underlying23 rfl S 0 rfl (K.map (Value.int .u8)) HKI.out.1 HR4a.out.1 ?_; rw [HKI.out.2.1])
  | (refine atLoad 26 ?_; refine wpList_ldMid rfl 26 _ _ rfl Tryd.underlying26 rfl (S + 1) 0 rfl (scs s) HSI.out.1 HR4a.out.2 ?_; rw [HSI.out.2.1])
  | (go_at_call 7; refine HJN.out.mono ?_; rintro e x5 ⟨rfl, hb⟩; have H5 : Box (True /\ Below x4.heap.size x4 x5) := ⟨trivial, hb⟩; clear hb))
 clear HJN HR4a
 rename_i K9 hK9
 refine begin_keep (S := fun x => Below x5.heap.size x5 x) (by kernel_rfl) (fun wd hwd => ?_)
 have hS : Below x5.heap.size x5 wd := by rw [hwd]; exact (Below.refl _ _).drew
 clear hwd
 refine take_x (i := 0) (v := ?_) rfl ?_ hS ?_
 rotate_left
 ·rintro w' -; go_simp <;> with_reducible rfl
 try simp only [Act.put, pC, pD, pE, pF, pG]
 refine take_x (i := 1) (v := .agg AK) rfl (fun w' hLat => (by rw [<- HKI.out.2.1]; exact exec_load_mid 23 _ (.tmp 9) rfl Tryd.underlying23 rfl S 0 rfl (K.map (Value.int .u8)) HKI.out.1 ((HR4.out w' (below_to H5.out.2 hLat)).1))) hS ?_
 try simp only [Act.put, pC, pD, pE, pF, pG, pH]
 refine take_x (i := 2) (v := ?_) rfl ?_ hS ?_
 rotate_left
 ·rintro w' -; go_simp <;> with_reducible rfl
 try simp only [Act.put, pC, pD, pE, pF, pG, pH]
 refine take_x (i := 3) (v := ?_) rfl ?_ hS ?_
 rotate_left
 ·rintro w' -; go_simp <;> with_reducible rfl
 try simp only [Act.put, pC, pD, pE, pF, pG, pH]
 refine take_x (i := 4) (v := .agg SA) rfl (fun w' hLat => (by rw [<- HSI.out.2.1]; exact exec_load_mid 26 _ (.tmp 12) rfl Tryd.underlying26 rfl (S + 1) 0 rfl (scs s) HSI.out.1 ((HR4.out w' (below_to H5.out.2 hLat)).2))) hS ?_
 try simp only [Act.put, pC, pD, pE, pF, pG, pH]
 refine take_x (i := 6) (v := ?_) rfl ?_ hS ?_
 rotate_left
 ·rintro w' -; go_simp <;> with_reducible rfl
 try simp only [Act.put, pC, pD, pE, pF, pG, pH]
 refine take_x (i := 7) (v := ?_) rfl ?_ hS ?_
 rotate_left
 ·rintro w' -; go_simp <;> with_reducible rfl
 try simp only [Act.put, pC, pD, pE, pF, pG, pH]
 refine dag_in3 (fun G hG L0 hA0 => ?_)
 have HR9 : Box (∀ (Bw : Nat) (z : World), Below x5.heap.size x5 z -> z.heap[Bw]? = some (.cells RQ.toArray 44 (0, 0)) -> x5.heap.size <= Bw -> K9 { tmps := (((((((L0.set 67 (Value.agg SA)).set 70 (Value.tuple #[Value.agg RQ.toArray, Value.int IntKind.i64 1])).set 61 (Value.tuple #[Value.agg RQ.toArray, Value.int IntKind.i64 1])).set 71 (Value.agg RQ.toArray)).set 72 (Value.int IntKind.i64 1)).set 24 (Value.pointer (some { block := Bw, off := 0 }))).set 25 (Value.int IntKind.i64 1)).toArray, defers := [] } z) := ⟨by
  intro Bw x7 hb7 hw7 hlo
  refine hK9 _ _ ?_
  rw [hA0]
  simp only [List.set_cons_zero, List.set_cons_succ]
  clear hG hA0 hK9 hS
  have H7 : Box (Below x5.heap.size x5 x7 /\ x7.heap[Bw]? = some (.cells RQ.toArray 44 (0, 0)) /\ x5.heap.size <= Bw) := ⟨hb7, hw7, hlo⟩
  clear hb7 hw7 hlo
  go_upto_region 12 with fail
  have H7a : Box (x7.rangeAt Bm 0 V /\ x7.rangeAt Bw 0 RQ /\ Disk.Rv x7 (.agg V.toArray) rz) := ⟨by
   have hb := below_to H5.out.2 H7.out.1
   exact ⟨range_row ((hb.block _ (Array.getElem?_eq_some_iff.1 H4a.out.2.1).1).trans H4a.out.2.1), range_row H7.out.2.1, H4a.out.1.below hb⟩⟩
  have HIv : Box ((Tryd.prog.info? 36).map (·.size) = some V.length /\ (Tryd.prog.info? 44).map (·.size) = some RQ.length) := ⟨by rw [HVl.out]; exact Disk.infoD, by rw [HJ0.out.2.1]; exact infoRj⟩
  obtain ⟨PC, HPC⟩ : ∃ L, Box (pqs V RQ (scs zs) (scs zs) = L) := ⟨_, ⟨rfl⟩⟩
  have HBP : Box (Tryd.prog.built 49 [(0, .agg V.toArray), (1, .agg RQ.toArray)] = some PC.toArray) := ⟨by rw [built_P V RQ HVl.out HJ0.out.2.1, HPC.out]⟩
  have HPl : Box (PC.length = 144 /\ PC.toArray.all (·.oneCell') = true) := ⟨by rw [<- HPC.out, len_pqs HVl.out HJ0.out.2.1 (len_scs okS_zs) (len_scs okS_zs)], by rw [<- HPC.out]; exact pqs_all _ _ (rv_all H7a.out.2.2) HJ0.out.2.2⟩
  have HIP : Box ((Tryd.prog.info? 49).map (·.size) = some PC.toArray.size /\ ZPl.toArray.size = PC.toArray.size) := ⟨by rw [List.size_toArray, HPl.out.1]; exact infoP, by rw [List.size_toArray, List.size_toArray, HPl.out.1, len_ZPl]⟩
  go_upto_region 13 with (first
   | (refine atLoad 36 ?_; refine wpList_ldMid rfl 36 _ _ rfl Tryd.underlying36 rfl Bm 0 rfl V HIv.out.1 H7a.out.1 ?_)
   | (refine atLoad 44 ?_; refine wpList_ldMid rfl 44 _ _ rfl Tryd.underlying44 rfl Bw 0 rfl RQ HIv.out.2 H7a.out.2.1 ?_)
   | (refine atBuild 49 ?_; refine wpList_run rfl _ _ (exec_built 49 [(0, .tmp 83), (1, .tmp 84)] rfl [(0, .agg V.toArray), (1, .agg RQ.toArray)] rfl PC.toArray HBP.out) ?_)
   | (refine atAlloc _ ?_; refine wpList_run rfl _ _ (exec_alloc 49 rfl _ zeroP) ?_)
   | (refine atStore _ ?_; refine wpList_newRow x7 ZPl.toArray PC.toArray HIP.out.1 HIP.out.2 HPl.out.2 rfl _ _ rfl rfl rfl rfl ?_; intro x8 h8 hb8; have H8 : Box (x8.heap[x7.heap.size]? = some (.cells PC.toArray 49 (0, 0)) /\ Below x7.heap.size x7 x8) := ⟨h8, hb8⟩; clear h8 hb8))
  obtain ⟨Bp, hBp⟩ : ∃ B, x7.heap.size = B := ⟨_, rfl⟩
  (try simp only [hBp])
  have HBW : Box (Below w.heap.size w x8) := ⟨(HX.out x8 (HB4.out x8 (below_to H5.out.2 (below_to H7.out.1 H8.out.2)))).2.2.2⟩
  clear H1 H2 H4a HB4 HR4 HSO HRN H5 H7 H7a H8 HIv HBP HPl HIP HX hBp
  go_upto_region 14 with fail
  go_loopw [27] (fun iv wr => iv = .int .i64 0 /\ wr = x8) (fun iv _ => 0)
  case atStart => exact ⟨rfl, rfl⟩
  case round =>
   obtain ⟨rfl, rfl⟩ := hrel
   by_cases h0 : 0 < N
   ·have e0 : decide ((0 : Int) < (N : Int)) = true := by simp; omega
    have e0b : (0 : Int) < (N : Int) := by omega
    go_wp2
    go_ret
    exact ⟨rfl, HBW.out⟩
   ·have e0 : decide ((0 : Int) < (N : Int)) = false := by simp; omega
    have e0b : ¬ (0 : Int) < (N : Int) := by omega
    go_wp2
    go_ret
    exact ⟨rfl, HBW.out⟩⟩
 have HM2a : Box (∀ (Bw : Nat) (y : World), Below x5.heap.size x5 y -> Nb y Bw ZJ 44 -> x5.heap.size <= Bw -> G 2 #[true, true, true, true, true, true, true, true, true, true, true, true, true, false, false] { tmps := ((((((L0.set 67 (Value.agg SA)).set 70 (Value.tuple #[Value.agg RQ.toArray, Value.int IntKind.i64 1])).set 61 (Value.tuple #[Value.agg RQ.toArray, Value.int IntKind.i64 1])).set 71 (Value.agg RQ.toArray)).set 72 (Value.int IntKind.i64 1)).set 24 (Value.pointer (some { block := Bw, off := 0 }))).toArray, defers := [] } y) := ⟨by
  intro Bw y hS nb gb
  rw [hG, hA0]
  simp only [List.set_cons_zero, List.set_cons_succ]
  refine one_keep (i := 13) (by kernel_rfl) (keep_step rfl (by rfl) ?_)
  have hp : (y.setCells Bw 0 RQ).heap[Bw]? = some (.cells RQ.toArray 44 (0, 0)) /\ But Bw y (y.setCells Bw 0 RQ) := put_row (Z := ZJ.toList) (by rw [Array.toArray_toList]; exact nb) (by rw [Array.length_toList, HZJ.out.2, HJ0.out.2.1])
  refine wp_store_mid 44 (.tmp 24) (.tmp 71) rfl Bw 0 RQ.toArray rfl rfl (there_row nb (by rw [HZJ.out.2, List.size_toArray, HJ0.out.2.1]; omega)) (by rw [List.size_toArray, HJ0.out.2.1]; exact infoRj) HJ0.out.2.2 ?_
  rw [List.toList_toArray]
  have hS2 : Below x5.heap.size x5 (y.setCells Bw 0 RQ) := below_but hS hp.2 gb hS.size
  refine ⟨hS2, ?_⟩
  try simp only [Act.put, pF, pG, pH]
  refine take_x (i := 14) (v := ?_) rfl ?_ hS2 ?_
  rotate_left
  ·rintro w' -; go_simp <;> with_reducible rfl
  try simp only [Act.put, pC, pD, pE, pF, pG, pH]
  refine wpAnyH_done (by kernel_rfl) ?_ _
  show K9 _ _
  exact act_to3 (K := K9) (by rw [hA0]; kernel_rfl) (HR9.out Bw _ hS2 hp.1 gb)⟩
 have HM2 : Box (∀ (y : World), Below x5.heap.size x5 y -> G 3 #[true, true, true, true, true, true, true, true, true, true, true, true, false, false, false] { tmps := (((((L0.set 67 (Value.agg SA)).set 70 (Value.tuple #[Value.agg RQ.toArray, Value.int IntKind.i64 1])).set 61 (Value.tuple #[Value.agg RQ.toArray, Value.int IntKind.i64 1])).set 71 (Value.agg RQ.toArray)).set 72 (Value.int IntKind.i64 1)).toArray, defers := [] } y) := ⟨by
  intro y hS
  rw [hG, hA0]
  simp only [List.set_cons_zero, List.set_cons_succ]
  refine one_keep (i := 12) (by kernel_rfl) ?_
  refine keep_step rfl (by rfl) (al_arm 44 rfl _ HZJ.out.1 hS fun Bw z nb gb hb hS => ?_)
  try simp only [Act.put, pC, pD, pE, pF, pG, pH]
  exact dag_to3 hG (by kernel_rfl) (by rw [hA0]; kernel_rfl) (HM2a.out Bw _ hS nb gb)⟩
 have HM1a : Box (∀ (Bw : Nat) (y : World), Below x5.heap.size x5 y -> Nb y Bw ZJ 44 -> x5.heap.size <= Bw -> G 6 #[true, true, true, true, true, true, true, true, false, false, false, false, true, false, false] { tmps := ((L0.set 67 (Value.agg SA)).set 24 (Value.pointer (some { block := Bw, off := 0 }))).toArray, defers := [] } y) := ⟨by
  intro Bw y hS nb gb
  rw [hG, hA0]
  simp only [List.set_cons_zero, List.set_cons_succ]
  refine one_keep (i := 8) (by kernel_rfl) ?_
  refine keep_step rfl (by rfl) ?_
  go_simp
  refine Calls.mono (HRN.out _) ?_
  rintro e z ⟨rfl, hb⟩
  have hS := below_to hS hb
  have nb := nb.below hb
  clear hb
  refine ⟨hS, ?_⟩
  try simp only [Act.put, pC, pD, pE, pF, pG, pH]
  refine take_x (i := 9) (v := ?_) rfl ?_ hS ?_
  rotate_left
  ·rintro w' -; go_simp <;> with_reducible rfl
  try simp only [Act.put, pC, pD, pE, pF, pG, pH]
  refine take_x (i := 10) (v := ?_) rfl ?_ hS ?_
  rotate_left
  ·rintro w' -; go_simp <;> with_reducible rfl
  try simp only [Act.put, pC, pD, pE, pF, pG, pH]
  refine take_x (i := 11) (v := ?_) rfl ?_ hS ?_
  rotate_left
  ·rintro w' -; go_simp <;> with_reducible rfl
  try simp only [Act.put, pC, pD, pE, pF, pG, pH]
  exact dag_to3 hG (by kernel_rfl) (by rw [hA0]; kernel_rfl) (HM2a.out Bw _ hS nb gb)⟩
 have HM1 : Box (∀ (y : World), Below x5.heap.size x5 y -> G 7 #[true, true, true, true, true, true, true, true, false, false, false, false, false, false, false] { tmps := (L0.set 67 (Value.agg SA)).toArray, defers := [] } y) := ⟨by
  intro y hS
  rw [hG, hA0]
  simp only [List.set_cons_zero, List.set_cons_succ]
  refine two_keep (i := 8) (j := 12) (by kernel_rfl) ?_ ?_
  ·as_aux_lemma =>
    refine keep_step rfl (by rfl) ?_
    go_simp
    refine Calls.mono (HRN.out _) ?_
    rintro e z ⟨rfl, hb⟩
    have hS := below_to hS hb
    clear hb
    refine ⟨hS, ?_⟩
    try simp only [Act.put, pC, pD, pE, pF, pG, pH]
    refine take_x (i := 9) (v := ?_) rfl ?_ hS ?_
    rotate_left
    ·rintro w' -; go_simp <;> with_reducible rfl
    try simp only [Act.put, pC, pD, pE, pF, pG, pH]
    refine take_x (i := 10) (v := ?_) rfl ?_ hS ?_
    rotate_left
    ·rintro w' -; go_simp <;> with_reducible rfl
    try simp only [Act.put, pC, pD, pE, pF, pG, pH]
    refine take_x (i := 11) (v := ?_) rfl ?_ hS ?_
    rotate_left
    ·rintro w' -; go_simp <;> with_reducible rfl
    try simp only [Act.put, pC, pD, pE, pF, pG, pH]
    exact dag_to3 hG (by kernel_rfl) (by rw [hA0]; kernel_rfl) (HM2.out _ hS)
  ·as_aux_lemma =>
    refine keep_step rfl (by rfl) (al_arm 44 rfl _ HZJ.out.1 hS fun Bw z nb gb hb hS => ?_)
    try simp only [Act.put, pC, pD, pE, pF, pG, pH]
    exact dag_to3 hG (by kernel_rfl) (by rw [hA0]; kernel_rfl) (HM1a.out Bw _ hS nb gb)⟩
 have HM0a : Box (∀ (Bw : Nat) (y : World), Below x5.heap.size x5 y -> Nb y Bw ZJ 44 -> x5.heap.size <= Bw -> G 7 #[true, true, true, true, true, false, true, true, false, false, false, false, true, false, false] { tmps := (L0.set 24 (Value.pointer (some { block := Bw, off := 0 }))).toArray, defers := [] } y) := ⟨by
  intro Bw y hS nb gb
  rw [hG, hA0]
  simp only [List.set_cons_zero, List.set_cons_succ]
  refine one_keep (i := 5) (by kernel_rfl) ?_
  refine keep_step rfl (by rfl) ?_
  go_simp
  refine Calls.mono (HSO.out _) ?_
  rintro e z ⟨rfl, hb⟩
  have hS := below_to hS hb
  have nb := nb.below hb
  clear hb
  refine ⟨hS, ?_⟩
  try simp only [Act.put, pC, pD, pE, pF, pG, pH]
  exact dag_to3 hG (by kernel_rfl) (by rw [hA0]; kernel_rfl) (HM1a.out Bw _ hS nb gb)⟩
 rw [hG, hA0]
 refine two_keep (i := 5) (j := 12) (by kernel_rfl) ?_ ?_
 ·as_aux_lemma =>
   refine keep_step rfl (by rfl) ?_
   go_simp
   refine Calls.mono (HSO.out _) ?_
   rintro e z ⟨rfl, hb⟩
   have hS := below_to hS hb
   clear hb
   refine ⟨hS, ?_⟩
   try simp only [Act.put, pC, pD, pE, pF, pG, pH]
   exact dag_to3 hG (by kernel_rfl) (by rw [hA0]; kernel_rfl) (HM1.out _ hS)
 ·as_aux_lemma =>
   refine keep_step rfl (by rfl) (al_arm 44 rfl _ HZJ.out.1 hS fun Bw z nb gb hb hS => ?_)
   try simp only [Act.put, pC, pD, pE, pF, pG, pH]
   exact dag_to3 hG (by kernel_rfl) (by rw [hA0]; kernel_rfl) (HM0a.out Bw _ hS nb gb)
set_option maxHeartbeats 32000000 in
theorem journalPlays_ok (n : Nat) (hn : 1 <= n /\ n <= 30) (K : List Int) (hK : K.length = 32 /\ Byt K) (f z : Nat) (hz : 1 <= z) (hfit : f + z <= n) (s : Jst) (hs : OkS s) (nx lim : Int) (hm : may z s = true) (hnx : 1 <= nx /\ nx <= 18446744073709551615) (hlim : 0 <= lim /\ lim <= 9223372036854775807) (a : Option Addr) (cap : Nat) (L : List Ac) (hL : L.length <= 9223372036854775807) (w : World) (hT : Dig.Tabs w) (hT2 : Seal.Tab w) (hA : Ats w a L) :
  Calls Tryd.prog 3 #[.int .i64 (n : Int), .agg (u8s K), .int .i64 (f : Int), .int .i64 (z : Int), .agg (sa s), .int .u64 nx, .int .u64 lim, .slice a L.length cap] w fun e w' => e = .returned (.bool true) /\ Below w.heap.size w w' := by
 obtain ⟨S, hS⟩ : ∃ S, w.heap.size = S := ⟨_, rfl⟩
 obtain ⟨AK, HAK⟩ : ∃ A, Box (u8s K = A) := ⟨_, ⟨rfl⟩⟩
 obtain ⟨SA, HSA⟩ : ∃ A, Box (sa s = A) := ⟨_, ⟨rfl⟩⟩
 obtain ⟨N, hN⟩ : ∃ N, L.length = N := ⟨_, rfl⟩
 rw [HAK.out, HSA.out, hN]
 obtain ⟨w1, hw1⟩ : ∃ w1, (w.alloc (.cells AK 23)).alloc (.cells SA 26) = w1 := ⟨_, rfl⟩
 have hb1 : Below w.heap.size w w1 := by rw [<- hw1]; exact ((Below.refl _ _).alloc (Nat.le_refl _) _).alloc (by simp) _
 have hs1 : (w.alloc (.cells AK 23)).heap.size = S + 1 := by simp [hS]
 have r1 : w1.heap[S]? = some (.cells AK 23 (0, 0)) := by rw [<- hw1]; exact al_old (al_at hS)
 have r2 : w1.heap[S + 1]? = some (.cells SA 26 (0, 0)) := by rw [<- hw1]; exact al_at hs1
 have HAW : Box (Calls Tryd.prog 4 #[] w1 fun e w' => e = .returned (.bool true) /\ Below w1.heap.size w1 w') := ⟨awake_v w1 (hT.below hb1) (hT2.below hb1)⟩
 have HX : Box (∀ x, Below w1.heap.size w1 x -> (x.rangeAt S 0 (K.map (Value.int .u8)) /\ x.rangeAt (S + 1) 0 (scs s)) /\ Dig.Tabs x /\ Seal.Tab x /\ Below w.heap.size w x) := ⟨fun x hx => by
  have k1 := (hx.block S (Array.getElem?_eq_some_iff.1 r1).1).trans r1
  have k2 := (hx.block (S + 1) (Array.getElem?_eq_some_iff.1 r2).1).trans r2
  rw [<- HAK.out] at k1
  rw [<- HSA.out] at k2
  exact ⟨⟨range_row (cs := K.map (Value.int .u8)) k1, range_sa k2⟩, hT.below (below_to hb1 hx), hT2.below (below_to hb1 hx), below_to hb1 hx⟩⟩
 have HKI : Box ((Tryd.prog.info? 23).map (·.size) = some (K.map (Value.int .u8)).length /\ (K.map (Value.int .u8)).toArray = AK /\ K.length = 32 /\ Byt K) := ⟨by rw [List.length_map, hK.1]; exact infoSum, by rw [<- HAK.out]; rfl, hK⟩
 have HSI : Box ((Tryd.prog.info? 26).map (·.size) = some (scs s).length /\ (scs s).toArray = SA /\ OkS s) := ⟨by rw [len_scs hs]; exact infoSt, by rw [<- HSA.out]; rfl, hs⟩
 have HLN : Box (L.length = N /\ N <= 9223372036854775807 /\ Ats w a L) := ⟨hN, by omega, hA⟩
 have HNn : Box (1 <= n /\ n <= 30) := ⟨hn⟩
 have g1 : decide ((n : Int) < 1) = false := by simp; omega
 have g2 : decide ((30 : Int) < (n : Int)) = false := by simp; omega
 have g3 : ¬ (n : Int) < 1 := by omega
 have g4 : ¬ (30 : Int) < (n : Int) := by omega
 clear hT hT2 hK hs hb1 r1 r2 hn hN hL hA
 go_enter Tryd.func3, Tryd.ntmps3
 go_upto_region 1 with fail
 (try rw [hs1])
 (try simp only [hS])
 (try simp only [hw1])
 clear hw1 hs1 hS
 go_upto_region 4 with (go_at_call 4; refine HAW.out.mono ?_; rintro e x1 ⟨rfl, hb⟩; have H1 : Box (Below w1.heap.size w1 x1) := ⟨hb⟩; clear hb)
 go_upto_region 6 with fail
 clear HAW g1 g2 g3 g4
 obtain ⟨D, hD⟩ : ∃ D, x1.heap.size + 1 = D := ⟨_, rfl⟩
 have HD : Box (Calls Tryd.prog 5 #[.int .i64 (n : Int)] x1 fun e w' => e = .returned (.tuple #[.pointer (some ⟨D, 0, none⟩), .int .i64 0]) /\ ∃ fp, Disk.Cx x1 w' D fp (Disk.dk0 n)) := ⟨by have := Disk.new_cx x1 n ⟨HNn.out.1, by have := HNn.out.2; omega⟩; rw [hD] at this; exact this⟩
 clear hD
 obtain ⟨dz, hdz⟩ : ∃ dz, Disk.dk0 n = dz := ⟨_, rfl⟩
 rw [hdz] at HD
 have HD0 : Box (dz.n = n /\ Disk.J 0 dz (Disk.rd0 n)) := ⟨by rw [<- hdz]; exact ⟨rfl, Disk.j_new n⟩⟩
 clear hdz
 go_upto_region 7 with (go_at_call 5; refine HD.out.mono ?_; rintro e x2 ⟨rfl, fp2, hc⟩; have H2 : Box (Disk.Cx x1 x2 D fp2 dz) := ⟨hc⟩; clear hc)
 clear HD
 obtain ⟨rz, hrz⟩ : ∃ rz, Disk.rd0 n = rz := ⟨_, rfl⟩
 rw [hrz] at HD0
 have HRn : Box (Calls Tryd.prog 6 #[.int .i64 (n : Int)] x2 fun e w' => ∃ V : List Value, e = .returned (.tuple #[.agg V.toArray, .int .i64 0]) /\ Disk.Rv w' (.agg V.toArray) rz /\ Below x2.heap.size x2 w' /\ V.toArray.all (·.oneCell') = true /\ (Tryd.prog.info? 36).map (·.size) = some V.toArray.size /\ V.length = 6) := ⟨by
  have := Disk.rnew_any x2 n ⟨HNn.out.1, by have := HNn.out.2; omega⟩
  rw [hrz] at this
  refine this.mono ?_
  rintro e w' ⟨v, rfl, hr, hb⟩
  obtain ⟨V, rfl, hl, ha⟩ := rv_form hr
  exact ⟨V, rfl, hr, hb, ha, by rw [List.size_toArray, hl]; exact Disk.infoD, hl⟩⟩
 clear hrz
 obtain ⟨ZD, hZD⟩ : ∃ ZD, (Disk.rv 0 (.slice none 0 0) (.slice none 0 0) 0 false (.slice none 0 0)).toArray = ZD := ⟨_, rfl⟩
 have HZD : Box ((Tryd.prog.info? 36).map (·.zero) = some (some (.agg ZD)) /\ ZD.size = 6) := ⟨by rw [<- hZD]; exact Disk.zeroD, by rw [<- hZD]; rfl⟩
 obtain ⟨ZJ, hZJ⟩ : ∃ ZJ, (rq z32 0 0 zs 0 0).toArray = ZJ := ⟨_, rfl⟩
 have HZJ : Box ((Tryd.prog.info? 44).map (·.zero) = some (some (.agg ZJ)) /\ ZJ.size = 70) := ⟨by rw [<- hZJ]; exact zeroRj, by rw [<- hZJ, List.size_toArray, len_rq _ _ _ _ _ _ len_z32 okS_zs]⟩
 clear hZD hZJ
 go_upto_region 8 with (first
  | (go_at_call 6; refine HRn.out.mono ?_; rintro e x3 ⟨V, rfl, hr, hb, ha, hi, hl⟩; have H3 : Box (Disk.Rv x3 (.agg V.toArray) rz /\ Below x2.heap.size x2 x3 /\ V.toArray.all (·.oneCell') = true /\ (Tryd.prog.info? 36).map (·.size) = some V.toArray.size /\ ZD.size = V.toArray.size /\ V.length = 6) := ⟨hr, hb, ha, hi, by rw [HZD.out.2, List.size_toArray, hl], hl⟩; clear hr hb ha hi hl)
  | (refine atAlloc _ ?_; refine wpList_run rfl _ _ (exec_alloc 36 rfl _ HZD.out.1) ?_)
  | (refine atStore _ ?_; refine wpList_newRow x3 ZD V.toArray H3.out.2.2.2.1 H3.out.2.2.2.2.1 H3.out.2.2.1 rfl _ _ rfl rfl rfl rfl ?_; intro x4 h4 hb4; have H4 : Box (x4.heap[x3.heap.size]? = some (.cells V.toArray 36 (0, 0)) /\ Below x3.heap.size x3 x4) := ⟨h4, hb4⟩; clear h4 hb4))
 obtain ⟨Bm, hBm⟩ : ∃ Bm, x3.heap.size = Bm := ⟨_, rfl⟩
 (try simp only [hBm])
 have H4a : Box (Disk.Rv x4 (.agg V.toArray) rz /\ x4.heap[Bm]? = some (.cells V.toArray 36 (0, 0)) /\ Disk.Cx x1 x4 D fp2 dz /\ x2.heap.size <= Bm /\ Below x2.heap.size x2 x4) := ⟨H3.out.1.below H4.out.2, by rw [<- hBm]; exact H4.out.1, (H2.out.step H3.out.2.1).step H4.out.2, by rw [<- hBm]; exact H3.out.2.1.size, below_to H3.out.2.1 H4.out.2⟩
 have HVl : Box (V.length = 6) := ⟨H3.out.2.2.2.2.2⟩
 clear hBm H3 H4 HRn
 have HB4 : Box (∀ x, Below x4.heap.size x4 x -> Below w1.heap.size w1 x) := ⟨fun x hx => below_to (below_to H1.out H2.out.bel) (below_to H4a.out.2.2.2.2 hx)⟩
 have HR4 : Box (∀ x, Below x4.heap.size x4 x -> x.rangeAt S 0 (K.map (Value.int .u8)) /\ x.rangeAt (S + 1) 0 (scs s)) := ⟨fun x hx => (HX.out x (HB4.out x hx)).1⟩
 have HR4a : Box (x4.rangeAt S 0 (K.map (Value.int .u8)) /\ x4.rangeAt (S + 1) 0 (scs s)) := ⟨HR4.out x4 (Below.refl _ _)⟩
 have HSO : Box (∀ x, Calls Tryd.prog 9 #[.agg SA] x fun e x' => e = .returned (.agg SA) /\ Below x.heap.size x x') := ⟨fun x => by
  have := stateOf_any s HSI.out.2.2 x
  rw [HSA.out] at this
  exact this⟩
 obtain ⟨j0, hj0⟩ : ∃ x : Jt, (⟨K, f, z, s, nx, lim⟩ : Jt) = x := ⟨_, rfl⟩
 obtain ⟨RQ, hRQ⟩ : ∃ RQ, rq K (f : Int) (z : Int) s nx lim = RQ := ⟨_, rfl⟩
 have HJ0 : Box (rqj j0 = RQ /\ RQ.length = 70 /\ RQ.toArray.all (·.oneCell') = true) := ⟨by rw [<- hj0]; exact hRQ, by rw [<- hRQ]; exact len_rq _ _ _ _ _ _ HKI.out.2.2.1 HSI.out.2.2, by rw [<- hRQ]; exact all_rq _ _ _ _ _ _⟩
 have HJN : Box (Calls Tryd.prog 7 #[.pointer (some ⟨D, 0, none⟩), .agg AK, .int .i64 (f : Int), .int .i64 (z : Int), .agg SA, .int .u64 nx, .int .u64 lim] x4 fun e w' => ∃ J, e = .returned (.tuple #[.pointer (some ⟨J, 0, none⟩), .int .i64 0]) /\ Sc x1 w' J D j0 dz /\ Below x4.heap.size x4 w') := ⟨by
  have hx1 := HX.out x1 H1.out
  have := jnew_ok H4a.out.2.2.1 K HKI.out.2.2 f z hz (by rw [HD0.out.1]; exact hfit) (by rw [HD0.out.1]; have := HNn.out.2; omega) s HSI.out.2.2 hm nx lim hnx hlim hx1.2.1 hx1.2.2.1
  rw [HAK.out, HSA.out, hj0] at this
  exact this.mono fun e w' ⟨J, h1, h2, h3, _⟩ => ⟨J, h1, Sc.of h2, h3⟩⟩
 have HRN : Box (∀ x, Calls Tryd.prog 8 #[.int .i64 (n : Int), .agg AK, .int .i64 (f : Int), .int .i64 (z : Int), .agg SA, .int .u64 nx, .int .u64 lim] x fun e w' => e = .returned (.tuple #[.agg RQ.toArray, .int .i64 0]) /\ Below x.heap.size x w') := ⟨fun x => by
  obtain ⟨m1, m2⟩ := may_ok hm
  have := rnew13_ok n f z hz hfit (by have := HNn.out.2; omega) K HKI.out.2.2.1 s HSI.out.2.2 m1 m2 nx lim hnx hlim x
  rw [HAK.out, HSA.out, hRQ] at this
  exact this⟩
 clear hj0 hRQ
 go_upto_region 9 with (first
  | (refine atLoad 23 ?_; refine wpList_ldMid rfl 23 _ _ rfl Tryd.underlying23 rfl S 0 rfl (K.map (Value.int .u8)) HKI.out.1 HR4a.out.1 ?_; rw [HKI.out.2.1])
  | (refine atLoad 26 ?_; refine wpList_ldMid rfl 26 _ _ rfl Tryd.underlying26 rfl (S + 1) 0 rfl (scs s) HSI.out.1 HR4a.out.2 ?_; rw [HSI.out.2.1])
  | (go_at_call 7; refine HJN.out.mono ?_; rintro e x5 ⟨J, rfl, hc, hb⟩; have H5 : Box (Sc x1 x5 J D j0 dz /\ Below x4.heap.size x4 x5) := ⟨hc, hb⟩; clear hc hb))
 clear HJN HR4a
 rename_i K9 hK9
 refine begin_keep (S := fun x => Below x5.heap.size x5 x) (by kernel_rfl) (fun wd hwd => ?_)
 have hS : Below x5.heap.size x5 wd := by rw [hwd]; exact (Below.refl _ _).drew
 clear hwd
 refine take_x (i := 0) (v := ?_) rfl ?_ hS ?_
 rotate_left
 ·rintro w' -; go_simp <;> with_reducible rfl
 try simp only [Act.put, pC, pD, pE, pF, pG]
 refine take_x (i := 1) (v := .agg AK) rfl (fun w' hLat => (by rw [<- HKI.out.2.1]; exact exec_load_mid 23 _ (.tmp 9) rfl Tryd.underlying23 rfl S 0 rfl (K.map (Value.int .u8)) HKI.out.1 ((HR4.out w' (below_to H5.out.2 hLat)).1))) hS ?_
 try simp only [Act.put, pC, pD, pE, pF, pG, pH]
 refine take_x (i := 2) (v := ?_) rfl ?_ hS ?_
 rotate_left
 ·rintro w' -; go_simp <;> with_reducible rfl
 try simp only [Act.put, pC, pD, pE, pF, pG, pH]
 refine take_x (i := 3) (v := ?_) rfl ?_ hS ?_
 rotate_left
 ·rintro w' -; go_simp <;> with_reducible rfl
 try simp only [Act.put, pC, pD, pE, pF, pG, pH]
 refine take_x (i := 4) (v := .agg SA) rfl (fun w' hLat => (by rw [<- HSI.out.2.1]; exact exec_load_mid 26 _ (.tmp 12) rfl Tryd.underlying26 rfl (S + 1) 0 rfl (scs s) HSI.out.1 ((HR4.out w' (below_to H5.out.2 hLat)).2))) hS ?_
 try simp only [Act.put, pC, pD, pE, pF, pG, pH]
 refine take_x (i := 6) (v := ?_) rfl ?_ hS ?_
 rotate_left
 ·rintro w' -; go_simp <;> with_reducible rfl
 try simp only [Act.put, pC, pD, pE, pF, pG, pH]
 refine take_x (i := 7) (v := ?_) rfl ?_ hS ?_
 rotate_left
 ·rintro w' -; go_simp <;> with_reducible rfl
 try simp only [Act.put, pC, pD, pE, pF, pG, pH]
 refine dag_in3 (fun G hG L0 hA0 => ?_)
 have HR9 : Box (∀ (Bw : Nat) (z : World), Below x5.heap.size x5 z -> z.heap[Bw]? = some (.cells RQ.toArray 44 (0, 0)) -> x5.heap.size <= Bw -> K9 { tmps := (((((((L0.set 67 (Value.agg SA)).set 70 (Value.tuple #[Value.agg RQ.toArray, Value.int IntKind.i64 0])).set 61 (Value.tuple #[Value.agg RQ.toArray, Value.int IntKind.i64 0])).set 71 (Value.agg RQ.toArray)).set 72 (Value.int IntKind.i64 0)).set 24 (Value.pointer (some { block := Bw, off := 0 }))).set 25 (Value.int IntKind.i64 0)).toArray, defers := [] } z) := ⟨by
  intro Bw x7 hb7 hw7 hlo
  refine hK9 _ _ ?_
  rw [hA0]
  simp only [List.set_cons_zero, List.set_cons_succ]
  clear hG hA0 hK9 hS
  have H7 : Box (Below x5.heap.size x5 x7 /\ x7.heap[Bw]? = some (.cells RQ.toArray 44 (0, 0)) /\ x5.heap.size <= Bw) := ⟨hb7, hw7, hlo⟩
  clear hb7 hw7 hlo
  go_upto_region 12 with fail
  have H7a : Box (x7.rangeAt Bm 0 V /\ x7.rangeAt Bw 0 RQ /\ Disk.Rv x7 (.agg V.toArray) rz) := ⟨by
   have hb := below_to H5.out.2 H7.out.1
   exact ⟨range_row ((hb.block _ (Array.getElem?_eq_some_iff.1 H4a.out.2.1).1).trans H4a.out.2.1), range_row H7.out.2.1, H4a.out.1.below hb⟩⟩
  have HIv : Box ((Tryd.prog.info? 36).map (·.size) = some V.length /\ (Tryd.prog.info? 44).map (·.size) = some RQ.length) := ⟨by rw [HVl.out]; exact Disk.infoD, by rw [HJ0.out.2.1]; exact infoRj⟩
  obtain ⟨PC, HPC⟩ : ∃ L, Box (pqs V RQ (scs zs) (scs zs) = L) := ⟨_, ⟨rfl⟩⟩
  have HBP : Box (Tryd.prog.built 49 [(0, .agg V.toArray), (1, .agg RQ.toArray)] = some PC.toArray) := ⟨by rw [built_P V RQ HVl.out HJ0.out.2.1, HPC.out]⟩
  have HPl : Box (PC.length = 144 /\ PC.toArray.all (·.oneCell') = true) := ⟨by rw [<- HPC.out, len_pqs HVl.out HJ0.out.2.1 (len_scs okS_zs) (len_scs okS_zs)], by rw [<- HPC.out]; exact pqs_all _ _ (rv_all H7a.out.2.2) HJ0.out.2.2⟩
  have HIP : Box ((Tryd.prog.info? 49).map (·.size) = some PC.toArray.size /\ ZPl.toArray.size = PC.toArray.size) := ⟨by rw [List.size_toArray, HPl.out.1]; exact infoP, by rw [List.size_toArray, List.size_toArray, HPl.out.1, len_ZPl]⟩
  go_upto_region 13 with (first
   | (refine atLoad 36 ?_; refine wpList_ldMid rfl 36 _ _ rfl Tryd.underlying36 rfl Bm 0 rfl V HIv.out.1 H7a.out.1 ?_)
   | (refine atLoad 44 ?_; refine wpList_ldMid rfl 44 _ _ rfl Tryd.underlying44 rfl Bw 0 rfl RQ HIv.out.2 H7a.out.2.1 ?_)
   | (refine atBuild 49 ?_; refine wpList_run rfl _ _ (exec_built 49 [(0, .tmp 83), (1, .tmp 84)] rfl [(0, .agg V.toArray), (1, .agg RQ.toArray)] rfl PC.toArray HBP.out) ?_)
   | (refine atAlloc _ ?_; refine wpList_run rfl _ _ (exec_alloc 49 rfl _ zeroP) ?_)
   | (refine atStore _ ?_; refine wpList_newRow x7 ZPl.toArray PC.toArray HIP.out.1 HIP.out.2 HPl.out.2 rfl _ _ rfl rfl rfl rfl ?_; intro x8 h8 hb8; have H8 : Box (x8.heap[x7.heap.size]? = some (.cells PC.toArray 49 (0, 0)) /\ Below x7.heap.size x7 x8) := ⟨h8, hb8⟩; clear h8 hb8))
  obtain ⟨Bp, hBp⟩ : ∃ B, x7.heap.size = B := ⟨_, rfl⟩
  (try simp only [hBp])
  have HL0 : Box (Lp x1 x8 J D Bp 0 n j0 dz rz V zs) := ⟨by
   have hb := below_to H7.out.1 H8.out.2
   have hs5 := H5.out.1.below hb
   have hlo : x1.heap.size <= x7.heap.size := (H5.out.1.below H7.out.1).bel.size
   exact ⟨hs5, by rw [HJ0.out.1, HPC.out, <- hBp]; exact H8.out.1, H7a.out.2.2.below H8.out.2, HD0.out.2, okS_zs, HD0.out.1, by rw [<- hBp]; exact hlo⟩⟩
  have HW1 : Box (Below w1.heap.size w1 x1) := ⟨H1.out⟩
  clear H1 H2 H4a HB4 HR4 HSO HRN H5 H7 H7a H8 HIv HBP HPl HIP hBp HPC HVl HJ0 HD0 HZD HZJ HSI HKI
  go_upto_region 14 with fail
  go_loopw [27] (fun iv wr => ∃ (i : Nat) (j : Jt) (d : Disk.Dk) (r : Disk.Rd) (V : List Value) (s' : Jst), i <= 20 /\ i <= N /\ iv = .int .i64 (i : Int) /\ Box (Lp x1 wr J D Bp i n j d r V s')) (fun iv _ => 20 - (intOf iv).toNat)
  case atStart => exact ⟨0, j0, dz, rz, V, zs, by omega, Nat.zero_le _, rfl, HL0⟩
  case round =>
   clear HL0
   obtain ⟨i, j, d, r, V2, s2, hi20, hiN, rfl, HL⟩ := hrel
   have HBW : Box (∀ x, Below x1.heap.size x1 x -> Below w.heap.size w x) := ⟨fun x hx => (HX.out x (below_to HW1.out hx)).2.2.2⟩
   by_cases hlt : i < N /\ i < 20
   rotate_left
   ·have HBx : Box (Below w.heap.size w wr) := ⟨HBW.out wr HL.out.sc.bel⟩
    by_cases hlN : i < N
    ·have e0 : decide ((i : Int) < (N : Int)) = true := by simp; omega
     have e0b : (i : Int) < (N : Int) := by omega
     have e1 : decide ((i : Int) < 20) = false := by simp; omega
     have e1b : ¬ (i : Int) < 20 := by omega
     clear hlt hlN hi20 hiN
     go_wp2
     go_ret
     exact ⟨rfl, HBx.out⟩
    ·have e0 : decide ((i : Int) < (N : Int)) = false := by simp; omega
     have e0b : ¬ (i : Int) < (N : Int) := by omega
     clear hlt hlN hi20 hiN
     go_wp2
     go_ret
     exact ⟨rfl, HBx.out⟩
   ·obtain ⟨hlN, hl20⟩ := hlt
    have e0 : decide ((i : Int) < (N : Int)) = true := by simp; omega
    have e1 : decide ((i : Int) < 20) = true := by simp; omega
    have e0b : (i : Int) < (N : Int) := by omega
    have e1b : (i : Int) < 20 := by omega
    have HI : Box (i < N /\ i < 20) := ⟨hlN, hl20⟩
    have hiL : i < L.length := by rw [HLN.out.1]; exact hlN
    obtain ⟨b, o, hae, hbl, -⟩ := HLN.out.2.2.below (Below.refl _ _) i hiL
    subst hae
    obtain ⟨A, hAe⟩ : ∃ A, L[i] = A := ⟨_, rfl⟩
    have HAc : Box ((∀ x, Below w.heap.size w x -> x.rangeAt b (o + i * 40) (acs A)) /\ OkA0 w A /\ b < w.heap.size) := ⟨fun x hx => by
     obtain ⟨b', o', e, _, hr⟩ := HLN.out.2.2.below hx i hiL
     simp only [Option.some.injEq, Addr.mk.injEq, and_true] at e
     rw [e.1, e.2, <- hAe]
     exact hr, by rw [<- hAe]; exact HLN.out.2.2.ok _ (List.getElem_mem hiL), hbl⟩
    have c0 : wr.cell? ⟨b, o + i * 40 + 1, none⟩ = some (.slice A.la A.L.length A.lc) := HAc.out.1 wr (HBW.out wr HL.out.sc.bel) 1 _ rfl
    obtain ⟨m, hm⟩ : ∃ m, A.L.length = m := ⟨_, rfl⟩
    have HM : Box (A.L.length = m /\ m <= maxLen) := ⟨hm, by rw [<- hm]; exact HAc.out.2.1.lL⟩
    rw [hm] at c0
    have hmm := HM.out.2
    unfold maxLen at hmm
    clear hm hAe hbl hiL
    by_cases h8 : m <= 8
    rotate_left
    ·have e8 : decide ((8 : Int) < (m : Int)) = true := by simp; omega
     have e8b : (8 : Int) < (m : Int) := by omega
     have HBx : Box (Below w.heap.size w wr) := ⟨HBW.out wr HL.out.sc.bel⟩
     clear hlN hl20 hiN hi20
     go_wp2_with (refine atIdx 27 ?_; refine wpList_run rfl _ _ (exec_idxT 27 53 Tryd.underlying27 40 infoAc _ _ rfl b o N cap i rfl rfl HI.out.1) ?_)
     go_ret
     exact ⟨rfl, HBx.out⟩
    ·have e8 : decide ((8 : Int) < (m : Int)) = false := by simp; omega
     have e8b : ¬ (8 : Int) < (m : Int) := by omega
     have H8 : Box (m <= 8) := ⟨h8⟩
     clear hlN hl20 hiN hi20 h8 hmm
     go_upto_region 19 with (refine atIdx 27 ?_; refine wpList_run rfl _ _ (exec_idxT 27 53 Tryd.underlying27 40 infoAc _ _ rfl b o N cap i rfl rfl HI.out.1) ?_)
     clear c0 e8 e8b e0 e0b e1 e1b
     obtain ⟨PC, HPC⟩ : ∃ L, Box (pqs V2 (rqj j) (scs s2) (scs s2) = L) := ⟨_, ⟨rfl⟩⟩
     obtain ⟨AC, HAC⟩ : ∃ L, Box (acs A = L) := ⟨_, ⟨rfl⟩⟩
     have HIP : Box ((Tryd.prog.info? 49).map (·.size) = some PC.length /\ PC.length = 144 /\ (Tryd.prog.info? 53).map (·.size) = some AC.length) := ⟨by rw [<- HPC.out, len_pqs (rv_len HL.out.rv) (len_rqj HL.out.sc.ok) (len_scs HL.out.os) (len_scs HL.out.os)]; exact infoP, by rw [<- HPC.out, len_pqs (rv_len HL.out.rv) (len_rqj HL.out.sc.ok) (len_scs HL.out.os) (len_scs HL.out.os)], by rw [<- HAC.out, len_acs A HAc.out.2.1.st]; exact infoAc⟩
     have HST : Box (∀ x, Below wr.heap.size wr x -> Calls Tryd.prog 10 #[.pointer (some ⟨D, 0, none⟩), .pointer (some ⟨J, 0, none⟩), .agg PC.toArray, .agg AC.toArray] x fun e z => StK x1 x J D (8 * i) d e z) := ⟨fun x hx => by
      have hl := HL.out.below hx
      have := step_v x1 J D (8 * i) j d r V2 s2 A x hl.sc hl.rv hl.hj hl.os (HAc.out.2.1.to (HX.out x1 HW1.out).2.2.2 (by rw [HM.out.1]; exact H8.out)) (by have := HI.out.2; omega)
      rw [HPC.out, HAC.out] at this
      exact this⟩
     have HRb : Box (∀ x, Below x1.heap.size x1 x -> x.rangeAt b (o + i * 40) AC) := ⟨fun x hx => by rw [<- HAC.out]; exact HAc.out.1 x (HBW.out x hx)⟩
     refine begin_keep (S := fun x => x.rangeAt b (o + i * 40) AC) (by kernel_rfl) (fun wd hwd => ?_)
     have hB : Below wr.heap.size wr wd := by rw [hwd]; exact (Below.refl _ _).drew
     clear hwd
     have hS := HRb.out wd (below_to HL.out.sc.bel hB)
     have hM : wd.rangeAt Bp 0 PC := by rw [<- HPC.out]; exact range_row (HL.out.below hB).p
     refine take_x (i := 0) (v := ?_) rfl ?_ hS ?_
     rotate_left
     ·rintro w' -; go_simp <;> with_reducible rfl
     try simp only [Act.put, pC, pD, pE, pF, pG]
     refine take_x (i := 1) (v := ?_) rfl ?_ hS ?_
     rotate_left
     ·rintro w' -; go_simp <;> with_reducible rfl
     try simp only [Act.put, pC, pD, pE, pF, pG, pH]
     refine take_x (i := 3) (v := ?_) rfl ?_ hS ?_
     rotate_left
     ·rintro w' -; go_simp <;> with_reducible rfl
     try simp only [Act.put, pC, pD, pE, pF, pG, pH]
     refine take_x (i := 4) (v := ?_) rfl ?_ hS ?_
     rotate_left
     ·rintro w' -; go_simp <;> with_reducible rfl
     try simp only [Act.put, pC, pD, pE, pF, pG, pH]
     refine take_x (i := 5) (v := .pointer (some ⟨b, o + i * 40, none⟩)) rfl (fun w' hLat => exec_idxT 27 53 Tryd.underlying27 40 infoAc _ _ rfl b o N cap i rfl rfl HI.out.1) hS ?_
     try simp only [Act.put, pC, pD, pE, pF, pG, pH]
     refine take_x (i := 6) (v := .agg AC.toArray) rfl (fun w' hLat => exec_load_mid 53 _ (.tmp 113) rfl Tryd.underlying53 rfl b (o + i * 40) rfl AC HIP.out.2.2 (hLat)) hS ?_
     try simp only [Act.put, pC, pD, pE, pF, pG, pH]
     refine take_late 7 (fun x => x.rangeAt Bp 0 PC) (i := 2) (v := .agg PC.toArray) rfl (by kernel_rfl) (by kernel_rfl) (by kernel_rfl) (fun _ _ _ h => h) (by rfl) (by decide) (by kernel_rfl) (by kernel_rfl) (fun w' _ hLat => exec_load_mid 49 _ (.tmp 26) rfl Tryd.underlying49 rfl Bp 0 rfl PC HIP.out.1 (hLat)) hS hM ?_
     try simp only [Act.put, pC, pD, pE, pF, pG, pH]
     refine late_one (i := 7) (by kernel_rfl) ?_
     refine keep_step rfl (by rfl) ?_
     go_simp
     refine Calls.mono (HST.out _ hB) ?_
     rintro e z8 ⟨V3, j3, d3, r3, s3, rfl, q1, q2, q3, q4, q5, q6⟩
     have hS := HRb.out z8 q1.bel
     have hp8 : z8.heap[Bp]? = some (.cells PC.toArray 49 (0, 0)) := by
      have := (HL.out.below hB).p
      rw [HPC.out] at this
      exact q6.2 _ _ _ _ this (by unfold Disk.Own4; decide) (by decide)
     have H8s : Box (Sc x1 z8 J D j3 d3 /\ d3.n = n /\ Disk.Rv z8 (.agg V3.toArray) r3 /\ Disk.J (8 * (i + 1)) d3 r3 /\ OkS s3 /\ z8.heap[Bp]? = some (.cells PC.toArray 49 (0, 0)) /\ x1.heap.size <= Bp) := ⟨q1, q2.trans HL.out.dn, q3, J_le q4 (by omega), q5, hp8, HL.out.lo⟩
     clear q1 q2 q3 q4 q5 q6 hp8 hB hM
     refine ⟨hS, ?_⟩
     try simp only [Act.put, pC, pD, pE, pF, pG, pH]
     refine late_of _ _ _ _ (by kernel_rfl) ?_
     obtain ⟨PD, HPD⟩ : ∃ L, Box (pqs V3 (rqj j3) (scs s3) (scs s3) = L) := ⟨_, ⟨rfl⟩⟩
     rw [HPD.out]
     have HID : Box (PD.length = 144 /\ (Tryd.prog.info? 49).map (·.size) = some PD.toArray.size /\ PD.toArray.all (·.oneCell') = true) := ⟨by rw [<- HPD.out, len_pqs (rv_len H8s.out.2.2.1) (len_rqj H8s.out.1.ok) (len_scs H8s.out.2.2.2.2.1) (len_scs H8s.out.2.2.2.2.1)], by rw [<- HPD.out, List.size_toArray, len_pqs (rv_len H8s.out.2.2.1) (len_rqj H8s.out.1.ok) (len_scs H8s.out.2.2.2.2.1) (len_scs H8s.out.2.2.2.2.1)]; exact infoP, by rw [<- HPD.out]; exact pqs_all _ _ (rv_all H8s.out.2.2.1) (all_rq _ _ _ _ _ _)⟩
     refine take_x (i := 8) (v := ?_) rfl ?_ hS ?_
     rotate_left
     ·rintro w' -; go_simp <;> with_reducible rfl
     try simp only [Act.put, pC, pD, pE, pF, pG, pH]
     refine take_x (i := 9) (v := ?_) rfl ?_ hS ?_
     rotate_left
     ·rintro w' -; go_simp <;> with_reducible rfl
     try simp only [Act.put, pC, pD, pE, pF, pG, pH]
     refine take_x (i := 10) (v := ?_) rfl ?_ hS ?_
     rotate_left
     ·rintro w' -; go_simp <;> with_reducible rfl
     try simp only [Act.put, pC, pD, pE, pF, pG, pH]
     have hpt := put_row (C := PD) H8s.out.2.2.2.2.2.1 (by rw [HIP.out.2.1, HID.out.1])
     have hth : z8.there Bp 0 PD.toArray.size := there_row H8s.out.2.2.2.2.2.1 (by rw [List.size_toArray, List.size_toArray, HIP.out.2.1, HID.out.1]; omega)
     have H9 : Box (Lp x1 (z8.setCells Bp 0 PD) J D Bp (i + 1) n j3 d3 r3 V3 s3) := ⟨by
      obtain ⟨h1, h2, h3, h4, h5, h6, h7⟩ := H8s.out
      exact ⟨h1.but hpt.2 h6 (by unfold Disk.Own4; decide) (by decide) h7, by rw [HPD.out]; exact hpt.1, rv_but h3 hpt.2 h6 (by decide) (by decide), h4, h5, h2, h7⟩⟩
     have hS : (z8.setCells Bp 0 PD).rangeAt b (o + i * 40) AC := HRb.out _ H9.out.sc.bel
     refine one_keep (i := 11) (by kernel_rfl) ?_
     refine keep_step rfl (by rfl) ?_
     refine wp_store_mid 49 (.tmp 26) (.tmp 116) rfl Bp 0 PD.toArray rfl rfl hth HID.out.2.1 HID.out.2.2 ?_
     rw [List.toList_toArray]
     refine ⟨hS, ?_⟩
     try simp only [Act.put, pF, pG, pH]
     refine take_x (i := 12) (v := ?_) rfl ?_ hS ?_
     rotate_left
     ·rintro w' -; go_simp <;> with_reducible rfl
     try simp only [Act.put, pC, pD, pE, pF, pG, pH]
     refine wpAnyH_done (by kernel_rfl) ?_ _
     generalize z8.setCells Bp 0 PD = z9 at H9 ⊢
     clear hS hth hpt H8s HST HRb HAc HL HPC HIP HID HPD HAC
     obtain ⟨SQ, HSQ⟩ : ∃ A, Box (sa j3.st = A) := ⟨_, ⟨rfl⟩⟩
     have HSt : Box (Calls Tryd.prog 11 #[.pointer (some ⟨J, 0, none⟩)] z9 fun e w' => e = .returned (.tuple #[.agg SQ, .int .u64 j3.nx]) /\ Below z9.heap.size z9 w') := ⟨by
      have := state_any H9.out.sc.row H9.out.sc.ok
      rw [HSQ.out] at this
      exact this⟩
     have HOq : Box (OkS j3.st) := ⟨H9.out.sc.ok.st⟩
     have HIS : Box ((Tryd.prog.info? 26).map (·.size) = some SQ.size /\ (sa zs).size = SQ.size /\ SQ.all (·.oneCell') = true /\ (Tryd.prog.info? 26).map (·.size) = some (scs j3.st).length /\ (scs j3.st).toArray = SQ /\ (Tryd.prog.info? 42).map (·.size) = some (scs j3.st).length) := ⟨by rw [<- HSQ.out, size_sa HOq.out]; exact infoSt, by rw [<- HSQ.out, size_sa HOq.out, size_sa okS_zs], by rw [<- HSQ.out]; exact all_sa _, by rw [len_scs HOq.out]; exact infoSt, by rw [<- HSQ.out]; rfl, by rw [len_scs HOq.out]; exact infoS13⟩
     go_upto_region 21 with (first
      | (go_at_call 11; refine HSt.out.mono ?_; rintro e za ⟨rfl, hb⟩; have Ba : Box (Below z9.heap.size z9 za) := ⟨hb⟩; clear hb)
      | (refine atAlloc _ ?_; refine wpList_run rfl _ _ (exec_alloc 26 rfl _ zeroSt) ?_)
      | (refine atStore _ ?_; refine wpList_newRow za (sa zs) SQ HIS.out.1 HIS.out.2.1 HIS.out.2.2.1 rfl _ _ rfl rfl rfl rfl ?_; intro zb h5 hb5; have Hb : Box (zb.heap[za.heap.size]? = some (.cells SQ 26 (0, 0)) /\ Below za.heap.size za zb) := ⟨h5, hb5⟩; clear h5 hb5))
     obtain ⟨Bq, hBq⟩ : ∃ B, za.heap.size = B := ⟨_, rfl⟩
     (try simp only [hBq])
     have HL9 : Box (Lp x1 zb J D Bp (i + 1) n j3 d3 r3 V3 s3 /\ zb.heap[Bq]? = some (.cells SQ 26 (0, 0))) := ⟨H9.out.below (below_to Ba.out Hb.out.2), by rw [<- hBq]; exact Hb.out.1⟩
     clear H9 Ba Hb HSt hBq
     obtain ⟨JC, HJC⟩ : ∃ L, Box (rqj j3 = L) := ⟨_, ⟨rfl⟩⟩
     obtain ⟨EJ, HEJ⟩ : ∃ A, Box (sa (ety j3) = A) := ⟨_, ⟨rfl⟩⟩
     obtain ⟨rm, hrm⟩ : ∃ x, j3.size - j3.st.count = x := ⟨_, rfl⟩
     obtain ⟨sz, hsz⟩ : ∃ x, j3.size = x := ⟨_, rfl⟩
     obtain ⟨ct, hct⟩ : ∃ x, j3.st.count = x := ⟨_, rfl⟩
     obtain ⟨nq, hnq⟩ : ∃ x, j3.nx = x := ⟨_, rfl⟩
     have hcl := HL9.out.1.sc.ok.cl
     have hhi := HL9.out.1.sc.ok.hi
     have ew : IntKind.u64.wrap ((sz : Int) - (ct : Int)) = (rm : Int) := by rw [IntKind.wrap_u64]; omega
     have HOe : Box (OkS (ety j3)) := ⟨okS_ety j3 HL9.out.1.sc.ok⟩
     have HIj : Box ((Tryd.prog.info? 44).map (·.size) = some JC.length /\ (Tryd.prog.info? 36).map (·.size) = some V3.length) := ⟨by rw [<- HJC.out, len_rqj HL9.out.1.sc.ok]; exact infoRj, by rw [rv_len HL9.out.1.rv]; exact Disk.infoD⟩
     have HBx : Box (∀ x, Below zb.heap.size zb x -> x.rangeAt Bq 0 (scs j3.st) /\ x.rangeAt Bp 0 V3 /\ x.rangeAt Bp 6 JC /\ x.rangeAt Bp 40 (scs j3.st) /\ x.cell? ⟨Bp, 39, none⟩ = some (.int .u64 (sz : Int)) /\ x.cell? ⟨Bp, 41, none⟩ = some (.int .u64 (ct : Int)) /\ x.cell? ⟨Bp, 74, none⟩ = some (.int .u64 nq)) := ⟨fun x hx => by
      have h := (HL9.out.1.below hx).cells
      rw [HJC.out, hsz, hct, hnq] at h
      exact ⟨range_row (by rw [HIS.out.2.2.2.2.1]; exact (hx.block _ (Array.getElem?_eq_some_iff.1 HL9.out.2).1).trans HL9.out.2), h⟩⟩
     have HSO : Box (∀ x, Calls Tryd.prog 9 #[.agg SQ] x fun e x' => e = .returned (.agg SQ) /\ Below x.heap.size x x') := ⟨fun x => by
      have := stateOf_any j3.st HOq.out x
      rw [HSQ.out] at this
      exact this⟩
     have HSE : Box (∀ x, Calls Tryd.prog 9 #[.agg EJ] x fun e x' => e = .returned (.agg EJ) /\ Below x.heap.size x x') := ⟨fun x => by
      have := stateOf_any (ety j3) HOe.out x
      rw [HEJ.out] at this
      exact this⟩
     have HRo : Box (∀ x, Below zb.heap.size zb x -> Calls Tryd.prog 12 #[.pointer (some ⟨J, 0, none⟩)] x fun e w' => e = .returned (.int .u64 (rm : Int)) /\ Below x.heap.size x w') := ⟨fun x hx => by
      have h := HL9.out.1.below hx
      have := room_any (jrd_of h.sc.row h.sc.ok.key h.sc.ok.st) h.sc.ok
      rw [hrm] at this
      exact this.mono fun e w' ⟨h1, m, h2⟩ => ⟨h1, by rw [h2]; exact below_drewN (Below.refl _ _) m⟩⟩
     have HEm : Box (∀ x, Below zb.heap.size zb x -> Calls Tryd.prog 13 #[.pointer (some ⟨J, 0, none⟩)] x fun e w' => e = .returned (.agg EJ) /\ Below x.heap.size x w') := ⟨fun x hx => by
      have h := HL9.out.1.below hx
      have := empty_any h.sc.row h.sc.ok
      rw [HEJ.out] at this
      exact this⟩
     have HRe : Box (∀ x, Calls Tryd.prog 14 #[.agg JC.toArray] x fun e w' => e = .returned (.agg EJ) /\ Below x.heap.size x w') := ⟨fun x => by
      have := rempty_any j3 HL9.out.1.sc.ok x
      rw [HEJ.out] at this
      rw [<- HJC.out]
      exact this⟩
     have HSd : Box (∀ x, Below zb.heap.size zb x -> Calls Tryd.prog 15 #[.pointer (some ⟨D, 0, none⟩), .agg V3.toArray] x fun e w' => e = .returned (.bool true) /\ Below x.heap.size x w') := ⟨fun x hx => by
      have h := HL9.out.1.below hx
      exact Disk.sameDisk_any x1 x D (8 * (i + 1)) d3 r3 _ h.sc.cm h.rv h.hj (by have := HI.out.2; omega)⟩
     clear hrm hsz hct hcl hhi
     (try simp only [hnq])
     clear hnq
     refine begin_keep (S := fun x => Below zb.heap.size zb x) (by kernel_rfl) (fun wd hwd => ?_)
     have hS : Below zb.heap.size zb wd := by rw [hwd]; exact (Below.refl _ _).drew
     clear hwd
     refine take_x (i := 0) (v := ?_) rfl ?_ hS ?_
     rotate_left
     ·rintro w' -; go_simp <;> with_reducible rfl
     try simp only [Act.put, pC, pD, pE, pF, pG]
     refine take_x (i := 1) (v := ?_) rfl ?_ hS ?_
     rotate_left
     ·rintro w' -; go_simp <;> with_reducible rfl
     try simp only [Act.put, pC, pD, pE, pF, pG, pH]
     refine take_x (i := 2) (v := ?_) rfl ?_ hS ?_
     rotate_left
     ·rintro w' -; go_simp <;> with_reducible rfl
     try simp only [Act.put, pC, pD, pE, pF, pG, pH]
     refine take_x (i := 3) (v := .agg SQ) rfl (fun w' hLat => (by rw [<- HIS.out.2.2.2.2.1]; exact exec_load_mid 26 _ (.tmp 29) rfl Tryd.underlying26 rfl Bq 0 rfl (scs j3.st) HIS.out.2.2.2.1 ((HBx.out w' hLat).1))) hS ?_
     try simp only [Act.put, pC, pD, pE, pF, pG, pH]
     refine take_x (i := 5) (v := ?_) rfl ?_ hS ?_
     rotate_left
     ·rintro w' -; go_simp <;> with_reducible rfl
     try simp only [Act.put, pC, pD, pE, pF, pG, pH]
     refine take_x (i := 6) (v := ?_) rfl ?_ hS ?_
     rotate_left
     ·rintro w' -; go_simp <;> with_reducible rfl
     try simp only [Act.put, pC, pD, pE, pF, pG, pH]
     refine take_x (i := 7) (v := .agg SQ) rfl (fun w' hLat => (by rw [<- HIS.out.2.2.2.2.1]; exact exec_load_mid 42 _ (.tmp 129) rfl Tryd.underlying42 rfl Bp 40 rfl (scs j3.st) HIS.out.2.2.2.2.2 ((HBx.out w' hLat).2.2.2.1))) hS ?_
     try simp only [Act.put, pC, pD, pE, pF, pG, pH]
     refine one_keep (i := 4) (by kernel_rfl) ?_
     refine keep_step rfl (by rfl) ?_
     go_simp
     refine Calls.mono (HSO.out _) ?_
     rintro e y1 ⟨rfl, hb⟩
     have hS := below_to hS hb
     clear hb
     refine ⟨hS, ?_⟩
     try simp only [Act.put, pC, pD, pE, pF, pG, pH]
     refine take_x (i := 8) (v := .bool false) rfl (fun w' hLat => exec_neS13 (.tmp 127) (.tmp 130) _ rfl j3.st j3.st HOq.out HOq.out false (by simp [eqS]) (by rw [HSQ.out]; rfl) (by rw [HSQ.out]; rfl)) hS ?_
     try simp only [Act.put, pC, pD, pE, pF, pG, pH]
     refine take_x (i := 9) (v := ?_) rfl ?_ hS ?_
     rotate_left
     ·rintro w' -; go_simp <;> with_reducible rfl
     try simp only [Act.put, pC, pD, pE, pF, pG, pH]
     refine take_x (i := 10) (v := ?_) rfl ?_ hS ?_
     rotate_left
     ·rintro w' -; go_simp <;> with_reducible rfl
     try simp only [Act.put, pC, pD, pE, pF, pG, pH]
     refine take_x (i := 11) (v := ?_) rfl ?_ hS ?_
     rotate_left
     ·rintro w' -; go_simp <;> with_reducible rfl
     try simp only [Act.put, pC, pD, pE, pF, pG, pH]
     refine take_x (i := 12) (v := ?_) rfl ?_ hS ?_
     rotate_left
     ·rintro w' -; go_simp <;> with_reducible rfl
     try simp only [Act.put, pC, pD, pE, pF, pG, pH]
     refine take_x (i := 13) (v := ?_) rfl ?_ hS ?_
     rotate_left
     ·rintro w' -; go_simp <;> with_reducible rfl
     try simp only [Act.put, pC, pD, pE, pF, pG, pH]
     refine take_x (i := 14) (v := .int .u64 nq) rfl (fun w' hLat => exec_load1 24 _ (.tmp 136) rfl Tryd.underlying24 rfl ⟨Bp, 74, none⟩ rfl _ (HBx.out w' hLat).2.2.2.2.2.2) hS ?_
     try simp only [Act.put, pC, pD, pE, pF, pG, pH]
     refine take_x (i := 15) (v := .bool false) rfl (fun w' hLat => by clear hLat; go_simp <;> simp) hS ?_
     try simp only [Act.put, pC, pD, pE, pF, pG, pH]
     refine take_x (i := 16) (v := ?_) rfl ?_ hS ?_
     rotate_left
     ·rintro w' -; go_simp <;> with_reducible rfl
     try simp only [Act.put, pC, pD, pE, pF, pG, pH]
     refine take_x (i := 17) (v := ?_) rfl ?_ hS ?_
     rotate_left
     ·rintro w' -; go_simp <;> with_reducible rfl
     try simp only [Act.put, pC, pD, pE, pF, pG, pH]
     refine take_x (i := 18) (v := ?_) rfl ?_ hS ?_
     rotate_left
     ·rintro w' -; go_simp <;> with_reducible rfl
     try simp only [Act.put, pC, pD, pE, pF, pG, pH]
     refine take_x (i := 20) (v := ?_) rfl ?_ hS ?_
     rotate_left
     ·rintro w' -; go_simp <;> with_reducible rfl
     try simp only [Act.put, pC, pD, pE, pF, pG, pH]
     refine take_x (i := 21) (v := ?_) rfl ?_ hS ?_
     rotate_left
     ·rintro w' -; go_simp <;> with_reducible rfl
     try simp only [Act.put, pC, pD, pE, pF, pG, pH]
     refine take_x (i := 22) (v := .int .u64 (sz : Int)) rfl (fun w' hLat => exec_load1 24 _ (.tmp 144) rfl Tryd.underlying24 rfl ⟨Bp, 39, none⟩ rfl _ (HBx.out w' hLat).2.2.2.2.1) hS ?_
     try simp only [Act.put, pC, pD, pE, pF, pG, pH]
     refine take_x (i := 23) (v := ?_) rfl ?_ hS ?_
     rotate_left
     ·rintro w' -; go_simp <;> with_reducible rfl
     try simp only [Act.put, pC, pD, pE, pF, pG, pH]
     refine take_x (i := 24) (v := ?_) rfl ?_ hS ?_
     rotate_left
     ·rintro w' -; go_simp <;> with_reducible rfl
     try simp only [Act.put, pC, pD, pE, pF, pG, pH]
     refine take_x (i := 25) (v := ?_) rfl ?_ hS ?_
     rotate_left
     ·rintro w' -; go_simp <;> with_reducible rfl
     try simp only [Act.put, pC, pD, pE, pF, pG, pH]
     refine take_x (i := 26) (v := .int .u64 (ct : Int)) rfl (fun w' hLat => exec_load1 24 _ (.tmp 148) rfl Tryd.underlying24 rfl ⟨Bp, 41, none⟩ rfl _ (HBx.out w' hLat).2.2.2.2.2.1) hS ?_
     try simp only [Act.put, pC, pD, pE, pF, pG, pH]
     refine take_x (i := 27) (v := ?_) rfl ?_ hS ?_
     rotate_left
     ·rintro w' -; go_simp <;> with_reducible rfl
     try simp only [Act.put, pC, pD, pE, pF, pG, pH]
     refine one_keep (i := 19) (by kernel_rfl) ?_
     refine keep_step rfl (by rfl) ?_
     go_simp
     refine Calls.mono (HRo.out _ hS) ?_
     rintro e y1 ⟨rfl, hb⟩
     have hS := below_to hS hb
     clear hb
     refine ⟨hS, ?_⟩
     try simp only [Act.put, pC, pD, pE, pF, pG, pH]
     refine take_x (i := 28) (v := .bool false) rfl (fun w' hLat => by clear hLat; go_simp <;> simp) hS ?_
     try simp only [Act.put, pC, pD, pE, pF, pG, pH]
     refine take_x (i := 29) (v := ?_) rfl ?_ hS ?_
     rotate_left
     ·rintro w' -; go_simp <;> with_reducible rfl
     try simp only [Act.put, pC, pD, pE, pF, pG, pH]
     refine take_x (i := 30) (v := ?_) rfl ?_ hS ?_
     rotate_left
     ·rintro w' -; go_simp <;> with_reducible rfl
     try simp only [Act.put, pC, pD, pE, pF, pG, pH]
     refine take_x (i := 31) (v := ?_) rfl ?_ hS ?_
     rotate_left
     ·rintro w' -; go_simp <;> with_reducible rfl
     try simp only [Act.put, pC, pD, pE, pF, pG, pH]
     refine take_x (i := 34) (v := ?_) rfl ?_ hS ?_
     rotate_left
     ·rintro w' -; go_simp <;> with_reducible rfl
     try simp only [Act.put, pC, pD, pE, pF, pG, pH]
     refine take_x (i := 35) (v := .agg JC.toArray) rfl (fun w' hLat => exec_load_mid 44 _ (.tmp 157) rfl Tryd.underlying44 rfl Bp 6 rfl JC HIj.out.1 ((HBx.out w' hLat).2.2.1)) hS ?_
     try simp only [Act.put, pC, pD, pE, pF, pG, pH]
     refine one_keep (i := 32) (by kernel_rfl) ?_
     refine keep_step rfl (by rfl) ?_
     go_simp
     refine Calls.mono (HEm.out _ hS) ?_
     rintro e y1 ⟨rfl, hb⟩
     have hS := below_to hS hb
     clear hb
     refine ⟨hS, ?_⟩
     try simp only [Act.put, pC, pD, pE, pF, pG, pH]
     refine one_keep (i := 33) (by kernel_rfl) ?_
     refine keep_step rfl (by rfl) ?_
     go_simp
     refine Calls.mono (HSE.out _) ?_
     rintro e y1 ⟨rfl, hb⟩
     have hS := below_to hS hb
     clear hb
     refine ⟨hS, ?_⟩
     try simp only [Act.put, pC, pD, pE, pF, pG, pH]
     refine one_keep (i := 36) (by kernel_rfl) ?_
     refine keep_step rfl (by rfl) ?_
     go_simp
     refine Calls.mono (HRe.out _) ?_
     rintro e y1 ⟨rfl, hb⟩
     have hS := below_to hS hb
     clear hb
     refine ⟨hS, ?_⟩
     try simp only [Act.put, pC, pD, pE, pF, pG, pH]
     refine take_x (i := 37) (v := .bool false) rfl (fun w' hLat => exec_neS13 (.tmp 156) (.tmp 159) _ rfl (ety j3) (ety j3) HOe.out HOe.out false (by simp [eqS]) (by rw [HEJ.out]; rfl) (by rw [HEJ.out]; rfl)) hS ?_
     try simp only [Act.put, pC, pD, pE, pF, pG, pH]
     refine take_x (i := 38) (v := ?_) rfl ?_ hS ?_
     rotate_left
     ·rintro w' -; go_simp <;> with_reducible rfl
     try simp only [Act.put, pC, pD, pE, pF, pG, pH]
     refine take_x (i := 39) (v := ?_) rfl ?_ hS ?_
     rotate_left
     ·rintro w' -; go_simp <;> with_reducible rfl
     try simp only [Act.put, pC, pD, pE, pF, pG, pH]
     refine take_x (i := 40) (v := ?_) rfl ?_ hS ?_
     rotate_left
     ·rintro w' -; go_simp <;> with_reducible rfl
     try simp only [Act.put, pC, pD, pE, pF, pG, pH]
     refine take_x (i := 41) (v := ?_) rfl ?_ hS ?_
     rotate_left
     ·rintro w' -; go_simp <;> with_reducible rfl
     try simp only [Act.put, pC, pD, pE, pF, pG, pH]
     refine take_x (i := 42) (v := .agg V3.toArray) rfl (fun w' hLat => exec_load_mid 36 _ (.tmp 164) rfl Tryd.underlying36 rfl Bp 0 rfl V3 HIj.out.2 ((HBx.out w' hLat).2.1)) hS ?_
     try simp only [Act.put, pC, pD, pE, pF, pG, pH]
     refine one_keep (i := 43) (by kernel_rfl) ?_
     refine keep_step rfl (by rfl) ?_
     go_simp
     refine Calls.mono (HSd.out _ hS) ?_
     rintro e y9 ⟨rfl, hb⟩
     have hS := below_to hS hb
     clear hb
     refine ⟨hS, ?_⟩
     try simp only [Act.put, pC, pD, pE, pF, pG, pH]
     refine take_x (i := 44) (v := ?_) rfl ?_ hS ?_
     rotate_left
     ·rintro w' -; go_simp <;> with_reducible rfl
     try simp only [Act.put, pC, pD, pE, pF, pG, pH]
     refine take_x (i := 45) (v := ?_) rfl ?_ hS ?_
     rotate_left
     ·rintro w' -; go_simp <;> with_reducible rfl
     try simp only [Act.put, pC, pD, pE, pF, pG, pH]
     refine wpAnyH_done (by kernel_rfl) ?_ _
     have HL9 : Box (Lp x1 y9 J D Bp (i + 1) n j3 d3 r3 V3 s3) := ⟨HL9.out.1.below hS⟩
     clear hS HBx HSO HSE HRo HEm HRe HSd ew
     have ei : IntKind.i64.wrap ((i : Int) + 1) = (i : Int) + 1 := by rw [IntKind.wrap_i64]; have := HI.out.2; omega
     go_wp2
     go_roundw
     case rel => exact ⟨i + 1, j3, d3, r3, V3, s3, by have := HI.out.2; omega, by have := HI.out.1; omega, by go_num, HL9⟩
     case measure => have := HI.out.2; simp [intOf]; omega⟩
 have HM2a : Box (∀ (Bw : Nat) (y : World), Below x5.heap.size x5 y -> Nb y Bw ZJ 44 -> x5.heap.size <= Bw -> G 2 #[true, true, true, true, true, true, true, true, true, true, true, true, true, false, false] { tmps := ((((((L0.set 67 (Value.agg SA)).set 70 (Value.tuple #[Value.agg RQ.toArray, Value.int IntKind.i64 0])).set 61 (Value.tuple #[Value.agg RQ.toArray, Value.int IntKind.i64 0])).set 71 (Value.agg RQ.toArray)).set 72 (Value.int IntKind.i64 0)).set 24 (Value.pointer (some { block := Bw, off := 0 }))).toArray, defers := [] } y) := ⟨by
  intro Bw y hS nb gb
  rw [hG, hA0]
  simp only [List.set_cons_zero, List.set_cons_succ]
  refine one_keep (i := 13) (by kernel_rfl) (keep_step rfl (by rfl) ?_)
  have hp : (y.setCells Bw 0 RQ).heap[Bw]? = some (.cells RQ.toArray 44 (0, 0)) /\ But Bw y (y.setCells Bw 0 RQ) := put_row (Z := ZJ.toList) (by rw [Array.toArray_toList]; exact nb) (by rw [Array.length_toList, HZJ.out.2, HJ0.out.2.1])
  refine wp_store_mid 44 (.tmp 24) (.tmp 71) rfl Bw 0 RQ.toArray rfl rfl (there_row nb (by rw [HZJ.out.2, List.size_toArray, HJ0.out.2.1]; omega)) (by rw [List.size_toArray, HJ0.out.2.1]; exact infoRj) HJ0.out.2.2 ?_
  rw [List.toList_toArray]
  have hS2 : Below x5.heap.size x5 (y.setCells Bw 0 RQ) := below_but hS hp.2 gb hS.size
  refine ⟨hS2, ?_⟩
  try simp only [Act.put, pF, pG, pH]
  refine take_x (i := 14) (v := ?_) rfl ?_ hS2 ?_
  rotate_left
  ·rintro w' -; go_simp <;> with_reducible rfl
  try simp only [Act.put, pC, pD, pE, pF, pG, pH]
  refine wpAnyH_done (by kernel_rfl) ?_ _
  show K9 _ _
  exact act_to3 (K := K9) (by rw [hA0]; kernel_rfl) (HR9.out Bw _ hS2 hp.1 gb)⟩
 have HM2 : Box (∀ (y : World), Below x5.heap.size x5 y -> G 3 #[true, true, true, true, true, true, true, true, true, true, true, true, false, false, false] { tmps := (((((L0.set 67 (Value.agg SA)).set 70 (Value.tuple #[Value.agg RQ.toArray, Value.int IntKind.i64 0])).set 61 (Value.tuple #[Value.agg RQ.toArray, Value.int IntKind.i64 0])).set 71 (Value.agg RQ.toArray)).set 72 (Value.int IntKind.i64 0)).toArray, defers := [] } y) := ⟨by
  intro y hS
  rw [hG, hA0]
  simp only [List.set_cons_zero, List.set_cons_succ]
  refine one_keep (i := 12) (by kernel_rfl) ?_
  refine keep_step rfl (by rfl) (al_arm 44 rfl _ HZJ.out.1 hS fun Bw z nb gb hb hS => ?_)
  try simp only [Act.put, pC, pD, pE, pF, pG, pH]
  exact dag_to3 hG (by kernel_rfl) (by rw [hA0]; kernel_rfl) (HM2a.out Bw _ hS nb gb)⟩
 have HM1a : Box (∀ (Bw : Nat) (y : World), Below x5.heap.size x5 y -> Nb y Bw ZJ 44 -> x5.heap.size <= Bw -> G 6 #[true, true, true, true, true, true, true, true, false, false, false, false, true, false, false] { tmps := ((L0.set 67 (Value.agg SA)).set 24 (Value.pointer (some { block := Bw, off := 0 }))).toArray, defers := [] } y) := ⟨by
  intro Bw y hS nb gb
  rw [hG, hA0]
  simp only [List.set_cons_zero, List.set_cons_succ]
  refine one_keep (i := 8) (by kernel_rfl) ?_
  refine keep_step rfl (by rfl) ?_
  go_simp
  refine Calls.mono (HRN.out _) ?_
  rintro e z ⟨rfl, hb⟩
  have hS := below_to hS hb
  have nb := nb.below hb
  clear hb
  refine ⟨hS, ?_⟩
  try simp only [Act.put, pC, pD, pE, pF, pG, pH]
  refine take_x (i := 9) (v := ?_) rfl ?_ hS ?_
  rotate_left
  ·rintro w' -; go_simp <;> with_reducible rfl
  try simp only [Act.put, pC, pD, pE, pF, pG, pH]
  refine take_x (i := 10) (v := ?_) rfl ?_ hS ?_
  rotate_left
  ·rintro w' -; go_simp <;> with_reducible rfl
  try simp only [Act.put, pC, pD, pE, pF, pG, pH]
  refine take_x (i := 11) (v := ?_) rfl ?_ hS ?_
  rotate_left
  ·rintro w' -; go_simp <;> with_reducible rfl
  try simp only [Act.put, pC, pD, pE, pF, pG, pH]
  exact dag_to3 hG (by kernel_rfl) (by rw [hA0]; kernel_rfl) (HM2a.out Bw _ hS nb gb)⟩
 have HM1 : Box (∀ (y : World), Below x5.heap.size x5 y -> G 7 #[true, true, true, true, true, true, true, true, false, false, false, false, false, false, false] { tmps := (L0.set 67 (Value.agg SA)).toArray, defers := [] } y) := ⟨by
  intro y hS
  rw [hG, hA0]
  simp only [List.set_cons_zero, List.set_cons_succ]
  refine two_keep (i := 8) (j := 12) (by kernel_rfl) ?_ ?_
  ·as_aux_lemma =>
    refine keep_step rfl (by rfl) ?_
    go_simp
    refine Calls.mono (HRN.out _) ?_
    rintro e z ⟨rfl, hb⟩
    have hS := below_to hS hb
    clear hb
    refine ⟨hS, ?_⟩
    try simp only [Act.put, pC, pD, pE, pF, pG, pH]
    refine take_x (i := 9) (v := ?_) rfl ?_ hS ?_
    rotate_left
    ·rintro w' -; go_simp <;> with_reducible rfl
    try simp only [Act.put, pC, pD, pE, pF, pG, pH]
    refine take_x (i := 10) (v := ?_) rfl ?_ hS ?_
    rotate_left
    ·rintro w' -; go_simp <;> with_reducible rfl
    try simp only [Act.put, pC, pD, pE, pF, pG, pH]
    refine take_x (i := 11) (v := ?_) rfl ?_ hS ?_
    rotate_left
    ·rintro w' -; go_simp <;> with_reducible rfl
    try simp only [Act.put, pC, pD, pE, pF, pG, pH]
    exact dag_to3 hG (by kernel_rfl) (by rw [hA0]; kernel_rfl) (HM2.out _ hS)
  ·as_aux_lemma =>
    refine keep_step rfl (by rfl) (al_arm 44 rfl _ HZJ.out.1 hS fun Bw z nb gb hb hS => ?_)
    try simp only [Act.put, pC, pD, pE, pF, pG, pH]
    exact dag_to3 hG (by kernel_rfl) (by rw [hA0]; kernel_rfl) (HM1a.out Bw _ hS nb gb)⟩
 have HM0a : Box (∀ (Bw : Nat) (y : World), Below x5.heap.size x5 y -> Nb y Bw ZJ 44 -> x5.heap.size <= Bw -> G 7 #[true, true, true, true, true, false, true, true, false, false, false, false, true, false, false] { tmps := (L0.set 24 (Value.pointer (some { block := Bw, off := 0 }))).toArray, defers := [] } y) := ⟨by
  intro Bw y hS nb gb
  rw [hG, hA0]
  simp only [List.set_cons_zero, List.set_cons_succ]
  refine one_keep (i := 5) (by kernel_rfl) ?_
  refine keep_step rfl (by rfl) ?_
  go_simp
  refine Calls.mono (HSO.out _) ?_
  rintro e z ⟨rfl, hb⟩
  have hS := below_to hS hb
  have nb := nb.below hb
  clear hb
  refine ⟨hS, ?_⟩
  try simp only [Act.put, pC, pD, pE, pF, pG, pH]
  exact dag_to3 hG (by kernel_rfl) (by rw [hA0]; kernel_rfl) (HM1a.out Bw _ hS nb gb)⟩
 rw [hG, hA0]
 refine two_keep (i := 5) (j := 12) (by kernel_rfl) ?_ ?_
 ·as_aux_lemma =>
   refine keep_step rfl (by rfl) ?_
   go_simp
   refine Calls.mono (HSO.out _) ?_
   rintro e z ⟨rfl, hb⟩
   have hS := below_to hS hb
   clear hb
   refine ⟨hS, ?_⟩
   try simp only [Act.put, pC, pD, pE, pF, pG, pH]
   exact dag_to3 hG (by kernel_rfl) (by rw [hA0]; kernel_rfl) (HM1.out _ hS)
 ·as_aux_lemma =>
   refine keep_step rfl (by rfl) (al_arm 44 rfl _ HZJ.out.1 hS fun Bw z nb gb hb hS => ?_)
   try simp only [Act.put, pC, pD, pE, pF, pG, pH]
   exact dag_to3 hG (by kernel_rfl) (by rw [hA0]; kernel_rfl) (HM0a.out Bw _ hS nb gb)
end Go.Proofs.YthfobaeafapbnaaDoor
