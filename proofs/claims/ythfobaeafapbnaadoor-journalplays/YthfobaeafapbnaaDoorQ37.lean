/-
 The reference's Append of any change, over a disk that may tell an error in its midst.
-/
import Derived.Test.YthfobaeafapbnaaDoorQ01
import Derived.Test.YthfobaeafapbnaaDoorQ36
import Derived.Test.YthfobaeafapbnaaDoorQ31
set_option linter.unusedVariables false
set_option maxRecDepth 100000
namespace Go.Proofs.YthfobaeafapbnaaDoor
open Go.RowKit Plain
attribute [local go_sem] Oper.semAt_some
set_option maxRecDepth 20000 in
set_option maxHeartbeats 2000000 in
theorem rof_bad (a : Option Addr) (cap : Nat) (P : List (Int × List Int)) (w : World) (h : Tb w a 2 ic P) (hl : P.length <= 1000) (h0 : 0 < P.length) (hall : ∃ x ∈ P, x.2.length ≠ 160) :
  Calls Tryd.prog 43 #[.slice a P.length cap] w fun e w' => e = .returned (.tuple #[.slice none 0 0, .int .i64 1]) /\ Below w.heap.size w w' := by
 obtain ⟨b, o, rfl, hbl, hr⟩ := h h0
 obtain ⟨n, hn⟩ : ∃ n, P.length = n := ⟨_, rfl⟩
 rw [hn] at hl h0 ⊢
 have HN : Box (P.length = n /\ ∃ x ∈ P, x.2.length ≠ 160) := ⟨hn, hall⟩
 have hz : ((n : Int) == 0) = false := by simp; omega
 have HR : Box (∀ x, Below w.heap.size w x -> ∀ k (hk : k < P.length), x.rangeAt b (o + k * 2) (ic P[k])) := ⟨fun x hx k hk => range_below hx (hr k hk) hbl⟩
 clear h hr hall
 go_enter Tryd.func43, Tryd.ntmps43
 go_wp2
 go_loopw [4, 5] (fun v i wr => ∃ k : Nat, k <= n /\ i = .int .i64 (k : Int) /\ Box (RoK w wr P k v /\ ∀ i (hi : i < P.length), i < k -> P[i].2.length = 160)) (fun _ i _ => n - (intOf i).toNat)
 case atStart => exact ⟨0, Nat.zero_le _, rfl, ⟨⟨World.ownsRow_nil _ _ _ _, Below.refl _ _⟩, fun i hi h => by omega⟩⟩
 case round =>
  obtain ⟨k, hk, rfl, HK⟩ := hrel
  by_cases hlt : k < n
  ·by_cases hgood : (P[k]'(by have := HN.out.1; omega)).2.length = 160
   rotate_left
   ·have hlt1 : decide ((k : Int) < (n : Int)) = true := by simp; omega
    have hkP : k < P.length := by have := HN.out.1; omega
    have hrk := HR.out wr HK.out.1.bel k hkP
    obtain ⟨⟨blk, L⟩, hpp⟩ : ∃ x, P[k] = x := ⟨_, rfl⟩
    rw [hpp] at hrk hgood
    simp only at hgood
    obtain ⟨s, hs⟩ : ∃ s, strOfNums L = s := ⟨_, rfl⟩
    have hsz : ¬ s.size = 160 := by rw [<- hs, str_size]; exact hgood
    have hsz2 : ((s.size : Int) != 160) = true := by simp; omega
    have hc1 : wr.cell? ⟨b, o + k * 2 + 1, none⟩ = some (.string s) := by rw [<- hs]; exact hrk 1 _ rfl
    have HLT : Box (k < n) := ⟨hlt⟩
    clear hrk hgood hpp hs hkP
    go_wp2_with (refine atIdx 83 ?_; refine wpList_run rfl _ _ (exec_idxT 83 114 Tryd.underlying83 2 infoI _ _ rfl b o n cap k rfl rfl HLT.out) ?_)
    go_ret2
    exact ⟨rfl, HK.out.1.bel⟩
   have HGD : Box (∀ i (hi : i < P.length), i < k + 1 -> P[i].2.length = 160) := ⟨fun i hi h => by
    by_cases e : i = k
    ·subst e; exact hgood
    ·exact HK.out.2 i hi (by omega)⟩
   have hlt1 : decide ((k : Int) < (n : Int)) = true := by simp; omega
   have hkP : k < P.length := by have := HN.out.1; omega
   have hrk := HR.out wr HK.out.1.bel k hkP
   have hle := hgood
   have hof : (ofP P)[k]'(by rw [len_ofP]; exact hkP) = (P[k], decide (k + 1 = n)) := by simp [ofP, HN.out.1]
   obtain ⟨⟨blk, L⟩, hpp⟩ : ∃ x, P[k] = x := ⟨_, rfl⟩
   rw [hpp] at hrk hle hof
   obtain ⟨s, hs⟩ : ∃ s, strOfNums L = s := ⟨_, rfl⟩
   have hsz : s.size = 160 := by rw [<- hs, str_size]; exact hle
   have HRg : Box (wr.rangeAt b (o + k * 2) [.int .u64 blk, .string s]) := ⟨by rw [<- hs]; exact hrk⟩
   have hc1 : wr.cell? ⟨b, o + k * 2 + 1, none⟩ = some (.string s) := HRg.out 1 _ rfl
   obtain ⟨bb, hbb⟩ : ∃ bb, decide (k + 1 = n) = bb := ⟨_, rfl⟩
   have hb2 : (((k : Int) + 1) == (n : Int)) = bb := by rw [<- hbb, Bool.eq_iff_iff]; simp; omega
   have HST : Box (∀ w' v', w'.ownsRow w.heap.size 116 3 v' (k + 1) ((((ofP P).take k).map rrc).flatten ++ [.int .u64 blk, .string s, .bool bb]) -> wr.grownBy w' u4.ownBlock -> RoK w w' P (k + 1) v') := ⟨fun w' v' h1 h2 => by
    have hk2 : k < (ofP P).length := by rw [len_ofP]; exact hkP
    refine ⟨?_, HK.out.1.bel.grown h2 HK.out.1.bel.size (fun j hj => (own_blk HK.out.1.row j hj).1)⟩
    rw [List.take_succ_eq_append_getElem hk2, hof, hbb]
    simp only [List.map_append, List.map_cons, List.map_nil, List.flatten_append, List.flatten_cons, List.flatten_nil, List.append_nil]
    have e : rrc ((blk, L), bb) = [.int .u64 blk, .string s, .bool bb] := by rw [<- hs]; rfl
    rw [e]
    exact h1⟩
   have HLT : Box (k < n) := ⟨hlt⟩
   have HOW : Box (w.heap.size <= wr.heap.size /\ k <= 1000000) := ⟨HK.out.1.bel.size, by omega⟩
   have hw4 : IntKind.i64.wrap ((k : Int) + 1) = ((k : Int) + 1) := by rw [IntKind.wrap_i64]; omega
   clear hrk hle hof hpp hs hbb hkP hgood
   go_wp2_with (first
    | (refine atIdx 83 ?_; refine wpList_run rfl _ _ (exec_idxT 83 114 Tryd.underlying83 2 infoI _ _ rfl b o n cap k rfl rfl HLT.out) ?_)
    | (refine atLoad 114 ?_; refine wpList_ldMid rfl 114 _ _ rfl Tryd.underlying114 rfl b (o + k * 2) rfl [.int .u64 blk, .string s] infoI HRg.out ?_)
    | (refine atBuild 116 ?_; refine wpList_run rfl _ _ (exec_built 116 [(0, .tmp 26), (1, .tmp 31)] rfl [(0, .agg #[.int .u64 blk, .string s]), (1, .bool bb)] rfl _ (built_Rr _ _ _)) ?_)
    | (at_builtin; refine wpList_appR 108 116 Tryd.underlying108 3 32 _ infRr rfl (by decide) rfl (.tmp 22) (.tmp 33) rfl w.heap.size k u4 (((ofP P).take k).map rrc).flatten [.int .u64 blk, .string s, .bool bb] wr rfl rfl rfl HK.out.1.row rfl (by simp [Value.oneCell']) HOW.out.2 (by decide) (by decide) HOW.out.1 ?_; intro v3 x3 hown hgr; have H3 : Box (RoK w x3 P (k + 1) v3) := ⟨HST.out x3 v3 hown hgr⟩; clear hown hgr))
   go_roundw
   case rel => exact ⟨k + 1, HLT.out, by go_num, ⟨H3.out, HGD.out⟩⟩
   case measure => simp [intOf]; have := HLT.out; omega
  ·exfalso
   obtain ⟨m, hm, hne⟩ := HN.out.2
   obtain ⟨i, hi, rfl⟩ := List.getElem_of_mem hm
   exact hne (HK.out.2 i hi (by have := HN.out.1; omega))
theorem dwr_er (d : Disk.Dk) (p : Nat) (T : List Int) : (dwr d p T).2 = 0 ∨ (dwr d p T).2 = 13 := by
 unfold dwr
 split
 ·exact .inr rfl
 ·split
  ·exact .inr rfl
  ·exact .inl rfl
theorem J_le {a b : Nat} {d : Disk.Dk} {r : Disk.Rd} (hJ : Disk.J a d r) (h : a <= b) : Disk.J b d r := ⟨hJ.n, hJ.pl, hJ.way, hJ.down, hJ.st, hJ.no, hJ.lo, hJ.ops, by have := hJ.l1; omega, by have := hJ.l2; omega⟩
def goM (j : Jt) (d : Disk.Dk) (P : List (Int × List Int)) : Ast :=
 if (apL j (d, j.nx, 0, j.st) (ofP P)).2.2.1 ≠ 0 then ((apL j (d, j.nx, 0, j.st) (ofP P)).1, (apL j (d, j.nx, 0, j.st) (ofP P)).2.1, (apL j (d, j.nx, 0, j.st) (ofP P)).2.2.1, zs) else apL j (d, j.nx, 0, j.st) (ofP P)
def RaG (w : World) (j : Jt) (y : Ast) (k : Nat) (e : Ending) (w' : World) : Prop := ∃ v' r', e = .returned (.tuple #[v', .agg (rq j.key (j.first : Int) (j.size : Int) j.st y.2.1 j.lim).toArray, .agg (sa y.2.2.2), .int .i64 y.2.2.1]) /\ Disk.Rv w' v' r' /\ Disk.J k y.1 r' /\ Below w.heap.size w w'
structure Yf (j : Jt) (d : Disk.Dk) (n : Nat) (Y : Ast) : Prop where
 st : Y.2.2.2.start = j.st.start
 ct : Y.2.2.2.count = j.st.count + n
 nx : Y.2.1 = j.nx + (n : Int)
 tg : Y.2.2.2.tag.length = 32 /\ Byt Y.2.2.2.tag
 nn : Y.1.n = d.n
 er : Y.2.2.1 = 0
theorem yf_of {j : Jt} {d : Disk.Dk} {n : Nat} {Y : Ast} (h : Apk j d n Y) (he : Y.2.2.1 = 0) : Yf j d n Y := by
 obtain ⟨h1, h2, h3, h4, h5⟩ := h.st he
 exact ⟨h1, h2, h3, ⟨h4, h5⟩, h.gw.n, he⟩
structure Rg (w y : World) (S X : Nat) (j : Jt) (d : Disk.Dk) (P : List (Int × List Int)) (k i : Nat) (rs : Value) (V : List Value) (r : Disk.Rd) : Prop where
 ri : Ri w y S X j d P k i rs V r
 er : (apL j (d, j.nx, 0, j.st) ((ofP P).take i)).2.2.1 = 0
def hsnocG (j : Jt) (d : Disk.Dk) (P : List (Int × List Int)) (i p : Nat) (T : List Int) (nx0 : Int) (a0 c0 : Nat) (t0 : List Int) (Y : Ast) (x : Int) : Prop := apL j (d, j.nx, 0, j.st) ((ofP P).take (i + 1)) = ((dwr Y.1 p T).1, nx0 + 1, x, if x = 0 then ⟨a0, c0 + 1, lnk t0 (p : Int) T⟩ else Y.2.2.2)
theorem apL_cut (j : Jt) (x : Ast) (L : List ((Int × List Int) × Bool)) (i : Nat) (h : (apL j x (L.take i)).2.2.1 ≠ 0) : apL j x L = apL j x (L.take i) := by
 have e : apL j x L = apL j (apL j x (L.take i)) (L.drop i) := by
  unfold apL
  rw [<- List.foldl_append, List.take_append_drop]
 rw [e, apL_stop j _ h]
structure E19 (w y : World) (S X : Nat) (V J q u : List Value) (r : Disk.Rd) (rs : Value) (N : Nat) (R : List Value) : Prop where
 s0 : y.rangeAt S 0 V /\ y.rangeAt (S + 1) 0 J
 t2 : y.there (S + 2) 0 V.toArray.size
 t3 : (y.setCells (S + 2) 0 V).there (S + 3) 0 J.toArray.size
 t4 : ((y.setCells (S + 2) 0 V).setCells (S + 3) 0 J).there (S + 4) 0 u.toArray.size
 s1 : (y.setCells (S + 2) 0 V).rangeAt S 0 V /\ (y.setCells (S + 2) 0 V).rangeAt (S + 1) 0 J
 s2 : ((y.setCells (S + 2) 0 V).setCells (S + 3) 0 J).rangeAt S 0 V /\ ((y.setCells (S + 2) 0 V).setCells (S + 3) 0 J).rangeAt (S + 1) 0 J
 s3 : (((y.setCells (S + 2) 0 V).setCells (S + 3) 0 J).setCells (S + 4) 0 u).rangeAt S 0 V /\ (((y.setCells (S + 2) 0 V).setCells (S + 3) 0 J).setCells (S + 4) 0 u).rangeAt (S + 1) 0 J
 k3 : Rk w (((y.setCells (S + 2) 0 V).setCells (S + 3) 0 J).setCells (S + 4) 0 u) S X V J q r rs N R
 r2 : (((y.setCells (S + 2) 0 V).setCells (S + 3) 0 J).setCells (S + 4) 0 u).rangeAt (S + 2) 0 V
 r3 : (((y.setCells (S + 2) 0 V).setCells (S + 3) 0 J).setCells (S + 4) 0 u).rangeAt (S + 3) 0 J
 r4 : (((y.setCells (S + 2) 0 V).setCells (S + 3) 0 J).setCells (S + 4) 0 u).rangeAt (S + 4) 0 u
theorem end19 {w y : World} {S X N : Nat} {V J q u R : List Value} {r : Disk.Rd} {rs : Value} (h : Rk w y S X V J q r rs N R) (l1 : V.length = 6 /\ J.length = 70) (l3 : u.length = 34) : E19 w y S X V J q u r rs N R := by
 obtain ⟨Z2, h2, m2⟩ := h.rz.b2
 have p2 := put_row h2 (m2.trans l1.1.symm)
 have k1 := h.set2 p2.2 p2.1 l1.1
 obtain ⟨Z3, h3, m3⟩ := k1.rz.b3
 have p3 := put_row h3 (m3.trans l1.2.symm)
 have k2 := k1.set3 p3.2 p3.1 l1.2
 obtain ⟨Z4, h4, m4⟩ := k2.rz.b4
 have p4 := put_row h4 (m4.trans l3.symm)
 have k3 := k2.set4 p4.2 p4.1 l3
 refine ⟨⟨h.s22.1, h.s22.2.1⟩, there_put h2 (m2.trans l1.1.symm), there_put h3 (m3.trans l1.2.symm), there_put h4 (m4.trans l3.symm), ⟨k1.s22.1, k1.s22.2.1⟩, ⟨k2.s22.1, k2.s22.2.1⟩, ⟨k3.s22.1, k3.s22.2.1⟩, k3, ?_, ?_, range_row p4.1⟩
 ·exact but_range p4.2 (but_range p3.2 (range_row p2.1) (by omega)) (by omega)
 ·exact but_range p4.2 (range_row p3.1) (by omega)
set_option maxHeartbeats 4000000 in
theorem rappend_bad (d : Disk.Dk) (r : Disk.Rd) (j : Jt) (ok : j.Ok) (P : List (Int × List Int)) (h0 : 0 < P.length) (hP : P.length <= 1000) (hall : ∃ x ∈ P, x.2.length ≠ 160) (w : World) (v : Value) (hv : Disk.Rv w v r) (a : Option Addr) (cap : Nat) (hT : Tb w a 2 ic P) :
  Calls Tryd.prog 23 #[v, .agg (rq j.key (j.first : Int) (j.size : Int) j.st j.nx j.lim).toArray, .slice a P.length cap] w fun e w' => e = .returned (.tuple #[v, .agg (rq j.key (j.first : Int) (j.size : Int) j.st j.nx j.lim).toArray, .agg (sa zs), .int .i64 1]) /\ Below w.heap.size w w' := by
 obtain ⟨S, hS⟩ : ∃ S, w.heap.size = S := ⟨_, rfl⟩
 have HV : Box (Disk.Rv w v r) := ⟨hv⟩
 obtain ⟨vd, vw, vo, rfl, -, -, -⟩ := hv
 have HZ : Box _ := ⟨rz_new w (Disk.rv r.n vd vw r.left r.down vo) (rq j.key (j.first : Int) (j.size : Int) j.st j.nx j.lim) (Disk.rv 0 (.slice none 0 0) (.slice none 0 0) 0 false (.slice none 0 0)) (rq z32 0 0 zs 0 0) (scs zs) rfl (len_rq _ _ _ _ _ _ len_z32 okS_zs) (len_scs okS_zs)⟩
 obtain ⟨V0, hV0⟩ : ∃ V0, Disk.rv r.n vd vw r.left r.down vo = V0 := ⟨_, rfl⟩
 obtain ⟨J0, hJ0⟩ : ∃ J0, rq j.key (j.first : Int) (j.size : Int) j.st j.nx j.lim = J0 := ⟨_, rfl⟩
 obtain ⟨ZJ, hZJ⟩ : ∃ ZJ, (rq z32 0 0 zs 0 0).toArray = ZJ := ⟨_, rfl⟩
 obtain ⟨ZS, hZS⟩ : ∃ ZS, (scs zs).toArray = ZS := ⟨_, rfl⟩
 obtain ⟨ZD, hZD⟩ : ∃ ZD, (Disk.rv 0 (.slice none 0 0) (.slice none 0 0) 0 false (.slice none 0 0)).toArray = ZD := ⟨_, rfl⟩
 have zJ : (Tryd.prog.info? 44).map (·.zero) = some (some (.agg ZJ)) := by rw [<- hZJ]; exact zeroRj
 have zS : (Tryd.prog.info? 42).map (·.zero) = some (some (.agg ZS)) := by rw [<- hZS]; exact zeroS13
 have zD : (Tryd.prog.info? 36).map (·.zero) = some (some (.agg ZD)) := by rw [<- hZD]; exact Disk.zeroD
 rw [hV0, hJ0] at HZ ⊢
 rw [hZJ, hZS, hZD] at HZ
 rw [hV0] at HV
 rw [hS] at HZ
 have HE : Box (Disk.rv r.n vd vw r.left r.down vo = V0 /\ rq j.key (j.first : Int) (j.size : Int) j.st j.nx j.lim = J0) := ⟨hV0, hJ0⟩
 have HOf : Box (∀ y, Below w.heap.size w y -> Calls Tryd.prog 43 #[.slice a P.length cap] y fun e w' => e = .returned (.tuple #[.slice none 0 0, .int .i64 1]) /\ Below y.heap.size y w') := ⟨fun y hy => rof_bad a cap P y (hT.below hy) hP h0 hall⟩
 clear hT hV0 hJ0 hZJ hZS hZD
 go_enter Tryd.func23, Tryd.ntmps23
 go_upto_region 1 with (first
  | (refine atAlloc _ ?_; refine wpList_run rfl _ _ (exec_alloc 36 rfl _ zD) ?_)
  | (refine atAlloc _ ?_; refine wpList_run rfl _ _ (exec_alloc 44 rfl _ zJ) ?_)
  | (refine atAlloc _ ?_; refine wpList_run rfl _ _ (exec_alloc 42 rfl _ zS) ?_))
 (try simp only [Nat.add_assoc, Nat.reduceAdd])
 generalize ((((w.alloc (.cells V0.toArray 36)).alloc (.cells J0.toArray 44)).alloc (.cells ZD 36)).alloc (.cells ZJ 44)).alloc (.cells ZS 42) = w1 at HZ ⊢
 have HOf1 : Box _ := ⟨HOf.out w1 HZ.out.bl⟩
 clear HOf zJ zS zD
 go_upto_region 2 with (go_at_call 43; refine HOf1.out.mono ?_; rintro e w2 ⟨rfl, hb⟩; have H2 : Box (Rz w w2 S V0 J0) := ⟨HZ.out.below hb⟩; clear hb HOf1)
 have HR : Box (Rz w w2 S V0 J0 /\ (V0.length = 6 /\ J0.length = 70) /\ (scs zs).length = 34) := ⟨H2.out, ⟨by rw [<- HE.out.1]; rfl, by rw [<- HE.out.2]; exact len_rq _ _ _ _ _ _ ok.key ok.st⟩, len_scs okS_zs⟩
 have HI2 : Box ((Tryd.prog.info? 36).map (·.size) = some V0.length /\ (Tryd.prog.info? 44).map (·.size) = some J0.length /\ Tryd.prog.built 42 [] = some (scs zs).toArray) := ⟨by rw [HR.out.2.1.1]; exact Disk.infoD, by rw [HR.out.2.1.2]; exact infoRj, built_S13z⟩
 have HI3 : Box ((Tryd.prog.info? 36).map (·.size) = some V0.toArray.size /\ (Tryd.prog.info? 44).map (·.size) = some J0.toArray.size /\ (Tryd.prog.info? 42).map (·.size) = some (scs zs).toArray.size) := ⟨by rw [List.size_toArray]; exact HI2.out.1, by rw [List.size_toArray]; exact HI2.out.2.1, by rw [List.size_toArray, len_scs okS_zs]; exact infoS13⟩
 have one0 : V0.toArray.all (·.oneCell') = true := by
  obtain ⟨V', e, _, h⟩ := rv_form HV.out
  have e2 : V0 = V' := by simpa using e
  rw [e2]; exact h
 have HI4 : Box (V0.toArray.all (·.oneCell') = true /\ J0.toArray.all (·.oneCell') = true /\ (scs zs).toArray.all (·.oneCell') = true) := ⟨one0, by rw [<- HE.out.2]; exact all_rq _ _ _ _ _ _, all_sa zs⟩
 clear one0
 have HI5 : Box ((Tryd.prog.info? 42).map (·.size) = some (scs zs).length) := ⟨by rw [len_scs okS_zs]; exact infoS13⟩
 clear HE HV HZ H2 ok hS
 have HEN : Box _ := ⟨end3 HR.out.1 HR.out.2.1 HR.out.2.2⟩
 clear HR
 go_upto_region 3 with fail
 refine begin_keep (S := fun y => y.rangeAt S 0 V0 /\ y.rangeAt (S + 1) 0 J0) (by kernel_rfl) (fun wd hwd => ?_)
 have HE9 : Box _ := ⟨HEN.out wd (by rw [hwd]; exact (Below.refl _ _).drew)⟩
 have hS := HE9.out.s0
 clear hwd HEN
 refine take_x (i := 0) (v := .agg V0.toArray) rfl (fun w' hLat => exec_load_mid 36 _ (.tmp 3) rfl Tryd.underlying36 rfl _ _ rfl _ HI2.out.1 hLat.1) hS ?_
 try simp only [Act.put, pC, pD, pE, pF, pG]
 refine take_x (i := 1) (v := .agg J0.toArray) rfl (fun w' hLat => exec_load_mid 44 _ (.tmp 4) rfl Tryd.underlying44 rfl _ _ rfl _ HI2.out.2.1 hLat.2) hS ?_
 try simp only [Act.put, pC, pD, pE, pF, pG, pH]
 refine take_x (i := 2) (v := .agg (scs zs).toArray) rfl (fun w' hLat => exec_built 42 [] rfl [] rfl (scs zs).toArray HI2.out.2.2) hS ?_
 try simp only [Act.put, pC, pD, pE, pF, pG, pH]
 refine take_x (i := 3) (v := ?_) rfl ?_ hS ?_
 rotate_left
 ·rintro w' -; go_simp <;> with_reducible rfl
 try simp only [Act.put, pC, pD, pE, pF, pG, pH]
 refine one_keep (i := 4) (by kernel_rfl) ?_
 refine keep_step rfl (by rfl) ?_
 refine wp_store_mid 36 (.tmp 6) (.tmp 27) rfl (S + 2) 0 V0.toArray rfl rfl HE9.out.t2 HI3.out.1 HI4.out.1 ?_
 (try rw [List.toList_toArray])
 have hS := HE9.out.s1
 refine ⟨hS, ?_⟩
 try simp only [Act.put, pF, pG, pH]
 refine one_keep (i := 5) (by kernel_rfl) ?_
 refine keep_step rfl (by rfl) ?_
 refine wp_store_mid 44 (.tmp 7) (.tmp 28) rfl (S + 3) 0 J0.toArray rfl rfl HE9.out.t3 HI3.out.2.1 HI4.out.2.1 ?_
 (try rw [List.toList_toArray])
 have hS := HE9.out.s2
 refine ⟨hS, ?_⟩
 try simp only [Act.put, pF, pG, pH]
 refine one_keep (i := 6) (by kernel_rfl) ?_
 refine keep_step rfl (by rfl) ?_
 refine wp_store_mid 42 (.tmp 8) (.tmp 29) rfl (S + 4) 0 (scs zs).toArray rfl rfl HE9.out.t4 HI3.out.2.2 HI4.out.2.2 ?_
 (try rw [List.toList_toArray])
 have hS := HE9.out.s3
 refine ⟨hS, ?_⟩
 try simp only [Act.put, pF, pG, pH]
 refine take_x (i := 7) (v := ?_) rfl ?_ hS ?_
 rotate_left
 ·rintro w' -; go_simp <;> with_reducible rfl
 try simp only [Act.put, pC, pD, pE, pF, pG, pH]
 refine wpAnyH_done (by kernel_rfl) ?_ _
 clear hS
 go_wp2
 refine bodyPost_ret (results_rows3 (t := 6) (u := 7) (v := 8) (x := 9) rfl _ _ _ Tryd.underlying36 rfl Tryd.underlying44 rfl Tryd.underlying42 rfl _ _ (S + 2) (S + 3) (S + 4) V0 J0 (scs zs) HI2.out.1 HI2.out.2.1 HI5.out rfl rfl rfl HE9.out.r2 HE9.out.r3 HE9.out.r4) rfl ?_
 exact ⟨rfl, HE9.out.k3.bl⟩
set_option maxHeartbeats 4000000 in
theorem rappend_worn (d : Disk.Dk) (r : Disk.Rd) (j : Jt) (ok : j.Ok) (P : List (Int × List Int)) (h0 : 0 < P.length) (hP : P.length <= 1000) (hall : ∀ x ∈ P, x.2.length = 160) (h1 : j.st.count + P.length <= j.size) (h2 : j.lim < j.nx + (P.length : Int)) (w : World) (v : Value) (hv : Disk.Rv w v r) (a : Option Addr) (cap : Nat) (hT : Tb w a 2 ic P) :
  Calls Tryd.prog 23 #[v, .agg (rq j.key (j.first : Int) (j.size : Int) j.st j.nx j.lim).toArray, .slice a P.length cap] w fun e w' => e = .returned (.tuple #[v, .agg (rq j.key (j.first : Int) (j.size : Int) j.st j.nx j.lim).toArray, .agg (sa zs), .int .i64 15]) /\ Below w.heap.size w w' := by
 obtain ⟨S, hS⟩ : ∃ S, w.heap.size = S := ⟨_, rfl⟩
 obtain ⟨N, hN⟩ : ∃ N, P.length = N := ⟨_, rfl⟩
 have HV : Box (Disk.Rv w v r) := ⟨hv⟩
 obtain ⟨vd, vw, vo, rfl, -, -, -⟩ := hv
 have HZ : Box _ := ⟨rz_new w (Disk.rv r.n vd vw r.left r.down vo) (rq j.key (j.first : Int) (j.size : Int) j.st j.nx j.lim) (Disk.rv 0 (.slice none 0 0) (.slice none 0 0) 0 false (.slice none 0 0)) (rq z32 0 0 zs 0 0) (scs zs) rfl (len_rq _ _ _ _ _ _ len_z32 okS_zs) (len_scs okS_zs)⟩
 obtain ⟨V0, hV0⟩ : ∃ V0, Disk.rv r.n vd vw r.left r.down vo = V0 := ⟨_, rfl⟩
 obtain ⟨J0, hJ0⟩ : ∃ J0, rq j.key (j.first : Int) (j.size : Int) j.st j.nx j.lim = J0 := ⟨_, rfl⟩
 obtain ⟨ZJ, hZJ⟩ : ∃ ZJ, (rq z32 0 0 zs 0 0).toArray = ZJ := ⟨_, rfl⟩
 obtain ⟨ZS, hZS⟩ : ∃ ZS, (scs zs).toArray = ZS := ⟨_, rfl⟩
 obtain ⟨ZD, hZD⟩ : ∃ ZD, (Disk.rv 0 (.slice none 0 0) (.slice none 0 0) 0 false (.slice none 0 0)).toArray = ZD := ⟨_, rfl⟩
 have zJ : (Tryd.prog.info? 44).map (·.zero) = some (some (.agg ZJ)) := by rw [<- hZJ]; exact zeroRj
 have zS : (Tryd.prog.info? 42).map (·.zero) = some (some (.agg ZS)) := by rw [<- hZS]; exact zeroS13
 have zD : (Tryd.prog.info? 36).map (·.zero) = some (some (.agg ZD)) := by rw [<- hZD]; exact Disk.zeroD
 rw [hV0, hJ0] at HZ ⊢
 rw [hZJ, hZS, hZD] at HZ
 rw [hV0] at HV
 rw [hS] at HZ
 have HE : Box (Disk.rv r.n vd vw r.left r.down vo = V0 /\ rq j.key (j.first : Int) (j.size : Int) j.st j.nx j.lim = J0 /\ P.length = N) := ⟨hV0, hJ0, hN⟩
 have HOf : Box (∀ y, Below w.heap.size w y -> _) := ⟨fun y hy => rof_ok a cap P y (hT.below hy) hP h0 hall⟩
 rw [hN] at HOf ⊢
 clear hT hV0 hJ0 hZJ hZS hZD
 go_enter Tryd.func23, Tryd.ntmps23
 go_upto_region 1 with (first
  | (refine atAlloc _ ?_; refine wpList_run rfl _ _ (exec_alloc 36 rfl _ zD) ?_)
  | (refine atAlloc _ ?_; refine wpList_run rfl _ _ (exec_alloc 44 rfl _ zJ) ?_)
  | (refine atAlloc _ ?_; refine wpList_run rfl _ _ (exec_alloc 42 rfl _ zS) ?_))
 (try simp only [Nat.add_assoc, Nat.reduceAdd])
 generalize ((((w.alloc (.cells V0.toArray 36)).alloc (.cells J0.toArray 44)).alloc (.cells ZD 36)).alloc (.cells ZJ 44)).alloc (.cells ZS 42) = w1 at HZ ⊢
 have HOf1 : Box _ := ⟨HOf.out w1 HZ.out.bl⟩
 clear HOf zJ zS zD
 go_upto_region 4 with (go_at_call 43; refine HOf1.out.mono ?_; rintro e w2 ⟨rs, rfl, hro⟩; obtain ⟨ra, rc_, rfl⟩ := own_form2 hro.row; have H2 : Box (Rz w w2 S V0 J0 /\ w2.ownsRow w.heap.size 116 3 (.slice ra N rc_) N ((ofP P).map rrc).flatten) := ⟨HZ.out.below hro.bel, by have h3 := own_low2 hro.row HZ.out.bl.size; rw [<- HE.out.2.2, <- len_ofP P, List.take_of_length_le (Nat.le_refl _), len_ofP P, HE.out.2.2] at h3; exact h3⟩; clear hro HOf1)
 obtain ⟨q32, q33, q35, q68, q69⟩ := rq_at (f := (j.first : Int)) (n := (j.size : Int)) (x := j.nx) (y := j.lim) ok.key ok.st
 rw [HE.out.2.1] at q33 q35 q68 q69
 have d33 := cell_at H2.out.1.b1 q33
 have d35 := cell_at H2.out.1.b1 q35
 have d68 := cell_at H2.out.1.b1 q68
 have d69 := cell_at H2.out.1.b1 q69
 have okhi := ok.hi
 have okcl := ok.cl
 have oknx := ok.nx
 have oklim := ok.lim
 rw [hN] at h1 h2 hP h0
 have w1a : IntKind.u64.wrap ((j.size : Int) - (j.st.count : Int)) = (j.size : Int) - (j.st.count : Int) := by rw [IntKind.wrap_u64]; omega
 have g1 : decide ((j.size : Int) - (j.st.count : Int) < (N : Int)) = false := by simp; omega
 have hw3 : IntKind.u64.wrap (N : Int) = (N : Int) := by rw [IntKind.wrap_u64]; omega
 by_cases hnl : j.lim < j.nx
 ·have g2 : decide (j.lim < j.nx) = true := by simp; omega
  have HR : Box (Rz w w2 S V0 J0 /\ (V0.length = 6 /\ J0.length = 70) /\ (scs zs).length = 34) := ⟨H2.out.1, ⟨by rw [<- HE.out.1]; rfl, by rw [<- HE.out.2.1]; exact len_rq _ _ _ _ _ _ ok.key ok.st⟩, len_scs okS_zs⟩
  have HI2 : Box ((Tryd.prog.info? 36).map (·.size) = some V0.length /\ (Tryd.prog.info? 44).map (·.size) = some J0.length /\ Tryd.prog.built 42 [] = some (scs zs).toArray) := ⟨by rw [HR.out.2.1.1]; exact Disk.infoD, by rw [HR.out.2.1.2]; exact infoRj, built_S13z⟩
  have HI3 : Box ((Tryd.prog.info? 36).map (·.size) = some V0.toArray.size /\ (Tryd.prog.info? 44).map (·.size) = some J0.toArray.size /\ (Tryd.prog.info? 42).map (·.size) = some (scs zs).toArray.size) := ⟨by rw [List.size_toArray]; exact HI2.out.1, by rw [List.size_toArray]; exact HI2.out.2.1, by rw [List.size_toArray, len_scs okS_zs]; exact infoS13⟩
  have one0 : V0.toArray.all (·.oneCell') = true := by
   obtain ⟨V', e, _, h⟩ := rv_form HV.out
   have e2 : V0 = V' := by simpa using e
   rw [e2]; exact h
  have HI4 : Box (V0.toArray.all (·.oneCell') = true /\ J0.toArray.all (·.oneCell') = true /\ (scs zs).toArray.all (·.oneCell') = true) := ⟨one0, by rw [<- HE.out.2.1]; exact all_rq _ _ _ _ _ _, all_sa zs⟩
  clear one0
  have HI5 : Box ((Tryd.prog.info? 42).map (·.size) = some (scs zs).length) := ⟨by rw [len_scs okS_zs]; exact infoS13⟩
  clear HE HV HZ q32 hN hS hall
  have HEN : Box _ := ⟨end3 HR.out.1 HR.out.2.1 HR.out.2.2⟩
  clear HR
  go_upto_region 8 with fail
  refine begin_keep (S := fun y => y.rangeAt S 0 V0 /\ y.rangeAt (S + 1) 0 J0) (by kernel_rfl) (fun wd hwd => ?_)
  have HE9 : Box _ := ⟨HEN.out wd (by rw [hwd]; exact (Below.refl _ _).drew)⟩
  have hS := HE9.out.s0
  clear hwd HEN
  refine take_x (i := 0) (v := .agg V0.toArray) rfl (fun w' hLat => exec_load_mid 36 _ (.tmp 3) rfl Tryd.underlying36 rfl _ _ rfl _ HI2.out.1 hLat.1) hS ?_
  try simp only [Act.put, pC, pD, pE, pF, pG]
  refine take_x (i := 1) (v := .agg J0.toArray) rfl (fun w' hLat => exec_load_mid 44 _ (.tmp 4) rfl Tryd.underlying44 rfl _ _ rfl _ HI2.out.2.1 hLat.2) hS ?_
  try simp only [Act.put, pC, pD, pE, pF, pG, pH]
  refine take_x (i := 2) (v := .agg (scs zs).toArray) rfl (fun w' hLat => exec_built 42 [] rfl [] rfl (scs zs).toArray HI2.out.2.2) hS ?_
  try simp only [Act.put, pC, pD, pE, pF, pG, pH]
  refine one_keep (i := 3) (by kernel_rfl) ?_
  refine keep_step rfl (by rfl) ?_
  refine wp_store_mid 36 (.tmp 6) (.tmp 59) rfl (S + 2) 0 V0.toArray rfl rfl HE9.out.t2 HI3.out.1 HI4.out.1 ?_
  (try rw [List.toList_toArray])
  have hS := HE9.out.s1
  refine ⟨hS, ?_⟩
  try simp only [Act.put, pF, pG, pH]
  refine one_keep (i := 4) (by kernel_rfl) ?_
  refine keep_step rfl (by rfl) ?_
  refine wp_store_mid 44 (.tmp 7) (.tmp 60) rfl (S + 3) 0 J0.toArray rfl rfl HE9.out.t3 HI3.out.2.1 HI4.out.2.1 ?_
  (try rw [List.toList_toArray])
  have hS := HE9.out.s2
  refine ⟨hS, ?_⟩
  try simp only [Act.put, pF, pG, pH]
  refine one_keep (i := 5) (by kernel_rfl) ?_
  refine keep_step rfl (by rfl) ?_
  refine wp_store_mid 42 (.tmp 8) (.tmp 61) rfl (S + 4) 0 (scs zs).toArray rfl rfl HE9.out.t4 HI3.out.2.2 HI4.out.2.2 ?_
  (try rw [List.toList_toArray])
  have hS := HE9.out.s3
  refine ⟨hS, ?_⟩
  try simp only [Act.put, pF, pG, pH]
  refine take_x (i := 6) (v := ?_) rfl ?_ hS ?_
  rotate_left
  ·rintro w' -; go_simp <;> with_reducible rfl
  try simp only [Act.put, pC, pD, pE, pF, pG, pH]
  refine wpAnyH_done (by kernel_rfl) ?_ _
  clear hS
  go_wp2
  refine bodyPost_ret (results_rows3 (t := 6) (u := 7) (v := 8) (x := 9) rfl _ _ _ Tryd.underlying36 rfl Tryd.underlying44 rfl Tryd.underlying42 rfl _ _ (S + 2) (S + 3) (S + 4) V0 J0 (scs zs) HI2.out.1 HI2.out.2.1 HI5.out rfl rfl rfl HE9.out.r2 HE9.out.r3 HE9.out.r4) rfl ?_
  exact ⟨rfl, HE9.out.k3.bl⟩
 ·have g2 : decide (j.lim < j.nx) = false := by simp; omega
  have w1b : IntKind.u64.wrap (j.lim - j.nx) = j.lim - j.nx := by rw [IntKind.wrap_u64]; omega
  have g3 : decide (j.lim - j.nx < (N : Int)) = true := by simp; omega
  have HR : Box (Rz w w2 S V0 J0 /\ (V0.length = 6 /\ J0.length = 70) /\ (scs zs).length = 34) := ⟨H2.out.1, ⟨by rw [<- HE.out.1]; rfl, by rw [<- HE.out.2.1]; exact len_rq _ _ _ _ _ _ ok.key ok.st⟩, len_scs okS_zs⟩
  have HI2 : Box ((Tryd.prog.info? 36).map (·.size) = some V0.length /\ (Tryd.prog.info? 44).map (·.size) = some J0.length /\ Tryd.prog.built 42 [] = some (scs zs).toArray) := ⟨by rw [HR.out.2.1.1]; exact Disk.infoD, by rw [HR.out.2.1.2]; exact infoRj, built_S13z⟩
  have HI3 : Box ((Tryd.prog.info? 36).map (·.size) = some V0.toArray.size /\ (Tryd.prog.info? 44).map (·.size) = some J0.toArray.size /\ (Tryd.prog.info? 42).map (·.size) = some (scs zs).toArray.size) := ⟨by rw [List.size_toArray]; exact HI2.out.1, by rw [List.size_toArray]; exact HI2.out.2.1, by rw [List.size_toArray, len_scs okS_zs]; exact infoS13⟩
  have one0 : V0.toArray.all (·.oneCell') = true := by
   obtain ⟨V', e, _, h⟩ := rv_form HV.out
   have e2 : V0 = V' := by simpa using e
   rw [e2]; exact h
  have HI4 : Box (V0.toArray.all (·.oneCell') = true /\ J0.toArray.all (·.oneCell') = true /\ (scs zs).toArray.all (·.oneCell') = true) := ⟨one0, by rw [<- HE.out.2.1]; exact all_rq _ _ _ _ _ _, all_sa zs⟩
  clear one0
  have HI5 : Box ((Tryd.prog.info? 42).map (·.size) = some (scs zs).length) := ⟨by rw [len_scs okS_zs]; exact infoS13⟩
  clear HE HV HZ q32 hN hS hall
  have HEN : Box _ := ⟨end3 HR.out.1 HR.out.2.1 HR.out.2.2⟩
  clear HR
  go_upto_region 8 with fail
  refine begin_keep (S := fun y => y.rangeAt S 0 V0 /\ y.rangeAt (S + 1) 0 J0) (by kernel_rfl) (fun wd hwd => ?_)
  have HE9 : Box _ := ⟨HEN.out wd (by rw [hwd]; exact (Below.refl _ _).drew)⟩
  have hS := HE9.out.s0
  clear hwd HEN
  refine take_x (i := 0) (v := .agg V0.toArray) rfl (fun w' hLat => exec_load_mid 36 _ (.tmp 3) rfl Tryd.underlying36 rfl _ _ rfl _ HI2.out.1 hLat.1) hS ?_
  try simp only [Act.put, pC, pD, pE, pF, pG]
  refine take_x (i := 1) (v := .agg J0.toArray) rfl (fun w' hLat => exec_load_mid 44 _ (.tmp 4) rfl Tryd.underlying44 rfl _ _ rfl _ HI2.out.2.1 hLat.2) hS ?_
  try simp only [Act.put, pC, pD, pE, pF, pG, pH]
  refine take_x (i := 2) (v := .agg (scs zs).toArray) rfl (fun w' hLat => exec_built 42 [] rfl [] rfl (scs zs).toArray HI2.out.2.2) hS ?_
  try simp only [Act.put, pC, pD, pE, pF, pG, pH]
  refine one_keep (i := 3) (by kernel_rfl) ?_
  refine keep_step rfl (by rfl) ?_
  refine wp_store_mid 36 (.tmp 6) (.tmp 59) rfl (S + 2) 0 V0.toArray rfl rfl HE9.out.t2 HI3.out.1 HI4.out.1 ?_
  (try rw [List.toList_toArray])
  have hS := HE9.out.s1
  refine ⟨hS, ?_⟩
  try simp only [Act.put, pF, pG, pH]
  refine one_keep (i := 4) (by kernel_rfl) ?_
  refine keep_step rfl (by rfl) ?_
  refine wp_store_mid 44 (.tmp 7) (.tmp 60) rfl (S + 3) 0 J0.toArray rfl rfl HE9.out.t3 HI3.out.2.1 HI4.out.2.1 ?_
  (try rw [List.toList_toArray])
  have hS := HE9.out.s2
  refine ⟨hS, ?_⟩
  try simp only [Act.put, pF, pG, pH]
  refine one_keep (i := 5) (by kernel_rfl) ?_
  refine keep_step rfl (by rfl) ?_
  refine wp_store_mid 42 (.tmp 8) (.tmp 61) rfl (S + 4) 0 (scs zs).toArray rfl rfl HE9.out.t4 HI3.out.2.2 HI4.out.2.2 ?_
  (try rw [List.toList_toArray])
  have hS := HE9.out.s3
  refine ⟨hS, ?_⟩
  try simp only [Act.put, pF, pG, pH]
  refine take_x (i := 6) (v := ?_) rfl ?_ hS ?_
  rotate_left
  ·rintro w' -; go_simp <;> with_reducible rfl
  try simp only [Act.put, pC, pD, pE, pF, pG, pH]
  refine wpAnyH_done (by kernel_rfl) ?_ _
  clear hS
  go_wp2
  refine bodyPost_ret (results_rows3 (t := 6) (u := 7) (v := 8) (x := 9) rfl _ _ _ Tryd.underlying36 rfl Tryd.underlying44 rfl Tryd.underlying42 rfl _ _ (S + 2) (S + 3) (S + 4) V0 J0 (scs zs) HI2.out.1 HI2.out.2.1 HI5.out rfl rfl rfl HE9.out.r2 HE9.out.r3 HE9.out.r4) rfl ?_
  exact ⟨rfl, HE9.out.k3.bl⟩
set_option maxHeartbeats 8000000 in
theorem rappend_go (hSeal : SealOk) (k : Nat) (d : Disk.Dk) (r : Disk.Rd) (hJ : Disk.J k d r) (j : Jt) (ok : j.Ok) (hfit : j.first + j.size <= d.n) (P : List (Int × List Int)) (hk : k + P.length < 900000) (h0 : 0 < P.length) (hP : P.length <= 1000) (hall : ∀ x ∈ P, x.2.length = 160 /\ Byt x.2 /\ N64 x.1) (h1 : j.st.count + P.length <= j.size) (h2 : j.nx + (P.length : Int) <= j.lim)
  (w : World) (v : Value) (hv : Disk.Rv w v r) (a : Option Addr) (cap : Nat) (hT : Tb w a 2 ic P) :
  Calls Tryd.prog 23 #[v, .agg (rq j.key (j.first : Int) (j.size : Int) j.st j.nx j.lim).toArray, .slice a P.length cap] w fun e w' => RaG w j (goM j d P) (k + P.length) e w' := by
 obtain ⟨S, hS⟩ : ∃ S, w.heap.size = S := ⟨_, rfl⟩
 obtain ⟨N, hN⟩ : ∃ N, P.length = N := ⟨_, rfl⟩
 have HV : Box (Disk.Rv w v r) := ⟨hv⟩
 obtain ⟨vd, vw, vo, rfl, -, -, -⟩ := hv
 have HZ : Box _ := ⟨rz_new w (Disk.rv r.n vd vw r.left r.down vo) (rq j.key (j.first : Int) (j.size : Int) j.st j.nx j.lim) (Disk.rv 0 (.slice none 0 0) (.slice none 0 0) 0 false (.slice none 0 0)) (rq z32 0 0 zs 0 0) (scs zs) rfl (len_rq _ _ _ _ _ _ len_z32 okS_zs) (len_scs okS_zs)⟩
 obtain ⟨V0, hV0⟩ : ∃ V0, Disk.rv r.n vd vw r.left r.down vo = V0 := ⟨_, rfl⟩
 obtain ⟨J0, hJ0⟩ : ∃ J0, rq j.key (j.first : Int) (j.size : Int) j.st j.nx j.lim = J0 := ⟨_, rfl⟩
 obtain ⟨ZJ, hZJ⟩ : ∃ ZJ, (rq z32 0 0 zs 0 0).toArray = ZJ := ⟨_, rfl⟩
 obtain ⟨ZS, hZS⟩ : ∃ ZS, (scs zs).toArray = ZS := ⟨_, rfl⟩
 obtain ⟨ZD, hZD⟩ : ∃ ZD, (Disk.rv 0 (.slice none 0 0) (.slice none 0 0) 0 false (.slice none 0 0)).toArray = ZD := ⟨_, rfl⟩
 have zJ : (Tryd.prog.info? 44).map (·.zero) = some (some (.agg ZJ)) := by rw [<- hZJ]; exact zeroRj
 have zS : (Tryd.prog.info? 42).map (·.zero) = some (some (.agg ZS)) := by rw [<- hZS]; exact zeroS13
 have zD : (Tryd.prog.info? 36).map (·.zero) = some (some (.agg ZD)) := by rw [<- hZD]; exact Disk.zeroD
 rw [hV0, hJ0] at HZ ⊢
 rw [hZJ, hZS, hZD] at HZ
 rw [hV0] at HV
 rw [hS] at HZ
 have HE : Box (Disk.rv r.n vd vw r.left r.down vo = V0 /\ rq j.key (j.first : Int) (j.size : Int) j.st j.nx j.lim = J0 /\ P.length = N) := ⟨hV0, hJ0, hN⟩
 have HOf : Box (∀ y, Below w.heap.size w y -> _) := ⟨fun y hy => rof_ok a cap P y (hT.below hy) hP h0 (fun x hx => (hall x hx).1)⟩
 rw [hN] at HOf ⊢
 clear hT hV0 hJ0 hZJ hZS hZD
 go_enter Tryd.func23, Tryd.ntmps23
 go_upto_region 1 with (first
  | (refine atAlloc _ ?_; refine wpList_run rfl _ _ (exec_alloc 36 rfl _ zD) ?_)
  | (refine atAlloc _ ?_; refine wpList_run rfl _ _ (exec_alloc 44 rfl _ zJ) ?_)
  | (refine atAlloc _ ?_; refine wpList_run rfl _ _ (exec_alloc 42 rfl _ zS) ?_))
 (try simp only [Nat.add_assoc, Nat.reduceAdd])
 generalize ((((w.alloc (.cells V0.toArray 36)).alloc (.cells J0.toArray 44)).alloc (.cells ZD 36)).alloc (.cells ZJ 44)).alloc (.cells ZS 42) = w1 at HZ ⊢
 have HOf1 : Box _ := ⟨HOf.out w1 HZ.out.bl⟩
 clear HOf zJ zS zD
 go_upto_region 4 with (go_at_call 43; refine HOf1.out.mono ?_; rintro e w2 ⟨rs, rfl, hro⟩; obtain ⟨ra, rc_, rfl⟩ := own_form2 hro.row; have H2 : Box (Rz w w2 S V0 J0 /\ w2.ownsRow w.heap.size 116 3 (.slice ra N rc_) N ((ofP P).map rrc).flatten) := ⟨HZ.out.below hro.bel, by have h3 := own_low2 hro.row HZ.out.bl.size; rw [<- HE.out.2.2, <- len_ofP P, List.take_of_length_le (Nat.le_refl _), len_ofP P, HE.out.2.2] at h3; exact h3⟩; clear hro HOf1)
 obtain ⟨q32, q33, q35, q68, q69⟩ := rq_at (f := (j.first : Int)) (n := (j.size : Int)) (x := j.nx) (y := j.lim) ok.key ok.st
 rw [HE.out.2.1] at q32 q33 q35 q68 q69
 have d33 := cell_at H2.out.1.b1 q33
 have d35 := cell_at H2.out.1.b1 q35
 have d68 := cell_at H2.out.1.b1 q68
 have d69 := cell_at H2.out.1.b1 q69
 have okhi := ok.hi
 have oknx := ok.nx
 have oklim := ok.lim
 rw [hN] at h1 h2 hP h0 hk
 obtain ⟨g, rfl, -⟩ := rec_at H2.out.2 (by rw [len_ofP, hN]) 0 h0
 have w1a : IntKind.u64.wrap ((j.size : Int) - (j.st.count : Int)) = (j.size : Int) - (j.st.count : Int) := by rw [IntKind.wrap_u64]; omega
 have w1b : IntKind.u64.wrap (j.lim - j.nx) = j.lim - j.nx := by rw [IntKind.wrap_u64]; omega
 have g1 : decide ((j.size : Int) - (j.st.count : Int) < (N : Int)) = false := by simp; omega
 have g2 : decide (j.lim < j.nx) = false := by simp; omega
 have g3 : decide (j.lim - j.nx < (N : Int)) = false := by simp; omega
 have hS34 : Box (w2.rangeAt (S + 1) 34 (scs j.st)) := ⟨(rq_range (by rw [HE.out.2.1]; exact H2.out.1.b1) ok.key ok.st).2⟩
 obtain ⟨X, hX⟩ : ∃ X, w2.heap.size = X := ⟨_, rfl⟩
 have hNw := laid_newR w2 (scs zs) 42 (scs j.st) (by rw [len_scs okS_zs, len_scs ok.st])
 rw [hX] at hNw
 have HTx : Box ((w2.alloc (.cells (sa zs) 42)).there X 0 (sa j.st).size) := ⟨there_row (al_at hX) (by rw [size_sa ok.st, size_sa okS_zs]; omega)⟩
 have HN : Box (P.length = N) := ⟨hN⟩
 have HI0 : Box (∃ V r', Rg w ((w2.alloc (.cells (sa zs) 42)).setCells X 0 (scs j.st)) S X j d P k 0 (.slice (some ⟨g, 0, none⟩) N rc_) V r') := ⟨V0, r, by
  have hb : Below w2.heap.size w2 ((w2.alloc (.cells (sa zs) 42)).setCells X 0 (scs j.st)) := by rw [hX]; exact hNw.1
  have hz := H2.out.1.below hb
  refine ⟨⟨?_, hNw.2, ?_, (HV.out.below hz.bl'), ?_, ?_⟩, rfl⟩
  ·show Rz w _ S V0 (rq j.key (j.first : Int) (j.size : Int) j.st j.nx j.lim)
   rw [HE.out.2.1]
   exact hz
  ·rw [<- hX]; exact H2.out.1.lt
  ·exact hJ
  ·rw [HN.out]; exact own_same H2.out.2 (fun q hq => hb.block q (H2.out.2.lt q hq).2)⟩
 have h34 : (Tryd.prog.info? 42).map (·.size) = some (scs j.st).length := by rw [len_scs ok.st]; exact infoS13
 have h34b : (Tryd.prog.info? 42).map (·.size) = some (sa j.st).size := by rw [size_sa ok.st]; exact infoS13
 have hone : (sa j.st).all (·.oneCell') = true := all_sa j.st
 clear hNw
 go_upto_region 10 with (first
  | (refine atAlloc _ ?_; refine wpList_run rfl _ _ (exec_alloc 42 rfl _ zeroS13) ?_)
  | (refine atStore _ ?_; (try simp only [hX]); refine wpList_store_mid rfl 42 _ _ rfl X 0 (sa j.st) rfl rfl HTx.out h34b hone ?_)
  | (refine atLoad _ ?_; refine wpList_load_mid rfl 42 _ rfl (S + 1) 34 rfl (scs j.st) _ hS34.out Tryd.underlying42 rfl h34 ?_))
 (try simp only [hX])
 (try simp only [Act.put, List.setIfInBounds_toArray, List.set_cons_zero, List.set_cons_succ])
 rw [toList_sa]
 generalize (w2.alloc (.cells (sa zs) 42)).setCells X 0 (scs j.st) = w3 at HI0 ⊢
 clear hX HTx h34 h34b hone hS34 w1a w1b g1 g2 g3 d33 d35 d68 d69 q32 q33 q35 q68 q69 H2 HZ HV
 have HE2 : Box (rq j.key (j.first : Int) (j.size : Int) j.st j.nx j.lim = J0) := ⟨HE.out.2.1⟩
 have HC : Box (j.Ok /\ True /\ j.first + j.size <= d.n /\ k + N < 900000 /\ (∀ x ∈ P, x.2.length = 160 /\ Byt x.2 /\ N64 x.1) /\ j.st.count + N <= j.size /\ j.nx + (N : Int) <= j.lim /\ N <= 1000) := ⟨ok, trivial, hfit, hk, hall, h1, h2, hP⟩
 have HSl : Box SealOk := ⟨hSeal⟩
 clear HE ok hfit hk hall h1 h2 hJ hSeal okhi oknx oklim hN h0
 go_wp2
 go_loopw [14] (fun v wr => ∃ i : Nat, i <= N /\ v = .int .i64 i /\ Box (∃ V r', Rg w wr S X j d P k i (.slice (some ⟨g, 0, none⟩) N rc_) V r')) (fun v _ => N - (intOf v).toNat)
 case atStart => exact ⟨0, Nat.zero_le _, rfl, HI0⟩
 case round =>
  clear HI0
  obtain ⟨i, hi, rfl, HI⟩ := hrel
  by_cases hlt : i < N
  ·obtain ⟨V, r', hR0⟩ := HI.out
   have hR := hR0.ri
   have hEr := hR0.er
   clear HI hR0
   obtain ⟨wo, hwo⟩ : ∃ wo, wo = wr := ⟨_, rfl⟩
   rw [<- hwo] at hR ⊢
   clear hwo
   obtain ⟨ok, hup, hfit, hk, hall, h1, h2, hP1⟩ := HC.out
   have okhi := ok.hi
   have oklo := ok.lo
   have oknx := ok.nx
   have oklim := ok.lim
   have oksl := ok.sl
   have hPN := HN.out
   have hiP : i < (ofP P).length := by rw [len_ofP, hPN]; exact hlt
   have hY0 := apk_take j ok d (ofP P) i (by omega)
   have hsnoc : apL j (d, j.nx, 0, j.st) ((ofP P).take (i + 1)) = apS j (apL j (d, j.nx, 0, j.st) ((ofP P).take i)) (ofP P)[i] := by rw [<- List.take_append_getElem hiP, apL_snoc]
   obtain ⟨Y, hYe⟩ : ∃ Y, apL j (d, j.nx, 0, j.st) ((ofP P).take i) = Y := ⟨_, rfl⟩
   rw [hYe] at hY0 hEr hsnoc
   have hY := yf_of hY0 hEr
   obtain ⟨rc0, hrc0⟩ : ∃ rc0, (ofP P)[i] = rc0 := ⟨_, rfl⟩
   rw [hrc0] at hsnoc
   have hrok : rc0.1.2.length = 160 /\ Byt rc0.1.2 /\ N64 rc0.1.1 := by
    have hm : rc0.1 ∈ P := by
     have hiP2 : i < P.length := by omega
     have : rc0 = (P[i], decide (i + 1 = P.length)) := by rw [<- hrc0]; simp [ofP]
     rw [this]
     exact List.getElem_mem hiP2
    exact hall _ hm
   obtain ⟨a0, ha0⟩ : ∃ a0, Y.2.2.2.start = a0 := ⟨_, rfl⟩
   obtain ⟨c0, hc0⟩ : ∃ c0, Y.2.2.2.count = c0 := ⟨_, rfl⟩
   obtain ⟨t0, ht0⟩ : ∃ t0, Y.2.2.2.tag = t0 := ⟨_, rfl⟩
   obtain ⟨nx0, hnx0⟩ : ∃ nx0, Y.2.1 = nx0 := ⟨_, rfl⟩
   have ha1 := hY.st
   have hc1 := hY.ct
   have hn1 := hY.nx
   have ht1 := hY.tg
   rw [ha0] at ha1
   rw [hc0] at hc1
   rw [hnx0] at hn1
   rw [ht0] at ht1
   obtain ⟨p, hp⟩ : ∃ p, plc j (a0 + c0) = p := ⟨_, rfl⟩
   have hplt : p < j.first + j.size := by rw [<- hp]; exact plc_lt j _ oklo
   have hpe : j.first + (a0 + c0) % j.size = p := hp
   obtain ⟨T, hTe⟩ : ∃ T, slt j.key (p : Int) nx0 rc0 = T := ⟨_, rfl⟩
   have hTl : T.length = 192 /\ Byt T := by rw [<- hTe]; exact ⟨length_slt _ _ _ _, byt_slt _ _ _ _⟩
   obtain ⟨x, hx⟩ : ∃ x, (dwr Y.1 p T).2 = x := ⟨_, rfl⟩
   have hstep : apS j Y rc0 = ((dwr Y.1 p T).1, nx0 + 1, x, if x = 0 then ⟨a0, c0 + 1, lnk t0 (p : Int) T⟩ else Y.2.2.2) := by
    have eP : apP j Y = p := by rw [apP, ha0, hc0, hp]
    have eT : apT j Y rc0 = T := by rw [apT, eP, hnx0, hTe]
    unfold apS
    rw [if_neg (fun h => h hY.er), eP, eT, hx, hnx0]
    simp only [nxS, ha0, hc0, ht0]
   rw [hstep] at hsnoc
   have hrk : Rk w wo S X V (rq j.key (j.first : Int) (j.size : Int) j.st nx0 j.lim) (sq (a0 : Int) (c0 : Int) t0) r' (.slice (some ⟨g, 0, none⟩) N rc_) N ((ofP P).map rrc).flatten := by
    have k1 := hR.rz
    have k2 := hR.bx
    have k3 := hR.rr
    rw [hYe, hnx0] at k1
    rw [hYe, scs_sq, ha0, hc0, ht0] at k2
    rw [hPN] at k3
    exact ⟨k1, k2, hR.hx, hR.rv, k3⟩
   have hdj := hR.dj
   rw [hYe] at hdj
   have H1 : Box _ := ⟨hrk⟩
   obtain ⟨q32, q33, q35, q68, q69⟩ := rq_at (f := (j.first : Int)) (n := (j.size : Int)) (x := nx0) (y := j.lim) ok.key ok.st
   have d32 := cell_at hrk.rz.b1 q32
   have d33 := cell_at hrk.rz.b1 q33
   have x0 : wo.cell? ⟨X, 0, none⟩ = some (.int .u64 (a0 : Int)) := cell_at hrk.bx rfl
   have x1 : wo.cell? ⟨X, 1, none⟩ = some (.int .u64 (c0 : Int)) := cell_at hrk.bx rfl
   obtain ⟨m, hm⟩ : ∃ m, a0 + c0 = m := ⟨_, rfl⟩
   obtain ⟨u, hu⟩ : ∃ u, m % j.size = u := ⟨_, rfl⟩
   rw [hm, hu] at hpe
   have e1 : IntKind.u64.wrap ((a0 : Int) + (c0 : Int)) = (m : Int) := by rw [IntKind.wrap_u64]; omega
   have e0 : ¬ j.size = 0 := by omega
   have e2 : Int.tmod (m : Int) (j.size : Int) = (u : Int) := by rw [Int.tmod_eq_emod_of_nonneg (by omega), <- hu]; rfl
   have e3 : IntKind.i64.wrap (u : Int) = (u : Int) := by rw [IntKind.wrap_i64]; omega
   have e4 : IntKind.i64.wrap ((j.first : Int) + (u : Int)) = (p : Int) := by rw [IntKind.wrap_i64]; omega
   have e5 : IntKind.u32.wrap (p : Int) = (p : Int) := by rw [IntKind.wrap_u32]; omega
   have HQ : Box (Disk.J (k + i) Y.1 r' /\ hsnocG j d P i p T nx0 a0 c0 t0 Y x /\ rc0.1.2.length = 160 /\ Byt rc0.1.2 /\ N64 rc0.1.1 /\ slt j.key (p : Int) nx0 rc0 = T /\ T.length = 192 /\ Byt T /\ t0.length = 32 /\ Byt t0 /\ (dwr Y.1 p T).2 = x /\ p < Y.1.n) := ⟨hdj, hsnoc, hrok.1, hrok.2.1, hrok.2.2, hTe, hTl.1, hTl.2, ht1.1, ht1.2, hx, by rw [hY.nn]; omega⟩
   have HO : Box (j.Ok /\ (ofP P).length = N) := ⟨ok, by rw [len_ofP, hPN]⟩
   have HRc : Box ((ofP P)[i] = rc0) := ⟨hrc0⟩
   have hnb : 1 <= nx0 /\ nx0 < 9223372036854775807 := by omega
   have hcb : c0 < 10000 := by omega
   have hpb : p < 4096 := by omega
   clear hx hEr hY0 hR hrk hdj hsnoc hrok hTe hTl ht1 hY hYe hrc0 ha0 hc0 ht0 hnx0 ha1 hc1 hn1 hstep hall ok hup hfit hk h1 h2 hP1 hPN hp hpe hplt hm hu q32 q33 q35 q68 q69 okhi oklo oknx oklim oksl
   go_upto_region 13 with fail
   refine begin_keep (S := fun y => y.cell? ⟨S + 1, 32, none⟩ = some (.int .i64 (j.first : Int)) /\ y.cell? ⟨S + 1, 33, none⟩ = some (.int .u64 (j.size : Int)) /\ y.cell? ⟨X, 0, none⟩ = some (.int .u64 (a0 : Int)) /\ y.cell? ⟨X, 1, none⟩ = some (.int .u64 (c0 : Int))) (by kernel_rfl) (fun wd hwd => ?_)
   have H1w : Box (Rk w wd S X V (rq j.key (j.first : Int) (j.size : Int) j.st nx0 j.lim) (sq (a0 : Int) (c0 : Int) t0) r' (.slice (some ⟨g, 0, none⟩) N rc_) N ((ofP P).map rrc).flatten) := ⟨by rw [hwd]; exact H1.out.below ((Below.refl _ _).drew)⟩
   have hS : wd.cell? ⟨S + 1, 32, none⟩ = some (.int .i64 (j.first : Int)) /\ wd.cell? ⟨S + 1, 33, none⟩ = some (.int .u64 (j.size : Int)) /\ wd.cell? ⟨X, 0, none⟩ = some (.int .u64 (a0 : Int)) /\ wd.cell? ⟨X, 1, none⟩ = some (.int .u64 (c0 : Int)) := by rw [hwd]; exact ⟨d32, d33, x0, x1⟩
   clear hwd
   refine take_x (i := 0) (v := ?_) rfl ?_ hS ?_
   rotate_left
   ·rintro w' -; go_simp <;> with_reducible rfl
   try simp only [Act.put, pC, pD, pE, pF, pG]
   refine take_x (i := 1) (v := .int .i64 (j.first : Int)) rfl (fun w' hLat => exec_load1 3 _ (.tmp 70) rfl Tryd.underlying3 rfl _ rfl _ hLat.1) hS ?_
   try simp only [Act.put, pC, pD, pE, pF, pG, pH]
   refine take_x (i := 2) (v := ?_) rfl ?_ hS ?_
   rotate_left
   ·rintro w' -; go_simp <;> with_reducible rfl
   try simp only [Act.put, pC, pD, pE, pF, pG, pH]
   refine take_x (i := 3) (v := .int .u64 (a0 : Int)) rfl (fun w' hLat => exec_load1 24 _ (.tmp 72) rfl Tryd.underlying24 rfl _ rfl _ hLat.2.2.1) hS ?_
   try simp only [Act.put, pC, pD, pE, pF, pG, pH]
   refine take_x (i := 4) (v := ?_) rfl ?_ hS ?_
   rotate_left
   ·rintro w' -; go_simp <;> with_reducible rfl
   try simp only [Act.put, pC, pD, pE, pF, pG, pH]
   refine take_x (i := 5) (v := .int .u64 (c0 : Int)) rfl (fun w' hLat => exec_load1 24 _ (.tmp 74) rfl Tryd.underlying24 rfl _ rfl _ hLat.2.2.2) hS ?_
   try simp only [Act.put, pC, pD, pE, pF, pG, pH]
   refine take_x (i := 6) (v := ?_) rfl ?_ hS ?_
   rotate_left
   ·rintro w' -; go_simp <;> with_reducible rfl
   try simp only [Act.put, pC, pD, pE, pF, pG, pH]
   refine take_x (i := 7) (v := ?_) rfl ?_ hS ?_
   rotate_left
   ·rintro w' -; go_simp <;> with_reducible rfl
   try simp only [Act.put, pC, pD, pE, pF, pG, pH]
   refine take_x (i := 8) (v := .int .u64 (j.size : Int)) rfl (fun w' hLat => exec_load1 24 _ (.tmp 77) rfl Tryd.underlying24 rfl _ rfl _ hLat.2.1) hS ?_
   try simp only [Act.put, pC, pD, pE, pF, pG, pH]
   refine take_x (i := 9) (v := ?_) rfl ?_ hS ?_
   rotate_left
   ·rintro w' -; go_simp <;> with_reducible rfl
   try simp only [Act.put, pC, pD, pE, pF, pG, pH]
   refine take_x (i := 10) (v := ?_) rfl ?_ hS ?_
   rotate_left
   ·rintro w' -; go_simp <;> with_reducible rfl
   try simp only [Act.put, pC, pD, pE, pF, pG, pH]
   refine take_x (i := 11) (v := ?_) rfl ?_ hS ?_
   rotate_left
   ·rintro w' -; go_simp <;> with_reducible rfl
   try simp only [Act.put, pC, pD, pE, pF, pG, pH]
   refine take_x (i := 12) (v := ?_) rfl ?_ hS ?_
   rotate_left
   ·rintro w' -; go_simp <;> with_reducible rfl
   try simp only [Act.put, pC, pD, pE, pF, pG, pH]
   refine wpAnyH_done (by kernel_rfl) ?_ _
   clear d32 d33 x0 x1 e0 e1 e2 e3 e4 hS H1
   have H1 := H1w
   clear H1w
   go_upto_region 14 with fail
   obtain ⟨RC, hRC⟩ : ∃ RC, rrc rc0 = RC := ⟨_, rfl⟩
   obtain ⟨PB, hPB⟩ : ∃ PB, putP rc0 = PB := ⟨_, rfl⟩
   have HPt : Box (Calls Tryd.prog 44 #[.agg RC.toArray] wd fun e w' => e = .returned (.tuple #[.string (strOfNums PB), .int .i64 0]) /\ Below wd.heap.size wd w') := ⟨by rw [<- hRC, <- hPB]; exact rrput_ok rc0 HQ.out.2.2.1 HQ.out.2.2.2.2.1 wd⟩
   have HPB : Box (PB.length = 176 /\ Byt PB /\ Seal.sl j.key (p : Int) nx0 PB = T) := ⟨by rw [<- hPB]; exact ⟨len_putP _ HQ.out.2.2.1, byt_putP _ HQ.out.2.2.2.1, HQ.out.2.2.2.2.2.1⟩⟩
   have HRg : Box (wd.rangeAt g (i * 3) RC /\ (Tryd.prog.info? 116).map (·.size) = some RC.length /\ i < N) := ⟨by
    obtain ⟨g', e, hr⟩ := rec_at H1.out.rr HO.out.2 i hlt
    simp only [Option.some.injEq, Addr.mk.injEq, and_true] at e
    rw [e, <- hRC, <- HRc.out]
    exact hr, by rw [<- hRC]; exact infoRr, hlt⟩
   clear hRC hPB
   go_upto_region 15 with (first
    | (refine atIdx 108 ?_; refine wpList_run rfl _ _ (exec_idxT 108 116 Tryd.underlying108 3 infoRr _ _ rfl g 0 N rc_ i rfl rfl HRg.out.2.2) ?_; (try simp only [Nat.zero_add]))
    | (refine atLoad 116 ?_; refine wpList_ldMid rfl 116 _ _ rfl Tryd.underlying116 rfl g (i * 3) rfl RC HRg.out.2.1 HRg.out.1 ?_)
    | (go_at_call 44; refine HPt.out.mono ?_; rintro e w4 ⟨rfl, hb⟩; have H4 : Box (Rk w w4 S X V (rq j.key (j.first : Int) (j.size : Int) j.st nx0 j.lim) (sq (a0 : Int) (c0 : Int) t0) r' (.slice (some ⟨g, 0, none⟩) N rc_) N ((ofP P).map rrc).flatten) := ⟨H1.out.below hb⟩; clear hb))
   clear HPt HRg H1
   have HKy : Box (w4.rangeAt (S + 1) 0 (j.key.map (Value.int .u8)) /\ (Tryd.prog.info? 23).map (·.size) = some (j.key.map (Value.int .u8)).length /\ (j.key.map (Value.int .u8)).toArray = u8s j.key) := ⟨(rq_range H4.out.rz.b1 HO.out.1.key HO.out.1.st).1, by rw [List.length_map, HO.out.1.key]; exact infoSum, rfl⟩
   have d68 : w4.cell? ⟨S + 1, 68, none⟩ = some (.int .u64 nx0) := cell_at H4.out.rz.b1 (rq_at (f := (j.first : Int)) (n := (j.size : Int)) (x := nx0) (y := j.lim) HO.out.1.key HO.out.1.st).2.2.2.1
   have HSe : Box (Calls Tryd.prog 45 #[.agg (u8s j.key), .int .u32 (p : Int), .int .u64 nx0, .string (strOfNums PB)] w4 fun e w' => e = .returned (.tuple #[.string (strOfNums T), .int .i64 0]) /\ Below w4.heap.size w4 w') := ⟨by
    have := HSl.out j.key PB (p : Int) nx0 w4 HO.out.1.key HO.out.1.kb HPB.out.2.1 HPB.out.1 (by omega) (by omega)
    rw [HPB.out.2.2] at this
    exact this⟩
   go_upto_region 16 with (first
    | (refine atLoad 23 ?_; refine wpList_ldMid rfl 23 _ _ rfl Tryd.underlying23 rfl (S + 1) 0 rfl (j.key.map (Value.int .u8)) HKy.out.2.1 HKy.out.1 ?_; rw [HKy.out.2.2])
    | (go_at_call 45; refine HSe.out.mono ?_; rintro e w5 ⟨rfl, hb⟩; have H5 : Box (Rk w w5 S X V (rq j.key (j.first : Int) (j.size : Int) j.st nx0 j.lim) (sq (a0 : Int) (c0 : Int) t0) r' (.slice (some ⟨g, 0, none⟩) N rc_) N ((ofP P).map rrc).flatten) := ⟨H4.out.below hb⟩; clear hb))
   clear HKy d68 HSe H4
   have d68 : w5.cell? ⟨S + 1, 68, none⟩ = some (.int .u64 nx0) := cell_at H5.out.rz.b1 (rq_at (f := (j.first : Int)) (n := (j.size : Int)) (x := nx0) (y := j.lim) HO.out.1.key HO.out.1.st).2.2.2.1
   have f68 : w5.frozen? ⟨S + 1, 68, none⟩ = false := froz_at H5.out.rz.b1
   have e6 : IntKind.u64.wrap (nx0 + 1) = nx0 + 1 := by rw [IntKind.wrap_u64]; omega
   go_upto_region 17 with fail
   have H6 : Box (Rk w (w5.setCell ⟨S + 1, 68, none⟩ (.int .u64 (nx0 + 1))) S X V (rq j.key (j.first : Int) (j.size : Int) j.st (nx0 + 1) j.lim) (sq (a0 : Int) (c0 : Int) t0) r' (.slice (some ⟨g, 0, none⟩) N rc_) N ((ofP P).map rrc).flatten) := ⟨H5.out.set1 ((But.refl _ _).setCell 68 _) (by rw [heap_setCell_same w5 (S + 1) 68 _ _ _ H5.out.rz.b1, List.setIfInBounds_toArray, rq_x _ _ _ _ _ _ _ HO.out.1.key HO.out.1.st])⟩
   generalize w5.setCell ⟨S + 1, 68, none⟩ (.int .u64 (nx0 + 1)) = w6 at H6 ⊢
   clear d68 f68 e6 H5
   obtain ⟨r2, hJ2, hwr⟩ := rwrite_j HQ.out.1 (by have := HC.out.2.2.2.1; omega) p HQ.out.2.2.2.2.2.2.2.2.2.2.2 T HQ.out.2.2.2.2.2.2.1
   have HJ2 : Box (Disk.J (k + (i + 1)) (dwr Y.1 p T).1 r2) := ⟨hJ2⟩
   have HWr : Box (Calls Tryd.prog 46 #[.agg V.toArray, .int .i64 (p : Int), .string (strOfNums T)] w6 fun e w3 => RwK r2 x e w6 w3) := ⟨by
    rw [HQ.out.2.2.2.2.2.2.2.2.2.2.1] at hwr
    exact hwr w6 _ H6.out.rv⟩
   have HVl : Box (w6.rangeAt S 0 V /\ (Tryd.prog.info? 36).map (·.size) = some V.length) := ⟨range_row H6.out.rz.b0, by rw [rv_len H6.out.rv]; exact Disk.infoD⟩
   clear hJ2 hwr
   go_upto_region 18 with (first
    | (refine atLoad 36 ?_; refine wpList_ldMid rfl 36 _ _ rfl Tryd.underlying36 rfl S 0 rfl V HVl.out.2 HVl.out.1 ?_)
    | (go_at_call 46; refine HWr.out.mono ?_; rintro e w7 ⟨v2, rfl, hv2, hb⟩; obtain ⟨V2, rfl, hl2, ha2⟩ := rv_form hv2; have H7 : Box ((Rk w w7 S X V (rq j.key (j.first : Int) (j.size : Int) j.st (nx0 + 1) j.lim) (sq (a0 : Int) (c0 : Int) t0) r' (.slice (some ⟨g, 0, none⟩) N rc_) N ((ofP P).map rrc).flatten) /\ Disk.Rv w7 (.agg V2.toArray) r2 /\ V2.toArray.all (·.oneCell') = true /\ (Tryd.prog.info? 36).map (·.size) = some V2.toArray.size /\ V.toArray.size = V2.toArray.size) := ⟨H6.out.below hb, hv2, ha2, by rw [List.size_toArray, hl2]; exact Disk.infoD, by rw [List.size_toArray, List.size_toArray, hl2, rv_len H6.out.rv]⟩; clear hb hv2 hl2 ha2)
    | (refine atStore _ ?_; refine wpList_store_row rfl 36 _ _ rfl S V2.toArray rfl rfl 36 V.toArray H7.out.1.rz.b0 H7.out.2.2.2.1 H7.out.2.2.2.2 H7.out.2.2.1 ?_))
   have H8 : Box (Rk w (w7.setRow S V2.toArray) S X V2 (rq j.key (j.first : Int) (j.size : Int) j.st (nx0 + 1) j.lim) (sq (a0 : Int) (c0 : Int) t0) r2 (.slice (some ⟨g, 0, none⟩) N rc_) N ((ofP P).map rrc).flatten) := ⟨H7.out.1.set0 (but_setRow _ _ _) (setRow_heap _ _ _ _ _ _ H7.out.1.rz.b0) H7.out.2.1⟩
   generalize w7.setRow S V2.toArray = w8 at H8 ⊢
   clear HVl HWr H6 H7
   by_cases hx0 : x = 0
   rotate_left
   ·obtain rfl : x = 13 := by
     rcases dwr_er Y.1 p T with h | h
     ·rw [HQ.out.2.2.2.2.2.2.2.2.2.2.1] at h; exact absurd h hx0
     ·rw [HQ.out.2.2.2.2.2.2.2.2.2.2.1] at h; exact h
    clear hx0
    obtain ⟨J3, hJ3⟩ : ∃ J3, rq j.key (j.first : Int) (j.size : Int) j.st (nx0 + 1) j.lim = J3 := ⟨_, rfl⟩
    rw [hJ3] at H8
    have HR : Box ((V2.length = 6 /\ J3.length = 70) /\ (scs zs).length = 34) := ⟨⟨rv_len H8.out.rv, by rw [<- hJ3]; exact len_rq _ _ _ _ _ _ HO.out.1.key HO.out.1.st⟩, len_scs okS_zs⟩
    have HI2 : Box ((Tryd.prog.info? 36).map (·.size) = some V2.length /\ (Tryd.prog.info? 44).map (·.size) = some J3.length /\ Tryd.prog.built 42 [] = some (scs zs).toArray) := ⟨by rw [HR.out.1.1]; exact Disk.infoD, by rw [HR.out.1.2]; exact infoRj, built_S13z⟩
    have HI3 : Box ((Tryd.prog.info? 36).map (·.size) = some V2.toArray.size /\ (Tryd.prog.info? 44).map (·.size) = some J3.toArray.size /\ (Tryd.prog.info? 42).map (·.size) = some (scs zs).toArray.size) := ⟨by rw [List.size_toArray]; exact HI2.out.1, by rw [List.size_toArray]; exact HI2.out.2.1, by rw [List.size_toArray, len_scs okS_zs]; exact infoS13⟩
    have one0 : V2.toArray.all (·.oneCell') = true := by
     obtain ⟨V', e, _, h⟩ := rv_form H8.out.rv
     have e2 : V2 = V' := by simpa using e
     rw [e2]; exact h
    have HI4 : Box (V2.toArray.all (·.oneCell') = true /\ J3.toArray.all (·.oneCell') = true /\ (scs zs).toArray.all (·.oneCell') = true) := ⟨one0, by rw [<- hJ3]; exact all_rq _ _ _ _ _ _, all_sa zs⟩
    clear one0
    have HI5 : Box ((Tryd.prog.info? 42).map (·.size) = some (scs zs).length) := ⟨by rw [len_scs okS_zs]; exact infoS13⟩
    have HGM : Box (goM j d P = ((dwr Y.1 p T).1, nx0 + 1, 13, zs) /\ k + (i + 1) <= k + N /\ rq j.key (j.first : Int) (j.size : Int) j.st (nx0 + 1) j.lim = J3) := ⟨by
     have hs := HQ.out.2.1
     unfold hsnocG at hs
     have hc := apL_cut j (d, j.nx, 0, j.st) (ofP P) (i + 1) (by rw [hs]; simp)
     unfold goM
     rw [hc, hs, if_pos (by simp)], by omega, hJ3⟩
    clear hJ3 HC HN HE2 HSl HRc
    have HEN : Box _ := ⟨fun y (hy : Below w8.heap.size w8 y) => end19 (u := scs zs) (H8.out.below hy) HR.out.1 HR.out.2⟩
    clear HR H8
    go_upto_region 19 with fail
    refine begin_keep (S := fun y => y.rangeAt S 0 V2 /\ y.rangeAt (S + 1) 0 J3) (by kernel_rfl) (fun wd hwd => ?_)
    have HE9 : Box _ := ⟨HEN.out wd (by rw [hwd]; exact (Below.refl _ _).drew)⟩
    have hS := HE9.out.s0
    clear hwd HEN
    refine take_x (i := 0) (v := .agg V2.toArray) rfl (fun w' hLat => exec_load_mid 36 _ (.tmp 3) rfl Tryd.underlying36 rfl _ _ rfl _ HI2.out.1 hLat.1) hS ?_
    try simp only [Act.put, pC, pD, pE, pF, pG]
    refine take_x (i := 1) (v := .agg J3.toArray) rfl (fun w' hLat => exec_load_mid 44 _ (.tmp 4) rfl Tryd.underlying44 rfl _ _ rfl _ HI2.out.2.1 hLat.2) hS ?_
    try simp only [Act.put, pC, pD, pE, pF, pG, pH]
    refine take_x (i := 2) (v := .agg (scs zs).toArray) rfl (fun w' hLat => exec_built 42 [] rfl [] rfl (scs zs).toArray HI2.out.2.2) hS ?_
    try simp only [Act.put, pC, pD, pE, pF, pG, pH]
    refine take_x (i := 3) (v := ?_) rfl ?_ hS ?_
    rotate_left
    ·rintro w' -; go_simp <;> with_reducible rfl
    try simp only [Act.put, pC, pD, pE, pF, pG, pH]
    refine one_keep (i := 4) (by kernel_rfl) ?_
    refine keep_step rfl (by rfl) ?_
    refine wp_store_mid 36 (.tmp 6) (.tmp 114) rfl (S + 2) 0 V2.toArray rfl rfl HE9.out.t2 HI3.out.1 HI4.out.1 ?_
    (try rw [List.toList_toArray])
    have hS := HE9.out.s1
    refine ⟨hS, ?_⟩
    try simp only [Act.put, pF, pG, pH]
    refine one_keep (i := 5) (by kernel_rfl) ?_
    refine keep_step rfl (by rfl) ?_
    refine wp_store_mid 44 (.tmp 7) (.tmp 115) rfl (S + 3) 0 J3.toArray rfl rfl HE9.out.t3 HI3.out.2.1 HI4.out.2.1 ?_
    (try rw [List.toList_toArray])
    have hS := HE9.out.s2
    refine ⟨hS, ?_⟩
    try simp only [Act.put, pF, pG, pH]
    refine one_keep (i := 6) (by kernel_rfl) ?_
    refine keep_step rfl (by rfl) ?_
    refine wp_store_mid 42 (.tmp 8) (.tmp 116) rfl (S + 4) 0 (scs zs).toArray rfl rfl HE9.out.t4 HI3.out.2.2 HI4.out.2.2 ?_
    (try rw [List.toList_toArray])
    have hS := HE9.out.s3
    refine ⟨hS, ?_⟩
    try simp only [Act.put, pF, pG, pH]
    refine take_x (i := 7) (v := ?_) rfl ?_ hS ?_
    rotate_left
    ·rintro w' -; go_simp <;> with_reducible rfl
    try simp only [Act.put, pC, pD, pE, pF, pG, pH]
    refine wpAnyH_done (by kernel_rfl) ?_ _
    clear hS
    go_wp2
    refine bodyPost_ret (results_rows3 (t := 6) (u := 7) (v := 8) (x := 9) rfl _ _ _ Tryd.underlying36 rfl Tryd.underlying44 rfl Tryd.underlying42 rfl _ _ (S + 2) (S + 3) (S + 4) V2 J3 (scs zs) HI2.out.1 HI2.out.2.1 HI5.out rfl rfl rfl HE9.out.r2 HE9.out.r3 HE9.out.r4) rfl ?_
    rw [HGM.out.1]
    exact ⟨_, r2, by rw [HGM.out.2.2]; rfl, HE9.out.k3.rv, J_le HJ2.out HGM.out.2.1, HE9.out.k3.rz.bl⟩
   obtain rfl : x = 0 := hx0
   have x1 : w8.cell? ⟨X, 1, none⟩ = some (.int .u64 (c0 : Int)) := cell_at H8.out.bx rfl
   have xf : w8.frozen? ⟨X, 1, none⟩ = false := froz_at H8.out.bx
   have e7 : IntKind.u64.wrap ((c0 : Int) + 1) = (c0 : Int) + 1 := by rw [IntKind.wrap_u64]; omega
   go_upto_region 21 with fail
   have H9 : Box (Rk w (w8.setCell ⟨X, 1, none⟩ (.int .u64 ((c0 : Int) + 1))) S X V2 (rq j.key (j.first : Int) (j.size : Int) j.st (nx0 + 1) j.lim) (sq (a0 : Int) (((c0 + 1 : Nat)) : Int) t0) r2 (.slice (some ⟨g, 0, none⟩) N rc_) N ((ofP P).map rrc).flatten) := ⟨H8.out.setX ((But.refl _ _).setCell 1 _) (by rw [heap_setCell_same w8 X 1 _ _ _ H8.out.bx, List.setIfInBounds_toArray, show (c0 : Int) + 1 = ((c0 + 1 : Nat) : Int) by omega]; rfl)⟩
   generalize w8.setCell ⟨X, 1, none⟩ (.int .u64 ((c0 : Int) + 1)) = w9 at H9 ⊢
   clear x1 xf e7 H8
   obtain ⟨L0, hL0⟩ : ∃ L0, lnk t0 (p : Int) T = L0 := ⟨_, rfl⟩
   have HTg : Box (w9.rangeAt X 2 (t0.map (Value.int .u8)) /\ (Tryd.prog.info? 23).map (·.size) = some (t0.map (Value.int .u8)).length /\ (t0.map (Value.int .u8)).toArray = u8s t0) := ⟨fun i v hv => by
    refine cell_at H9.out.bx ?_
    rw [sq, show 2 + i = i + 1 + 1 by omega, List.getElem?_cons_succ, List.getElem?_cons_succ]
    exact hv, by rw [List.length_map, HQ.out.2.2.2.2.2.2.2.2.1]; exact infoSum, rfl⟩
   have HLk : Box (Calls Tryd.prog 47 #[.agg (u8s t0), .int .u32 (p : Int), .string (strOfNums T)] w9 fun e w' => e = .returned (.agg (u8s L0)) /\ Below w9.heap.size w9 w') := ⟨by
    have := rlink_any t0 (p : Int) T w9 HQ.out.2.2.2.2.2.2.2.2.1 HQ.out.2.2.2.2.2.2.2.2.2.1 (by omega) HQ.out.2.2.2.2.2.2.2.1 (by rw [HQ.out.2.2.2.2.2.2.1]; omega)
    rw [hL0] at this
    exact this⟩
   have HLl : Box (L0.length = 32 /\ t0.length = 32 /\ (Tryd.prog.info? 23).map (·.size) = some (u8s L0).size) := ⟨by rw [<- hL0]; exact length_dsha _, HQ.out.2.2.2.2.2.2.2.2.1, by rw [size_u8s, <- hL0, lnk, length_dsha]; exact infoSum⟩
   have HLe : Box (lnk t0 (p : Int) T = L0) := ⟨hL0⟩
   clear hL0
   have HLT : Box (i < N) := ⟨hlt⟩
   have e8 : IntKind.i64.wrap ((i : Int) + 1) = (i : Int) + 1 := by rw [IntKind.wrap_i64]; omega
   go_wp2_with (first
    | (refine atLoad 23 ?_; refine wpList_ldMid rfl 23 _ _ rfl Tryd.underlying23 rfl X 2 rfl (t0.map (Value.int .u8)) HTg.out.2.1 HTg.out.1 ?_; rw [HTg.out.2.2])
    | (go_at_call 47; refine HLk.out.mono ?_; rintro e w10 ⟨rfl, hb⟩; have H10 : Box ((Rk w w10 S X V2 (rq j.key (j.first : Int) (j.size : Int) j.st (nx0 + 1) j.lim) (sq (a0 : Int) (((c0 + 1 : Nat)) : Int) t0) r2 (.slice (some ⟨g, 0, none⟩) N rc_) N ((ofP P).map rrc).flatten)) := ⟨H9.out.below hb⟩; have HTH : Box (w10.there X 2 (u8s L0).size) := ⟨there_row H10.out.bx (by rw [size_u8s, HLl.out.1, List.size_toArray, len_sq _ _ _ HLl.out.2.1]; omega)⟩; clear hb)
    | (refine atStore _ ?_; refine wpList_store_mid rfl 23 _ _ rfl X 2 (u8s L0) rfl rfl HTH.out HLl.out.2.2 (all_u8s L0) ?_))
   have H11 : Box (Rk w (w10.setCells X 2 (u8s L0).toList) S X V2 (rq j.key (j.first : Int) (j.size : Int) j.st (nx0 + 1) j.lim) (sq (a0 : Int) (((c0 + 1 : Nat)) : Int) L0) r2 (.slice (some ⟨g, 0, none⟩) N rc_) N ((ofP P).map rrc).flatten) := ⟨H10.out.setX (but_setCells X _ 2 _ _ (But.refl _ _)) (by
    rw [show (u8s L0).toList = L0.map (Value.int .u8) by simp [u8s], setCells_row X _ _ 2 _ w10 H10.out.bx (by rw [List.length_map, HLl.out.1, len_sq _ _ _ HLl.out.2.1]; omega), sq_t _ _ _ _ HLl.out.2.1 HLl.out.1])⟩
   generalize w10.setCells X 2 (u8s L0).toList = w11 at H11 ⊢
   clear HTg HLk H9 H10 HTH
   have HR : Box (∃ V r', Rg w w11 S X j d P k (i + 1) (.slice (some ⟨g, 0, none⟩) N rc_) V r') := ⟨V2, r2, by
    have hs := HQ.out.2.1
    unfold hsnocG at hs
    rw [if_pos rfl, HLe.out] at hs
    have k := H11.out
    refine ⟨⟨?_, ?_, k.hx, k.rv, ?_, ?_⟩, by rw [hs]⟩
    ·rw [hs]; exact k.rz
    ·rw [hs]; exact k.bx
    ·rw [hs]; exact HJ2.out
    ·rw [HN.out]; exact k.rr⟩
   clear H11 HJ2
   go_roundw
   case rel => exact ⟨i + 1, HLT.out, by go_num, HR⟩
   case measure => simp [intOf]; have := HLT.out; omega
  ·obtain ⟨V, r', hR0⟩ := HI.out
   have hR := hR0.ri
   have hEr := hR0.er
   have hiN : i = N := by omega
   obtain ⟨Y, hYe⟩ : ∃ Y, apL j (d, j.nx, 0, j.st) (ofP P) = Y := ⟨_, rfl⟩
   obtain ⟨J1, hJ1⟩ : ∃ J1, rq j.key (j.first : Int) (j.size : Int) j.st Y.2.1 j.lim = J1 := ⟨_, rfl⟩
   obtain ⟨q1, hq1⟩ : ∃ q1, scs Y.2.2.2 = q1 := ⟨_, rfl⟩
   have htk : (ofP P).take i = ofP P := List.take_of_length_le (by rw [len_ofP, HN.out]; omega)
   have hY := yf_of (apk_take j HC.out.1 d (ofP P) i (by rw [len_ofP, HN.out]; omega)) hEr
   rw [htk, hYe] at hY
   have HER : Box (goM j d P = Y /\ Y.2.2.1 = 0) := ⟨by
    unfold goM
    rw [hYe, if_neg (fun h => h hY.er)], hY.er⟩
   have HK : Box (Rk w wr S X V J1 q1 r' (.slice (some ⟨g, 0, none⟩) N rc_) N ((ofP P).map rrc).flatten /\ Disk.J (k + N) Y.1 r' /\ V.length = 6 /\ J1.length = 70 /\ q1.length = 34) := ⟨by
    have k1 := hR.rz
    have k2 := hR.bx
    have k3 := hR.rr
    have k4 := hR.dj
    rw [htk, hYe] at k1 k2 k4
    rw [hJ1] at k1
    rw [hq1] at k2
    rw [HN.out] at k3
    rw [hiN] at k4
    refine ⟨⟨k1, k2, hR.hx, hR.rv, k3⟩, k4, rv_len hR.rv, ?_, ?_⟩
    ·rw [<- hJ1]; exact len_rq _ _ _ _ _ _ HC.out.1.key HC.out.1.st
    ·rw [<- hq1, scs_sq]; exact len_sq _ _ _ hY.tg.1⟩
   have HI2 : Box ((Tryd.prog.info? 36).map (·.size) = some V.length /\ (Tryd.prog.info? 44).map (·.size) = some J1.length /\ (Tryd.prog.info? 42).map (·.size) = some q1.length) := ⟨by rw [HK.out.2.2.1]; exact Disk.infoD, by rw [HK.out.2.2.2.1]; exact infoRj, by rw [HK.out.2.2.2.2]; exact infoS13⟩
   have HI3 : Box ((Tryd.prog.info? 36).map (·.size) = some V.toArray.size /\ (Tryd.prog.info? 44).map (·.size) = some J1.toArray.size /\ (Tryd.prog.info? 42).map (·.size) = some q1.toArray.size) := ⟨by rw [List.size_toArray]; exact HI2.out.1, by rw [List.size_toArray]; exact HI2.out.2.1, by rw [List.size_toArray]; exact HI2.out.2.2⟩
   have HI4 : Box (V.toArray.all (·.oneCell') = true /\ J1.toArray.all (·.oneCell') = true /\ q1.toArray.all (·.oneCell') = true) := ⟨by
    refine ⟨?_, ?_, ?_⟩
    ·obtain ⟨V', e, _, h⟩ := rv_form HK.out.1.rv
     have e2 : V = V' := by simpa using e
     rw [e2]; exact h
    ·rw [<- hJ1]; simp [rq, scs, Value.oneCell']
    ·rw [<- hq1]; simp [scs, Value.oneCell']⟩
   have HYe : Box (apL j (d, j.nx, 0, j.st) (ofP P) = Y /\ rq j.key (j.first : Int) (j.size : Int) j.st Y.2.1 j.lim = J1 /\ scs Y.2.2.2 = q1) := ⟨hYe, hJ1, hq1⟩
   have hlt1 : decide ((i : Int) < (N : Int)) = false := by simp; omega
   clear hEr hR0 hR HI htk hY hYe hJ1 hq1 hiN hi HC HN HE2 HSl
   go_upto_region 22 with fail
   refine begin_keep (S := fun y => S22 y S X V J1 q1) (by kernel_rfl) (fun wd hwd => ?_)
   have hkd : Rk w wd S X V J1 q1 r' (.slice (some ⟨g, 0, none⟩) N rc_) N ((ofP P).map rrc).flatten := by rw [hwd]; exact HK.out.1.below ((Below.refl _ _).drew)
   have HE9 : Box _ := ⟨end22 hkd HK.out.2.2.1 HK.out.2.2.2.1 HK.out.2.2.2.2⟩
   have hS := hkd.s22
   clear hwd
   refine take_x (i := 0) (v := .agg V.toArray) rfl (fun w' hLat => exec_load_mid 36 _ (.tmp 3) rfl Tryd.underlying36 rfl _ _ rfl _ HI2.out.1 hLat.1) hS ?_
   try simp only [Act.put, pC, pD, pE, pF, pG]
   refine take_x (i := 1) (v := .agg J1.toArray) rfl (fun w' hLat => exec_load_mid 44 _ (.tmp 4) rfl Tryd.underlying44 rfl _ _ rfl _ HI2.out.2.1 hLat.2.1) hS ?_
   try simp only [Act.put, pC, pD, pE, pF, pG, pH]
   refine take_x (i := 2) (v := .agg q1.toArray) rfl (fun w' hLat => exec_load_mid 42 _ (.tmp 13) rfl Tryd.underlying42 rfl _ _ rfl _ HI2.out.2.2 hLat.2.2) hS ?_
   try simp only [Act.put, pC, pD, pE, pF, pG, pH]
   refine one_keep (i := 3) (by kernel_rfl) ?_
   refine keep_step rfl (by rfl) ?_
   refine wp_store_mid 36 (.tmp 6) (.tmp 129) rfl (S + 2) 0 V.toArray rfl rfl HE9.out.t2 HI3.out.1 HI4.out.1 ?_
   rw [List.toList_toArray]
   have hS := HE9.out.k1.s22
   refine ⟨hS, ?_⟩
   try simp only [Act.put, pF, pG, pH]
   refine one_keep (i := 4) (by kernel_rfl) ?_
   refine keep_step rfl (by rfl) ?_
   refine wp_store_mid 44 (.tmp 7) (.tmp 130) rfl (S + 3) 0 J1.toArray rfl rfl HE9.out.t3 HI3.out.2.1 HI4.out.2.1 ?_
   rw [List.toList_toArray]
   have hS := HE9.out.k2.s22
   refine ⟨hS, ?_⟩
   try simp only [Act.put, pF, pG, pH]
   refine one_keep (i := 5) (by kernel_rfl) ?_
   refine keep_step rfl (by rfl) ?_
   refine wp_store_mid 42 (.tmp 8) (.tmp 131) rfl (S + 4) 0 q1.toArray rfl rfl HE9.out.t4 HI3.out.2.2 HI4.out.2.2 ?_
   rw [List.toList_toArray]
   have hS := HE9.out.k3.s22
   refine ⟨hS, ?_⟩
   try simp only [Act.put, pF, pG, pH]
   refine take_x (i := 6) (v := ?_) rfl ?_ hS ?_
   rotate_left
   ·rintro w' -; go_simp <;> with_reducible rfl
   try simp only [Act.put, pC, pD, pE, pF, pG, pH]
   refine wpAnyH_done (by kernel_rfl) ?_ _
   clear hS hkd
   go_wp2
   refine bodyPost_ret (results_rows3 (t := 6) (u := 7) (v := 8) (x := 9) rfl _ _ _ Tryd.underlying36 rfl Tryd.underlying44 rfl Tryd.underlying42 rfl _ _ (S + 2) (S + 3) (S + 4) V J1 q1 HI2.out.1 HI2.out.2.1 HI2.out.2.2 rfl rfl rfl HE9.out.r2 HE9.out.r3 HE9.out.r4) rfl ?_
   have hk := HE9.out.k3
   rw [HER.out.1]
   exact ⟨_, r', by rw [HYe.out.2.1, sa, HYe.out.2.2, HER.out.2]; rfl, hk.rv, HK.out.2.1, hk.rz.bl⟩
end Go.Proofs.YthfobaeafapbnaaDoor
