/-
 The reference's Append where it refuses: no image, or more records than there is room for. And what follows it.
-/
import Derived.Test.YtjejnlebpcjidaaGreatDoorQ01
import Derived.Test.YtjejnlebpcjidaaGreatDoorQ31
import Derived.Test.YtjejnlebpcjidaaGreatDoorQ23
import Derived.Test.YtjejnlebpcjidaaGreatDoorQ27
set_option linter.unusedVariables false
set_option maxRecDepth 100000
set_option maxRecDepth 100000
namespace Go.Proofs.YtjejnlebpcjidaaGreatDoor
open Go.RowKit Plain
attribute [local go_sem] Oper.semAt_some
structure E3 (w y:World) (S:Nat) (V J q:List Value):Prop where
 s0:y.rangeAt S 0 V/\y.rangeAt (S+1) 0 J
 t2:y.there (S+2) 0 V.toArray.size
 t3:(y.setCells (S+2) 0 V).there (S+3) 0 J.toArray.size
 t4:((y.setCells (S+2) 0 V).setCells (S+3) 0 J).there (S+4) 0 q.toArray.size
 s1:(y.setCells (S+2) 0 V).rangeAt S 0 V/\(y.setCells (S+2) 0 V).rangeAt (S+1) 0 J
 s2:((y.setCells (S+2) 0 V).setCells (S+3) 0 J).rangeAt S 0 V/\((y.setCells (S+2) 0 V).setCells (S+3) 0 J).rangeAt (S+1) 0 J
 s3:(((y.setCells (S+2) 0 V).setCells (S+3) 0 J).setCells (S+4) 0 q).rangeAt S 0 V/\(((y.setCells (S+2) 0 V).setCells (S+3) 0 J).setCells (S+4) 0 q).rangeAt (S+1) 0 J
 k3:Rz w (((y.setCells (S+2) 0 V).setCells (S+3) 0 J).setCells (S+4) 0 q) S V J
 r2:(((y.setCells (S+2) 0 V).setCells (S+3) 0 J).setCells (S+4) 0 q).rangeAt (S+2) 0 V
 r3:(((y.setCells (S+2) 0 V).setCells (S+3) 0 J).setCells (S+4) 0 q).rangeAt (S+3) 0 J
 r4:(((y.setCells (S+2) 0 V).setCells (S+3) 0 J).setCells (S+4) 0 q).rangeAt (S+4) 0 q
theorem end3 {w y0:World} {S:Nat} {V J q:List Value} (h0:Rz w y0 S V J) (l1:V.length=6/\J.length=70) (l3:q.length=34):∀y,Below y0.heap.size y0 y->E3 w y S V J q:=fun y hy=>by
 have h:=h0.below hy
 obtain ⟨Z2,h2,m2⟩:=h.b2
 have p2:=q4e h2 (m2.trans l1.1.symm)
 have k1:=h.set2 p2.2 p2.1 l1.1
 obtain ⟨Z3,h3,m3⟩:=k1.b3
 have p3:=q4e h3 (m3.trans l1.2.symm)
 have k2:=k1.set3 p3.2 p3.1 l1.2
 obtain ⟨Z4,h4,m4⟩:=k2.b4
 have p4:=q4e h4 (m4.trans l3.symm)
 have k3:=k2.set4 p4.2 p4.1 l3
 refine ⟨⟨q0q h.b0,q0q h.b1⟩,q3g h2 (m2.trans l1.1.symm),q3g h3 (m3.trans l1.2.symm),q3g h4 (m4.trans l3.symm),⟨q0q k1.b0,q0q k1.b1⟩,⟨q0q k2.b0,q0q k2.b1⟩,⟨q0q k3.b0,q0q k3.b1⟩,k3,?_,?_,q0q p4.1⟩
 ·exact q3c p4.2 (q3c p3.2 (q0q p2.1) (by omega)) (by omega)
 ·exact q3c p4.2 (q0q p3.1) (by omega)
set_option maxHeartbeats 400000 in
theorem rof_zero (a:Option Addr) (n cap:Nat) (HZ:Box (n=0)) (w:World):Calls Tryz.prog 39 #[.slice a n cap] w fun e w'=>e=.returned (.tuple #[.slice none 0 0,.int .i64 1])/\Below w.heap.size w w':=by
 have hz:((n:Int)==0)=true:=by have:=HZ.out;simp [this]
 go_enter Tryz.func39,Tryz.ntmps39
 go_wp2
 go_ret2
 exact ⟨rfl,Below.refl _ _⟩
theorem q9v:Tryz.prog.built 42 []=some (scs zs).toArray:=by kernel_rfl
set_option maxHeartbeats 4000000 in
theorem z1u (d:Disk.Dk) (r:Disk.Rd) (j:Jt) (ok:j.Ok) (w:World) (v:Value) (hv:Disk.Rv w v r) (a:Option Addr) (cap:Nat):
  Calls Tryz.prog 12 #[v,.agg (rq j.key (j.first:Int) (j.size:Int) j.st j.nx j.lim).toArray,.slice a 0 cap] w fun e w'=>e=.returned (.tuple #[v,.agg (rq j.key (j.first:Int) (j.size:Int) j.st j.nx j.lim).toArray,.agg (sa zs),.int .i64 1])/\Below w.heap.size w w':=by
 obtain ⟨S,hS⟩:=nm w.heap.size
 have HV:Box (Disk.Rv w v r):=⟨hv⟩
 obtain ⟨vd,vw,vo,rfl,-,-,-⟩:=hv
 have HZ:Box _:=⟨rz_new w (Disk.rv r.n vd vw r.left r.down vo) (rq j.key (j.first:Int) (j.size:Int) j.st j.nx j.lim) (Disk.rv 0 (.slice none 0 0) (.slice none 0 0) 0 false (.slice none 0 0)) (rq z32 0 0 zs 0 0) (scs zs) rfl (q1u _ _ _ _ _ _ q1l q1f) (q0u q1f)⟩
 obtain ⟨V0,hV0⟩:=nm (Disk.rv r.n vd vw r.left r.down vo)
 obtain ⟨J0,hJ0⟩:=nm (rq j.key (j.first:Int) (j.size:Int) j.st j.nx j.lim)
 obtain ⟨ZJ,hZJ⟩:=nm ((rq z32 0 0 zs 0 0).toArray)
 obtain ⟨ZS,hZS⟩:=nm ((scs zs).toArray)
 obtain ⟨ZD,hZD⟩:=nm ((Disk.rv 0 (.slice none 0 0) (.slice none 0 0) 0 false (.slice none 0 0)).toArray)
 have zJ:(Tryz.prog.info? 44).map (·.zero)=some (some (.agg ZJ)):=by rw [<-hZJ];exact zeroRj
 have zS:(Tryz.prog.info? 42).map (·.zero)=some (some (.agg ZS)):=by rw [<-hZS];exact zeroS13
 have zD:(Tryz.prog.info? 36).map (·.zero)=some (some (.agg ZD)):=by rw [<-hZD];exact Disk.zeroD
 rw [hV0,hJ0] at HZ ⊢
 rw [hZJ,hZS,hZD] at HZ
 rw [hV0] at HV
 rw [hS] at HZ
 have HE:Box (Disk.rv r.n vd vw r.left r.down vo=V0/\rq j.key (j.first:Int) (j.size:Int) j.st j.nx j.lim=J0):=⟨hV0,hJ0⟩
 have HOf:Box (∀y,Calls Tryz.prog 39 #[.slice a 0 cap] y fun e w'=>e=.returned (.tuple #[.slice none 0 0,.int .i64 1])/\Below y.heap.size y w'):=⟨fun y=>rof_zero a 0 cap ⟨rfl⟩ y⟩
 clear hV0 hJ0 hZJ hZS hZD
 go_enter Tryz.func12,Tryz.ntmps12
 go_upto_region 1 with (first
  | (refine atAlloc _ ?_;refine q0b rfl _ _ (q0e 36 rfl _ zD) ?_)
  | (refine atAlloc _ ?_;refine q0b rfl _ _ (q0e 44 rfl _ zJ) ?_)
  | (refine atAlloc _ ?_;refine q0b rfl _ _ (q0e 42 rfl _ zS) ?_))
 (try simp only [Nat.add_assoc,Nat.reduceAdd])
 generalize ((((w.alloc (.cells V0.toArray 36)).alloc (.cells J0.toArray 44)).alloc (.cells ZD 36)).alloc (.cells ZJ 44)).alloc (.cells ZS 42)=w1 at HZ ⊢
 have HOf1:Box _:=⟨HOf.out w1⟩
 clear HOf zJ zS zD
 go_upto_region 2 with (go_at_call 39;refine HOf1.out.mono ?_;rintro e w2 ⟨rfl,hb⟩;have H2:Box (Rz w w2 S V0 J0):=⟨HZ.out.below hb⟩;clear hb HOf1)
 have HR:Box (Rz w w2 S V0 J0/\(V0.length=6/\J0.length=70)/\(scs zs).length=34):=⟨H2.out,⟨by rw [<-HE.out.1];rfl,by rw [<-HE.out.2];exact q1u _ _ _ _ _ _ ok.key ok.st⟩,q0u q1f⟩
 have HI2:Box ((Tryz.prog.info? 36).map (·.size)=some V0.length/\(Tryz.prog.info? 44).map (·.size)=some J0.length/\Tryz.prog.built 42 []=some (scs zs).toArray):=⟨by rw [HR.out.2.1.1];exact Disk.infoD,by rw [HR.out.2.1.2];exact infoRj,q9v⟩
 have HI3:Box ((Tryz.prog.info? 36).map (·.size)=some V0.toArray.size/\(Tryz.prog.info? 44).map (·.size)=some J0.toArray.size/\(Tryz.prog.info? 42).map (·.size)=some (scs zs).toArray.size):=⟨by rw [List.size_toArray];exact HI2.out.1,by rw [List.size_toArray];exact HI2.out.2.1,by rw [List.size_toArray,q0u q1f];exact infoS13⟩
 have one0:V0.toArray.all (·.oneCell')=true:=by
  obtain ⟨V',e,_,h⟩:=q3k HV.out
  have e2:V0=V':=by simpa using e
  rw [e2];exact h
 have HI4:Box (V0.toArray.all (·.oneCell')=true/\J0.toArray.all (·.oneCell')=true/\(scs zs).toArray.all (·.oneCell')=true):=⟨one0,by rw [<-HE.out.2];exact q4y _ _ _ _ _ _,q3z zs⟩
 clear one0
 have HI5:Box ((Tryz.prog.info? 42).map (·.size)=some (scs zs).length):=⟨by rw [q0u q1f];exact infoS13⟩
 clear HE HV HZ H2 ok hS
 have HEN:Box _:=⟨end3 HR.out.1 HR.out.2.1 HR.out.2.2⟩
 clear HR
 go_upto_region 3 with fail
 refine q1g (S:=fun y=>y.rangeAt S 0 V0/\y.rangeAt (S+1) 0 J0) (by kernel_rfl) (fun wd hwd=>?_)
 have HE9:Box _:=⟨HEN.out wd (by rw [hwd];exact (Below.refl _ _).drew)⟩
 have hS:=HE9.out.s0
 clear hwd HEN
 refine take_x (i:=0) (v:=.agg V0.toArray) rfl (fun w' hLat=>q0k 36 _ (.tmp 3) rfl Tryz.underlying36 rfl _ _ rfl _ HI2.out.1 hLat.1) hS ?_
 try simp only [Act.put,pC,pD,pE,pF,pG]
 refine take_x (i:=1) (v:=.agg J0.toArray) rfl (fun w' hLat=>q0k 44 _ (.tmp 4) rfl Tryz.underlying44 rfl _ _ rfl _ HI2.out.2.1 hLat.2) hS ?_
 try simp only [Act.put,pC,pD,pE,pF,pG,pH]
 refine take_x (i:=2) (v:=.agg (scs zs).toArray) rfl (fun w' hLat=>q0n 42 [] rfl [] rfl (scs zs).toArray HI2.out.2.2) hS ?_
 try simp only [Act.put,pC,pD,pE,pF,pG,pH]
 refine take_y (i:=3) rfl hS ?_
 try simp only [Act.put,pC,pD,pE,pF,pG,pH]
 refine q0m (i:=4) (by kernel_rfl) ?_
 refine q0d rfl (by rfl) ?_
 refine wp_store_mid 36 (.tmp 6) (.tmp 27) rfl (S+2) 0 V0.toArray rfl rfl HE9.out.t2 HI3.out.1 HI4.out.1 ?_
 (try rw [List.toList_toArray])
 have hS:=HE9.out.s1
 refine ⟨hS,?_⟩
 try simp only [Act.put,pF,pG,pH]
 refine q0m (i:=5) (by kernel_rfl) ?_
 refine q0d rfl (by rfl) ?_
 refine wp_store_mid 44 (.tmp 7) (.tmp 28) rfl (S+3) 0 J0.toArray rfl rfl HE9.out.t3 HI3.out.2.1 HI4.out.2.1 ?_
 (try rw [List.toList_toArray])
 have hS:=HE9.out.s2
 refine ⟨hS,?_⟩
 try simp only [Act.put,pF,pG,pH]
 refine q0m (i:=6) (by kernel_rfl) ?_
 refine q0d rfl (by rfl) ?_
 refine wp_store_mid 42 (.tmp 8) (.tmp 29) rfl (S+4) 0 (scs zs).toArray rfl rfl HE9.out.t4 HI3.out.2.2 HI4.out.2.2 ?_
 (try rw [List.toList_toArray])
 have hS:=HE9.out.s3
 refine ⟨hS,?_⟩
 try simp only [Act.put,pF,pG,pH]
 refine take_y (i:=7) rfl hS ?_
 try simp only [Act.put,pC,pD,pE,pF,pG,pH]
 refine wpAnyH_done (by kernel_rfl) ?_ _
 clear hS
 go_wp2
 refine bodyPost_ret (q4r (t:=6) (u:=7) (v:=8) (x:=9) rfl _ _ _ Tryz.underlying36 rfl Tryz.underlying44 rfl Tryz.underlying42 rfl _ _ (S+2) (S+3) (S+4) V0 J0 (scs zs) HI2.out.1 HI2.out.2.1 HI5.out rfl rfl rfl HE9.out.r2 HE9.out.r3 HE9.out.r4) rfl ?_
 exact ⟨rfl,HE9.out.k3.bl⟩
set_option maxHeartbeats 4000000 in
theorem z1q (d:Disk.Dk) (r:Disk.Rd) (j:Jt) (ok:j.Ok) (P:List (Int × List Int)) (h0:0<P.length) (hP:P.length<=1000) (hall:∀x∈P,x.2.length=160) (h1:j.size-j.st.count<P.length) (w:World) (v:Value) (hv:Disk.Rv w v r) (a:Option Addr) (cap:Nat) (hT:Tb w a 2 ic P):
  Calls Tryz.prog 12 #[v,.agg (rq j.key (j.first:Int) (j.size:Int) j.st j.nx j.lim).toArray,.slice a P.length cap] w fun e w'=>e=.returned (.tuple #[v,.agg (rq j.key (j.first:Int) (j.size:Int) j.st j.nx j.lim).toArray,.agg (sa zs),.int .i64 17])/\Below w.heap.size w w':=by
 obtain ⟨S,hS⟩:=nm w.heap.size
 obtain ⟨N,hN⟩:=nm P.length
 have HV:Box (Disk.Rv w v r):=⟨hv⟩
 obtain ⟨vd,vw,vo,rfl,-,-,-⟩:=hv
 have HZ:Box _:=⟨rz_new w (Disk.rv r.n vd vw r.left r.down vo) (rq j.key (j.first:Int) (j.size:Int) j.st j.nx j.lim) (Disk.rv 0 (.slice none 0 0) (.slice none 0 0) 0 false (.slice none 0 0)) (rq z32 0 0 zs 0 0) (scs zs) rfl (q1u _ _ _ _ _ _ q1l q1f) (q0u q1f)⟩
 obtain ⟨V0,hV0⟩:=nm (Disk.rv r.n vd vw r.left r.down vo)
 obtain ⟨J0,hJ0⟩:=nm (rq j.key (j.first:Int) (j.size:Int) j.st j.nx j.lim)
 obtain ⟨ZJ,hZJ⟩:=nm ((rq z32 0 0 zs 0 0).toArray)
 obtain ⟨ZS,hZS⟩:=nm ((scs zs).toArray)
 obtain ⟨ZD,hZD⟩:=nm ((Disk.rv 0 (.slice none 0 0) (.slice none 0 0) 0 false (.slice none 0 0)).toArray)
 have zJ:(Tryz.prog.info? 44).map (·.zero)=some (some (.agg ZJ)):=by rw [<-hZJ];exact zeroRj
 have zS:(Tryz.prog.info? 42).map (·.zero)=some (some (.agg ZS)):=by rw [<-hZS];exact zeroS13
 have zD:(Tryz.prog.info? 36).map (·.zero)=some (some (.agg ZD)):=by rw [<-hZD];exact Disk.zeroD
 rw [hV0,hJ0] at HZ ⊢
 rw [hZJ,hZS,hZD] at HZ
 rw [hV0] at HV
 rw [hS] at HZ
 have HE:Box (Disk.rv r.n vd vw r.left r.down vo=V0/\rq j.key (j.first:Int) (j.size:Int) j.st j.nx j.lim=J0/\P.length=N):=⟨hV0,hJ0,hN⟩
 have HOf:Box (∀y,Below w.heap.size w y->_):=⟨fun y hy=>rof_ok a cap P y (hT.below hy) hP h0 hall⟩
 rw [hN] at HOf ⊢
 clear hT hV0 hJ0 hZJ hZS hZD
 go_enter Tryz.func12,Tryz.ntmps12
 go_upto_region 1 with (first
  | (refine atAlloc _ ?_;refine q0b rfl _ _ (q0e 36 rfl _ zD) ?_)
  | (refine atAlloc _ ?_;refine q0b rfl _ _ (q0e 44 rfl _ zJ) ?_)
  | (refine atAlloc _ ?_;refine q0b rfl _ _ (q0e 42 rfl _ zS) ?_))
 (try simp only [Nat.add_assoc,Nat.reduceAdd])
 generalize ((((w.alloc (.cells V0.toArray 36)).alloc (.cells J0.toArray 44)).alloc (.cells ZD 36)).alloc (.cells ZJ 44)).alloc (.cells ZS 42)=w1 at HZ ⊢
 have HOf1:Box _:=⟨HOf.out w1 HZ.out.bl⟩
 clear HOf zJ zS zD
 go_upto_region 4 with (go_at_call 39;refine HOf1.out.mono ?_;rintro e w2 ⟨rs,rfl,hro⟩;obtain ⟨ra,rc_,rfl⟩:=q0l hro.row;have H2:Box (Rz w w2 S V0 J0/\w2.ownsRow w.heap.size 107 3 (.slice ra N rc_) N ((ofP P).map rrc).flatten):=⟨HZ.out.below hro.bel,by have h3:=q2u hro.row HZ.out.bl.size;rw [<-HE.out.2.2,<-q3h P,List.take_of_length_le (Nat.le_refl _),q3h P,HE.out.2.2] at h3;exact h3⟩;clear hro HOf1)
 obtain ⟨q32,q33,q35,q68,q69⟩:=z4y (f:=(j.first:Int)) (n:=(j.size:Int)) (x:=j.nx) (y:=j.lim) ok.key ok.st
 rw [HE.out.2.1] at q33 q35
 have d33:=q2s H2.out.1.b1 q33
 have d35:=q2s H2.out.1.b1 q35
 have okhi:=ok.hi
 have okcl:=ok.cl
 rw [hN] at h1 hP h0
 have w1a:IntKind.u64.wrap ((j.size:Int)-(j.st.count:Int))=(j.size:Int)-(j.st.count:Int):=by rw [IntKind.wrap_u64];omega
 have g1:decide ((j.size:Int)-(j.st.count:Int)<(N:Int))=true:=by simp;omega
 have hw3:IntKind.u64.wrap (N:Int)=(N:Int):=by rw [IntKind.wrap_u64];omega
 have HR:Box (Rz w w2 S V0 J0/\(V0.length=6/\J0.length=70)/\(scs zs).length=34):=⟨H2.out.1,⟨by rw [<-HE.out.1];rfl,by rw [<-HE.out.2.1];exact q1u _ _ _ _ _ _ ok.key ok.st⟩,q0u q1f⟩
 have HI2:Box ((Tryz.prog.info? 36).map (·.size)=some V0.length/\(Tryz.prog.info? 44).map (·.size)=some J0.length/\Tryz.prog.built 42 []=some (scs zs).toArray):=⟨by rw [HR.out.2.1.1];exact Disk.infoD,by rw [HR.out.2.1.2];exact infoRj,q9v⟩
 have HI3:Box ((Tryz.prog.info? 36).map (·.size)=some V0.toArray.size/\(Tryz.prog.info? 44).map (·.size)=some J0.toArray.size/\(Tryz.prog.info? 42).map (·.size)=some (scs zs).toArray.size):=⟨by rw [List.size_toArray];exact HI2.out.1,by rw [List.size_toArray];exact HI2.out.2.1,by rw [List.size_toArray,q0u q1f];exact infoS13⟩
 have one0:V0.toArray.all (·.oneCell')=true:=by
  obtain ⟨V',e,_,h⟩:=q3k HV.out
  have e2:V0=V':=by simpa using e
  rw [e2];exact h
 have HI4:Box (V0.toArray.all (·.oneCell')=true/\J0.toArray.all (·.oneCell')=true/\(scs zs).toArray.all (·.oneCell')=true):=⟨one0,by rw [<-HE.out.2.1];exact q4y _ _ _ _ _ _,q3z zs⟩
 clear one0
 have HI5:Box ((Tryz.prog.info? 42).map (·.size)=some (scs zs).length):=⟨by rw [q0u q1f];exact infoS13⟩
 clear HE HV HZ q32 q68 q69 hN hS hall
 have HEN:Box _:=⟨end3 HR.out.1 HR.out.2.1 HR.out.2.2⟩
 clear HR
 go_upto_region 6 with fail
 refine q1g (S:=fun y=>y.rangeAt S 0 V0/\y.rangeAt (S+1) 0 J0) (by kernel_rfl) (fun wd hwd=>?_)
 have HE9:Box _:=⟨HEN.out wd (by rw [hwd];exact (Below.refl _ _).drew)⟩
 have hS:=HE9.out.s0
 clear hwd HEN
 refine take_x (i:=0) (v:=.agg V0.toArray) rfl (fun w' hLat=>q0k 36 _ (.tmp 3) rfl Tryz.underlying36 rfl _ _ rfl _ HI2.out.1 hLat.1) hS ?_
 try simp only [Act.put,pC,pD,pE,pF,pG]
 refine take_x (i:=1) (v:=.agg J0.toArray) rfl (fun w' hLat=>q0k 44 _ (.tmp 4) rfl Tryz.underlying44 rfl _ _ rfl _ HI2.out.2.1 hLat.2) hS ?_
 try simp only [Act.put,pC,pD,pE,pF,pG,pH]
 refine take_x (i:=2) (v:=.agg (scs zs).toArray) rfl (fun w' hLat=>q0n 42 [] rfl [] rfl (scs zs).toArray HI2.out.2.2) hS ?_
 try simp only [Act.put,pC,pD,pE,pF,pG,pH]
 refine q0m (i:=3) (by kernel_rfl) ?_
 refine q0d rfl (by rfl) ?_
 refine wp_store_mid 36 (.tmp 6) (.tmp 42) rfl (S+2) 0 V0.toArray rfl rfl HE9.out.t2 HI3.out.1 HI4.out.1 ?_
 (try rw [List.toList_toArray])
 have hS:=HE9.out.s1
 refine ⟨hS,?_⟩
 try simp only [Act.put,pF,pG,pH]
 refine q0m (i:=4) (by kernel_rfl) ?_
 refine q0d rfl (by rfl) ?_
 refine wp_store_mid 44 (.tmp 7) (.tmp 43) rfl (S+3) 0 J0.toArray rfl rfl HE9.out.t3 HI3.out.2.1 HI4.out.2.1 ?_
 (try rw [List.toList_toArray])
 have hS:=HE9.out.s2
 refine ⟨hS,?_⟩
 try simp only [Act.put,pF,pG,pH]
 refine q0m (i:=5) (by kernel_rfl) ?_
 refine q0d rfl (by rfl) ?_
 refine wp_store_mid 42 (.tmp 8) (.tmp 44) rfl (S+4) 0 (scs zs).toArray rfl rfl HE9.out.t4 HI3.out.2.2 HI4.out.2.2 ?_
 (try rw [List.toList_toArray])
 have hS:=HE9.out.s3
 refine ⟨hS,?_⟩
 try simp only [Act.put,pF,pG,pH]
 refine take_y (i:=6) rfl hS ?_
 try simp only [Act.put,pC,pD,pE,pF,pG,pH]
 refine wpAnyH_done (by kernel_rfl) ?_ _
 clear hS
 go_wp2
 refine bodyPost_ret (q4r (t:=6) (u:=7) (v:=8) (x:=9) rfl _ _ _ Tryz.underlying36 rfl Tryz.underlying44 rfl Tryz.underlying42 rfl _ _ (S+2) (S+3) (S+4) V0 J0 (scs zs) HI2.out.1 HI2.out.2.1 HI5.out rfl rfl rfl HE9.out.r2 HE9.out.r3 HE9.out.r4) rfl ?_
 exact ⟨rfl,HE9.out.k3.bl⟩
end Go.Proofs.YtjejnlebpcjidaaGreatDoor
namespace Go.Proofs.YtjejnlebpcjidaaGreatDoor
open Go.RowKit Plain
attribute [local go_sem] Oper.semAt_some
theorem radopt_ok (K:List Int) (hK:K.length=32) (f n:Nat) (s0 s:Jst) (h0:OkS s0) (hs:OkS s) (h1:s.start<n) (h2:s.count<=n) (nx y lim:Int) (hl:0<=lim/\lim<=9223372036854775807) (w:World):
  Calls Tryz.prog 15 #[.agg (rq K (f:Int) (n:Int) s0 nx y).toArray,.agg (sa s),.int .u64 lim] w fun e w'=>e=.returned (.agg (rq K (f:Int) (n:Int) s nx lim).toArray)/\Below w.heap.size w w':=by
 obtain ⟨S,hS⟩:=nm w.heap.size
 obtain ⟨A0,hA0⟩:=nm ((rq K (f:Int) (n:Int) s0 nx y).toArray)
 obtain ⟨A1,hA1⟩:=nm ((rq K (f:Int) (n:Int) s nx y).toArray)
 obtain ⟨A2,hA2⟩:=nm ((rq K (f:Int) (n:Int) s nx lim).toArray)
 obtain ⟨AZ,hAZ⟩:=nm ((rq z32 0 0 zs 0 0).toArray)
 obtain ⟨w1,hw1⟩:=nm (((w.alloc (.cells A0 44)).alloc (.cells (sa s) 42)).alloc (.cells AZ 44))
 have hs1:(w.alloc (.cells A0 44)).heap.size=S+1:=by simp [hS]
 have hs2:((w.alloc (.cells A0 44)).alloc (.cells (sa s) 42)).heap.size=S+2:=by simp [hS]
 have hb1:Below w.heap.size w w1:=by rw [<-hw1];exact (((Below.refl _ _).alloc (Nat.le_refl _) _).alloc (by simp) _).alloc (by simp;omega) _
 have k1:w1.heap[S]?=some (.cells (rq K (f:Int) (n:Int) s0 nx y).toArray 44 (0,0)):=by rw [<-hw1,hA0];exact q0i (q0i (q0g hS))
 have k2:w1.heap[S+1]?=some (.cells (sa s) 42 (0,0)):=by rw [<-hw1];exact q0i (q0g hs1)
 have k3:w1.heap[S+2]?=some (.cells AZ 44 (0,0)):=by rw [<-hw1];exact q0g hs2
 have HZ:Box ((Tryz.prog.info? 44).map (·.zero)=some (some (.agg AZ))):=⟨hAZ▸zeroRj⟩
 have l0:(rq K (f:Int) (n:Int) s0 nx y).length=70:=q1u _ _ _ _ _ _ hK h0
 have l2:(rq K (f:Int) (n:Int) s nx lim).length=70:=q1u _ _ _ _ _ _ hK hs
 obtain ⟨-,q33,-,-,-⟩:=z4y (f:=(f:Int)) (n:=(n:Int)) (x:=nx) (y:=y) hK h0
 have d33:=q2s k1 q33
 have c0:w1.cell? ⟨S+1,0,none⟩=some (.int .u64 (s.start:Int)):=by rw [cell_of_row _ _ _ _ _ _ k2];rfl
 have c1:w1.cell? ⟨S+1,1,none⟩=some (.int .u64 (s.count:Int)):=by rw [cell_of_row _ _ _ _ _ _ k2];rfl
 have HRb:Box (w1.rangeAt (S+1) 0 (scs s)):=⟨q3q k2⟩
 have HTh:Box (w1.there S 34 (sa s).size):=⟨q0z k1 (by rw [q1b hs,List.size_toArray,l0];omega)⟩
 have HIL:Box ((Tryz.prog.info? 42).map (·.size)=some (scs s).length/\(Tryz.prog.info? 42).map (·.size)=some (sa s).size/\(sa s).all (·.oneCell')=true):=⟨by rw [q0u hs];exact infoS13,by rw [q1b hs];exact infoS13,q3z s⟩
 have HX:Box (∀x,w1.setCells S 34 (scs s)=x->x.heap[S]?=some (.cells A1 44 (0,0))/\But S w1 x):=⟨fun x hx=>by
  rw [<-hx,q1h S _ (scs s) 34 (rq K (f:Int) (n:Int) s0 nx y) w1 k1 (by rw [q0u hs,l0];omega),rq_s _ _ _ _ _ _ _ hK h0 hs,hA1]
  exact ⟨rfl,But.setCells _ _ (But.refl _ _)⟩⟩
 have HY:Box (∀x z:World,x.heap[S]?=some (.cells A1 44 (0,0))->But S w1 x->x.setCell ⟨S,69,none⟩ (.int .u64 lim)=z->z.heap[S]?=some (.cells A2 44 (0,0))/\But S w1 z):=⟨fun x z h1 h2 hz=>by
  rw [<-hz,heap_setCell_same x S 69 _ _ _ h1,<-hA1,List.setIfInBounds_toArray,rq_y _ _ _ _ _ _ _ hK hs,hA2]
  exact ⟨rfl,h2.setCell 69 _⟩⟩
 have HC:Box (∀x:World,x.heap[S]?=some (.cells A1 44 (0,0))->x.cell? ⟨S,69,none⟩=some (.int .u64 y)/\x.frozen? ⟨S,69,none⟩=false):=⟨fun x h=>by
  obtain ⟨-,-,-,-,q69⟩:=z4y (f:=(f:Int)) (n:=(n:Int)) (x:=nx) (y:=y) hK hs
  rw [<-hA1] at h
  exact ⟨q2s h q69,frozen_of_row _ _ _ _ _ h⟩⟩
 have HE:Box (A2.size=70/\AZ.size=A2.size/\A2.all (·.oneCell')=true/\(Tryz.prog.info? 44).map (·.size)=some A2.size/\A2.toList=rq K (f:Int) (n:Int) s nx lim):=⟨by rw [<-hA2,List.size_toArray,l2],by rw [<-hAZ,<-hA2,List.size_toArray,List.size_toArray,l2];exact q1u _ _ _ _ _ _ q1l q1f,by rw [<-hA2];exact q4y _ _ _ _ _ _,by rw [<-hA2,List.size_toArray,l2];exact infoRj,by rw [<-hA2]⟩
 have HB:Box (Below w.heap.size w w1/\w.heap.size=S/\w1.heap[S+2]?=some (.cells AZ 44 (0,0))):=⟨hb1,hS,k3⟩
 have g1:decide (n<=s.start)=false:=by simp;omega
 have g2:decide (n<s.count)=false:=by simp;omega
 have g3:¬(9223372036854775807:Int)<lim:=by omega
 rw [hA0,hA2]
 clear hK h0 hs h1 h2 hl k1 k2 k3 hb1 hA0 hA1 hA2 hAZ q33 l0 l2
 go_enter Tryz.func15,Tryz.ntmps15
 go_upto_region 1 with (refine atAlloc _ ?_;refine q0b rfl _ _ (q0e 44 rfl _ HZ.out) ?_)
 (try rw [hs2])
 (try rw [hs1])
 (try simp only [hw1])
 clear hs1 hs2 hw1 hS
 go_upto_region 4 with (first
  | (refine atLoad 42 ?_;refine q0c rfl 42 _ _ rfl Tryz.underlying42 rfl (S+1) 0 rfl (scs s) HIL.out.1 HRb.out ?_)
  | (refine atStore _ ?_;refine wpList_store_mid rfl 42 _ _ rfl S 34 (sa s) rfl rfl HTh.out HIL.out.2.1 HIL.out.2.2 ?_))
 rw [q5p]
 obtain ⟨x2,hx2⟩:=nm (w1.setCells S 34 (scs s))
 have H2:Box _:=⟨HX.out x2 hx2⟩
 rw [hx2]
 clear hx2 HX HTh HRb c0 c1 d33 g1 g2
 obtain ⟨c69,f69⟩:=HC.out x2 H2.out.1
 go_upto_region 5 with fail
 obtain ⟨x3,hx3⟩:=nm (x2.setCell ⟨S,69,none⟩ (.int .u64 lim))
 have H3:Box _:=⟨HY.out x2 x3 H2.out.1 H2.out.2 hx3⟩
 rw [hx3]
 clear hx3 HY H2 c69 f69 HC
 have HR3:Box (x3.rangeAt S 0 A2.toList/\x3.heap[S+2]?=some (.cells AZ 44 (0,0))/\(Tryz.prog.info? 44).map (·.size)=some A2.toList.length):=⟨q0q (by rw [Array.toArray_toList];exact H3.out.1),(H3.out.2.block (S+2) (gE HB.out.2.2) (by omega)).trans HB.out.2.2,by rw [Array.length_toList];exact HE.out.2.2.2.1⟩
 go_wp2_with (first
  | (refine atLoad 44 ?_;refine q0c rfl 44 _ _ rfl Tryz.underlying44 rfl S 0 rfl A2.toList HR3.out.2.2 HR3.out.1 ?_;rw [Array.toArray_toList])
  | (refine atStore _ ?_;refine wpList_store_row rfl 44 _ _ rfl (S+2) A2 rfl rfl 44 AZ HR3.out.2.1 HE.out.2.2.2.1 HE.out.2.1 HE.out.2.2.1 ?_))
 refine bodyPost_ret (q3f (t:=6) (ty:=44) rfl _ _ (S+2) A2.toList _ rfl (q0q (by rw [Array.toArray_toList];exact setRow_heap _ _ _ _ _ _ HR3.out.2.1)) Tryz.underlying44 rfl HR3.out.2.2) rfl ?_
 exact ⟨by rw [Array.toArray_toList],q1i (q1i HB.out.1 H3.out.2 (by have:=HB.out.2.1;omega) HB.out.1.size) (q0s _ _ _) (by have:=HB.out.2.1;omega) (Nat.le_trans HB.out.1.size H3.out.2.size)⟩
end Go.Proofs.YtjejnlebpcjidaaGreatDoor
namespace Go.Proofs.YtjejnlebpcjidaaGreatDoor
open Go.RowKit Plain
attribute [local go_sem] Oper.semAt_some
structure Sl where
 p:Nat
 g:Nat
 bs:List Int
def stc (x:Sl):List Value:=[.int .u32 (x.p:Int),.slice (some ⟨x.g,0,none⟩) 192 192]
def spl (x:Sl):Nat × List Int:=(x.p,x.bs)
theorem infStl:(Tryz.prog.info? 168).map (fun i=>(i.zero,i.size,i.bytes))=some (some (.agg #[.int .u32 0,.slice none 0 0]),2,32):=by kernel_rfl
theorem infoStl:(Tryz.prog.info? 168).map (·.size)=some 2:=by kernel_rfl
theorem zeroStl:(Tryz.prog.info? 168).map (·.zero)=some (some (.agg #[.int .u32 0,.slice none 0 0])):=by kernel_rfl
theorem built_Stl (p:Int) (a:Option Addr) (l c:Nat):Tryz.prog.built 168 [(0,.int .u32 p),(1,.slice a l c)]=some #[.int .u32 p,.slice a l c]:=by kernel_rfl
structure OSl (w:World) (B:Nat) (x:Sl):Prop where
 lo:B<=x.g
 row:w.heap[x.g]?=some (.cells (u8s x.bs) 114 (0,0))
 len:x.bs.length=192
 byt:Byt x.bs
 pl:x.p<=4096
structure Slots (w:World) (B:Nat) (v:Value) (X:List Sl):Prop where
 row:w.ownsRow B 168 2 v X.length (X.map stc).flatten
 byt:∀x∈X,OSl w B x
theorem Slots.to {w w':World} {B:Nat} {v:Value} {X:List Sl} (h:Slots w B v X) (hb:Below w.heap.size w w'):Slots w' B v X:=
 ⟨q2v h.row hb,fun x hx=>⟨(h.byt x hx).lo,(hb.block x.g (gE (h.byt x hx).row)).trans (h.byt x hx).row,(h.byt x hx).len,(h.byt x hx).byt,(h.byt x hx).pl⟩⟩
theorem OSl.bytes {w:World} {B:Nat} {x:Sl} (h:OSl w B x):Bytes w (some ⟨x.g,0,none⟩) 192 x.bs:=by
 refine ⟨h.len,h.byt,fun _=>⟨x.g,0,rfl,(gE h.row),fun i hi=>?_⟩⟩
 rw [cell_of_row _ _ _ _ _ _ h.row,Nat.zero_add]
 have:i<x.bs.length:=by rw [h.len];exact hi
 simp [u8s,List.getD,this]
def pcs (f n st k:Nat):List Nat:=(List.range k).map fun i=>f+(st+i)%n
theorem q6y (f n st k:Nat):pcs f n st (k+1)=pcs f n st k++[f+(st+k)%n]:=by simp [pcs,List.range_succ]
def rdD (d:Disk.Dk) (L:List Nat):Disk.Dk:={d with ops:=d.ops++L.map fun (p:Nat)=>((1:Int),(p:Int))}
theorem z4s (d:Disk.Dk):rdD d []=d:=by simp [rdD]
theorem z6o (d:Disk.Dk) (L:List Nat) (p:Nat):Disk.rdOk (rdD d L) (p:Int)=rdD d (L++[p]):=by simp [rdD,Disk.rdOk]
theorem cx_grown {w0 w w':World} {D:Nat} {fp:Nat->Prop} {d:Disk.Dk} {row:Option Nat} (h:Disk.Cx w0 w D fp d) (hg:w.grownBy w' row) (hn:∀g,row=some g->¬fp g/\w0.heap.size<=g):Disk.Cx w0 w' D fp d:=by
 refine ⟨h.is.same (fun k hk hl=>hg.block k hl (fun e=>(hn k e.symm).1 hk)),?_,h.lo,fun k hk=>Nat.lt_of_lt_of_le (h.hi k hk) hg.size⟩
 have hl:=h.bel
 exact ⟨hg.os.trans hl.os,hg.tape.trans hl.tape,hg.output.trans hl.output,Nat.le_trans hl.size hg.size,fun k hk=>(hg.block k (Nat.lt_of_lt_of_le hk hl.size) (fun e=>by have:=(hn k e.symm).2;omega)).trans (hl.block k hk)⟩
theorem q6r {a b c:World} {fp fp' fp'':Nat->Prop} (h:Disk.Fol a fp b fp') (k:Disk.Fol b fp' c fp''):Disk.Fol a fp c fp'':=by
 refine ⟨⟨k.t.os.trans h.t.os,k.t.tape.trans h.t.tape,k.t.output.trans h.t.output,Nat.le_trans h.t.size k.t.size,fun i hi hn=>?_⟩,fun i hi hn=>k.k i (Nat.lt_of_lt_of_le hi h.t.size) (h.k i hi hn)⟩
 exact (k.t.block i (Nat.lt_of_lt_of_le hi h.t.size) (h.k i hi hn)).trans (h.t.block i hi hn)
theorem fol_grown {a b c:World} {fp fp':Nat->Prop} {row:Option Nat} (h:Disk.Fol a fp b fp') (hg:b.grownBy c row) (hn:∀g,row=some g->a.heap.size<=g):Disk.Fol a fp c fp':=
 ⟨⟨hg.os.trans h.t.os,hg.tape.trans h.t.tape,hg.output.trans h.t.output,Nat.le_trans h.t.size hg.size,fun i hi hf=>(hg.block i (Nat.lt_of_lt_of_le hi h.t.size) (fun e=>by have:=hn i e.symm;omega)).trans (h.t.block i hi hf)⟩,h.k⟩
theorem z5i (w:World) (fp:Nat->Prop):Disk.Fol w fp w fp:=⟨Disk.Turned.refl _ _,fun _ _ h=>h⟩
structure RdK (w0 w1 wr:World) (D:Nat) (fp:Nat->Prop) (d:Disk.Dk) (L:List Nat) (v:Value) (X:List Sl) (fpk:Nat->Prop):Prop where
 sl:Slots wr w1.heap.size v X
 eq:X.map spl=L.map fun p=>(p,Disk.lat d p)
 cx:Disk.Cx w0 wr D fpk (rdD d L)
 fol:Disk.Fol w1 fp wr fpk
 nv:∀g,v.ownBlock=some g->¬fpk g
 ng:∀x∈X,¬fpk x.g
theorem RdK.len {w0 w1 wr:World} {D:Nat} {fp:Nat->Prop} {d:Disk.Dk} {L:List Nat} {v:Value} {X:List Sl} {fpk:Nat->Prop} (h:RdK w0 w1 wr D fp d L v X fpk):X.length=L.length:=by
 have:=congrArg List.length h.eq
 simpa using this
theorem RdK.mid {w0 w1 wr x1:World} {D:Nat} {fp:Nat->Prop} {d:Disk.Dk} {L:List Nat} {v:Value} {X:List Sl} {fpk fp1:Nat->Prop} (h:RdK w0 w1 wr D fp d L v X fpk) (hf:Disk.Fol wr fpk x1 fp1):Slots x1 w1.heap.size v X/\(∀g,v.ownBlock=some g->¬fp1 g)/\∀x∈X,¬fp1 x.g:=by
 have hl:=h.sl.row
 refine ⟨⟨q0j hl (fun k hk=>hf.t.block k (hl.lt k hk).2 (h.nv k hk)),fun x hx=>?_⟩,fun g hg=>hf.k g (hl.lt g hg).2 (h.nv g hg),fun x hx=>?_⟩
 ·have o:=h.sl.byt x hx
  exact ⟨o.lo,(hf.t.block x.g (gE o.row) (h.ng x hx)).trans o.row,o.len,o.byt,o.pl⟩
 ·have o:=h.sl.byt x hx
  exact hf.k x.g (gE o.row) (h.ng x hx)
theorem RdK.step {w0 w1 wr x1 w':World} {D:Nat} {fp:Nat->Prop} {d:Disk.Dk} {L:List Nat} {v v':Value} {X:List Sl} {fpk fp1:Nat->Prop} (h:RdK w0 w1 wr D fp d L v X fpk) (p R:Nat) (hp:p<=4096) (hf:Disk.Fol wr fpk x1 fp1) (hc:Disk.Cx w0 x1 D fp1 (Disk.rdOk (rdD d L) (p:Int))) (hl:Disk.Loc x1 fp1 R (Disk.lat d p) 114) (hR:wr.heap.size<=R) (hlen:(Disk.lat d p).length=192/\Byt (Disk.lat d p))
  (hw0:w0.heap.size<=w1.heap.size) (ho:w'.ownsRow w1.heap.size 168 2 v' (X.length+1) ((X.map stc).flatten++[.int .u32 (p:Int),.slice (some ⟨R,0,none⟩) 192 192])) (hg:x1.grownBy w' v.ownBlock) (hv:∀k,v'.ownBlock=some k->v.ownBlock=some k∨x1.heap.size<=k):RdK w0 w1 w' D fp d (L++[p]) v' (X++[⟨p,R,Disk.lat d p⟩]) fp1:=by
 obtain ⟨m1,m2,m3⟩:=h.mid hf
 have hs:=h.fol.t.size
 have hRl:R<x1.heap.size:=(gE hl.row)
 have own0:=m1.row
 have nb:∀x:Sl,x1.heap[x.g]?=some (.cells (u8s x.bs) 114 (0,0))->v.ownBlock≠some x.g:=fun x hx e=>by
  obtain ⟨_,c1,h1⟩:=q1j own0 x.g e
  rw [hx] at h1
  simp only [Option.some.injEq,Obj.cells.injEq] at h1
  exact absurd h1.2.1 (by decide)
 have old:∀x:Sl,OSl x1 w1.heap.size x->OSl w' w1.heap.size x:=fun x o=>⟨o.lo,(hg.block x.g (gE o.row) (fun e=>nb x o.row e.symm)).trans o.row,o.len,o.byt,o.pl⟩
 refine ⟨⟨?_,fun x hx=>?_⟩,?_,?_,?_,?_,?_⟩
 ·rw [List.map_append,List.flatten_append]
  simpa [stc] using ho
 ·rcases List.mem_append.1 hx with hx | hx
  ·exact old x (m1.byt x hx)
  ·simp only [List.mem_cons,List.not_mem_nil,or_false] at hx
   subst hx
   exact old _ ⟨by show _<=R;omega,hl.row,hlen.1,hlen.2,hp⟩
 ·rw [List.map_append,List.map_append,h.eq]
  simp [spl]
 ·rw [z6o] at hc
  exact cx_grown hc hg (fun g hg'=>⟨m2 g hg',by have:=(q1j own0 g hg').1;omega⟩)
 ·exact fol_grown (q6r h.fol hf) hg (fun g hg'=>(q1j own0 g hg').1)
 ·intro g hg'
  rcases hv g hg' with h1 | h1
  ·exact m2 g h1
  ·exact fun hfp=>by have:=hc.hi g hfp;omega
 ·intro x hx
  rcases List.mem_append.1 hx with hx | hx
  ·exact m3 x hx
  ·simp only [List.mem_cons,List.not_mem_nil,or_false] at hx
   subst hx
   exact hl.no
end Go.Proofs.YtjejnlebpcjidaaGreatDoor
namespace Go.Proofs.YtjejnlebpcjidaaGreatDoor
open Go.RowKit Plain
attribute [local go_sem] Oper.semAt_some
set_option maxHeartbeats 4000000 in
theorem read_v {w0 w:World} {D:Nat} {fp:Nat->Prop} {d:Disk.Dk} (C:Disk.Cx w0 w D fp d) (f n:Nat) (s:Jst) (h1:1<=n) (hfit:f+n<=d.n) (hdn:d.n<=4096) (hm:may n s=true) (hd:0<s.count->d.down=false) (ho:d.ops.length<900000) (hu:d.uw.length<900000):
  Calls Tryz.prog 53 #[.pointer (some ⟨D,0,none⟩),.int .u64 (f:Int),.int .u64 (n:Int),.agg (sa s)] w fun e w'=>∃v X fp',e=.returned (.tuple #[v,.int .i64 0])/\Slots w' w.heap.size v X/\X.map spl=(pcs f n s.start s.count).map (fun p=>(p,Disk.lat d p))/\Disk.Cx w0 w' D fp' (rdD d (pcs f n s.start s.count))/\Disk.Fol w fp w' fp':=by
 obtain ⟨st,ct,tg⟩:=s
 obtain ⟨hst,hct⟩:=q7f hm
 dsimp only at hst hct ⊢
 obtain ⟨SA,HSA⟩:∃SA,Box (sa ⟨st,ct,tg⟩=SA/\SA[0]?=some (.int .u64 (st:Int))/\SA[1]?=some (.int .u64 (ct:Int))):=⟨_,⟨rfl,rfl,rfl⟩⟩
 rw [HSA.out.1]
 obtain ⟨S,hS⟩:=nm w.heap.size
 obtain ⟨w1,hw1⟩:=nm (w.alloc (.cells (SA) 27))
 have hb1:Below w.heap.size w w1:=by rw [<-hw1];exact (Below.refl _ _).alloc (Nat.le_refl _) _
 have k1:w1.heap[S]?=some (.cells (SA) 27 (0,0)):=by rw [<-hw1];exact q0g hS
 have C1:=C.step hb1
 have nS:¬fp S:=fun h=>by have:=C.hi S h;omega
 have hl1:S<w1.heap.size:=(gE k1)
 have HS:Box (∀wr fpk,Disk.Fol w1 fp wr fpk->wr.cell? ⟨S,0,none⟩=some (.int .u64 (st:Int))/\wr.cell? ⟨S,1,none⟩=some (.int .u64 (ct:Int))):=⟨fun wr fpk hf=>by
  have:=(hf.t.block S hl1 nS).trans k1
  exact ⟨by rw [cell_of_row _ _ _ _ _ _ this];exact HSA.out.2.1,by rw [cell_of_row _ _ _ _ _ _ this];exact HSA.out.2.2⟩⟩
 have H0:Box (RdK w0 w1 w1 D fp d (pcs f n st 0) (.slice none 0 0) [] fp):=⟨⟨⟨World.ownsRow_nil _ _ _ _,fun x hx=>by simp at hx⟩,rfl,by show Disk.Cx w0 w1 D fp (rdD d []);rw [z4s];exact C1,z5i _ _,fun g hg=>(by cases hg),fun x hx=>by simp at hx⟩⟩
 have HRD:Box (∀(k p:Nat) (wr:World) (v:Value) (X:List Sl) (fpk:Nat->Prop),k<ct->f+(st+k)%n=p->RdK w0 w1 wr D fp d (pcs f n st k) v X fpk->Calls Tryz.prog 16 #[.pointer (some ⟨D,0,none⟩),.int .i64 (p:Int)] wr fun e w'=>
   ∃R fp',e=.returned (.tuple #[.slice (some ⟨R,0,none⟩) 192 192,.int .i64 0])/\Disk.Cx w0 w' D fp' (Disk.rdOk (rdD d (pcs f n st k)) (p:Int))/\Disk.Fol wr fpk w' fp'/\Disk.Loc w' fp' R (Disk.lat d p) 114/\wr.heap.size<=R/\(Disk.lat d p).length=192/\Byt (Disk.lat d p)):=⟨fun k p wr v X fpk hk hp hr=>by
  have hpl:p<d.n:=by have:=Nat.mod_lt (st+k) h1;omega
  exact Disk.read_cx hr.cx p (hd (by show 0<ct;omega)) hpl (by show (d.ops++(pcs f n st k).map _).length<1000000;simp [pcs];omega) (by show d.uw.length<1000000;omega)⟩
 have HSP:Box (∀(k p R:Nat) (wr x1 w':World) (v v':Value) (X:List Sl) (fpk fp1:Nat->Prop),k<ct->f+(st+k)%n=p->RdK w0 w1 wr D fp d (pcs f n st k) v X fpk->Disk.Cx w0 x1 D fp1 (Disk.rdOk (rdD d (pcs f n st k)) (p:Int))->Disk.Fol wr fpk x1 fp1->Disk.Loc x1 fp1 R (Disk.lat d p) 114->wr.heap.size<=R->(Disk.lat d p).length=192/\Byt (Disk.lat d p)->w'.ownsRow w1.heap.size 168 2 v' (X.length+1) ((X.map stc).flatten++[.int .u32 (p:Int),.slice (some ⟨R,0,none⟩) 192 192])->x1.grownBy w' v.ownBlock->(∀k,v'.ownBlock=some k->v.ownBlock=some k∨x1.heap.size<=k)->∃X' fp',RdK w0 w1 w' D fp d (pcs f n st (k+1)) v' X' fp'):=⟨fun k p R wr x1 w' v v' X fpk fp1 hk hp hr q1 q2 q3 q4 q5 q6 q7 q8=>by
  have hpl:p<d.n:=by have:=Nat.mod_lt (st+k) h1;omega
  rw [q6y,hp]
  exact ⟨_,_,hr.step p R (by omega) q2 q1 q3 q4 q5 (by have:=C1.bel.size;omega) q6 q7 q8⟩⟩
 have HEN:Box (∀wr v X fpk,RdK w0 w1 wr D fp d (pcs f n st ct) v X fpk->Slots wr w.heap.size v X/\X.map spl=(pcs f n st ct).map (fun p=>(p,Disk.lat d p))/\Disk.Cx w0 wr D fpk (rdD d (pcs f n st ct))/\Disk.Fol w fp wr fpk):=⟨fun wr v X fpk hr=>by
  refine ⟨⟨q2u hr.sl.row hb1.size,fun x hx=>?_⟩,hr.eq,hr.cx,q6r ⟨Disk.Turned.of_below hb1,fun _ _ h=>h⟩ hr.fol⟩
  have o:=hr.sl.byt x hx
  exact ⟨Nat.le_trans hb1.size o.lo,o.row,o.len,o.byt,o.pl⟩⟩
 have HLEN:Box (∀k wr v X fpk,k<=ct->RdK w0 w1 wr D fp d (pcs f n st k) v X fpk->X.length<=1000000):=⟨fun k wr v X fpk hk hr=>by
  have:=hr.len
  simp [pcs] at this
  omega⟩
 have HN:Box (1<=n/\f+n<=4096/\st<n/\ct<=n):=⟨h1,by omega,hst,hct⟩
 have HSS:Box (w.heap.size=S):=⟨hS⟩
 clear C h1 hfit hdn hm hd ho hu hb1 k1 C1 nS hl1 hS hst hct
 go_enter Tryz.func53,Tryz.ntmps53
 go_upto_region 2 with fail
 (try simp only [HSS.out])
 clear hw1
 obtain ⟨c0,c1⟩:=HS.out w1 fp (z5i _ _)
 go_wp2
 go_loopw [10,17] (fun v i wr=>∃(k:Nat) (X:List Sl) (fpk:Nat->Prop),k<=ct/\i=.int .u64 (k:Int)/\Box (RdK w0 w1 wr D fp d (pcs f n st k) v X fpk)) (fun _ i _=>ct-(intOf i).toNat)
 case atStart=>exact ⟨0,[],fp,Nat.zero_le _,rfl,H0⟩
 case round=>
  clear H0 c0 c1
  obtain ⟨k,X,fpk,hk,rfl,HG⟩:=hrel
  obtain ⟨c0,c1⟩:=HS.out wr fpk HG.out.fol
  by_cases hlt:k<ct
  ·have hlt1:decide ((k:Int)<(ct:Int))=true:=by simp;omega
   obtain ⟨m,hmm⟩:=nm ((st+k)%n)
   obtain ⟨p,hp⟩:=nm (f+m)
   have hnn:=HN.out
   have hml:m<n:=by rw [<-hmm];exact Nat.mod_lt _ hnn.1
   have HC:Box _:=⟨HRD.out k p wr u10 X fpk hlt (by rw [hmm,hp]) HG.out⟩
   have HST:Box _:=⟨HSP.out k p⟩
   have hne:(n:Int)≠0:=by omega
   have hw1:IntKind.u64.wrap ((st:Int)+(k:Int))=((st+k:Nat):Int):=by rw [IntKind.wrap_u64];omega
   have ht:((st+k:Nat):Int).tmod (n:Int)=(m:Int):=by rw [<-hmm];rfl
   have ht2:((st+k:Nat):Int)%(n:Int)=(m:Int):=by rw [<-hmm];rfl
   have hw2:IntKind.u64.wrap ((f:Int)+(m:Int))=(p:Int):=by rw [IntKind.wrap_u64];omega
   have hw3:IntKind.i64.wrap (p:Int)=(p:Int):=by rw [IntKind.wrap_i64];omega
   have hw4:IntKind.u32.wrap (p:Int)=(p:Int):=by rw [IntKind.wrap_u32];omega
   have hw5:IntKind.u64.wrap ((k:Int)+1)=((k+1:Nat):Int):=by rw [IntKind.wrap_u64];omega
   have HPM:Box (f+(st+k)%n=p):=⟨by rw [hmm,hp]⟩
   have HLE:Box (X.length<=1000000):=⟨HLEN.out k wr u10 X fpk hk HG.out⟩
   generalize ((st+k:Nat):Int)=q at hw1 ht ht2
   clear hmm hp hnn hml
   go_upto_region 9 with (go_at_call 16;refine HC.out.mono ?_;rintro e x1 ⟨R,fp1,rfl,q1,q2,q3,q4,q5⟩;have H1:Box (Disk.Cx w0 x1 D fp1 (Disk.rdOk (rdD d (pcs f n st k)) (p:Int))/\Disk.Fol wr fpk x1 fp1/\Disk.Loc x1 fp1 R (Disk.lat d p) 114/\wr.heap.size<=R/\(Disk.lat d p).length=192/\Byt (Disk.lat d p)):=⟨q1,q2,q3,q4,q5⟩;clear q1 q2 q3 q4 q5)
   have HOW:Box (x1.ownsRow w1.heap.size 168 2 u10 X.length (X.map stc).flatten/\w1.heap.size<=x1.heap.size):=⟨(HG.out.mid H1.out.2.1).1.row,Nat.le_trans HG.out.fol.t.size H1.out.2.1.t.size⟩
   clear HC
   go_wp2_with (first
    | (refine atBuild 168 ?_;refine q0b rfl _ _ (q0n 168 [(0,.tmp 40),(1,.tmp 41)] rfl [(0,.int .u32 (p:Int)),(1,.slice (some ⟨R,0,none⟩) 192 192)] rfl _ (built_Stl _ _ _ _)) ?_)
    | (at_builtin;refine q9h 125 168 Tryz.underlying125 2 32 _ infStl rfl (by decide) rfl (.tmp 38) (.tmp 43) rfl w1.heap.size X.length u10 (X.map stc).flatten [.int .u32 (p:Int),.slice (some ⟨R,0,none⟩) 192 192] x1 rfl rfl rfl HOW.out.1 rfl (by simp [Value.oneCell']) HLE.out (by decide) HOW.out.2 ?_;intro v2 x2 a1 a2 a3;have H2:Box (∃X' fp',RdK w0 w1 x2 D fp d (pcs f n st (k+1)) v2 X' fp'):=⟨HST.out R wr x1 x2 u10 v2 X fpk fp1 hlt HPM.out HG.out H1.out.1 H1.out.2.1 H1.out.2.2.1 H1.out.2.2.2.1 H1.out.2.2.2.2 a1 a2 a3⟩;clear a1 a2 a3))
   go_roundw
   case rel=>
    obtain ⟨X',fp',h⟩:=H2.out
    exact ⟨k+1,X',fp',by omega,by go_num,⟨h⟩⟩
   case measure=>simp [intOf];omega
  ·have hlt1:decide ((k:Int)<(ct:Int))=false:=by simp;omega
   obtain rfl:k=ct:=by omega
   go_wp2
   go_ret2
   exact ⟨u10,X,fpk,rfl,HEN.out wr u10 X fpk HG.out⟩
end Go.Proofs.YtjejnlebpcjidaaGreatDoor
