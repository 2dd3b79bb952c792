/-
 ReplayLoads: what was appended, tampered with or not, is loaded by code and reference alike, with any key, state and ring, up or down.
-/
import Derived.Test.YtjejnlebpcjidaaGreatDoorQ01
import Derived.Deep.Cut
import Derived.Deep.CutRange
import Derived.Deep.CutBlock
import Derived.Test.YtjejnlebpcjidaaGreatDoorQ42
set_option linter.unusedVariables false
set_option maxRecDepth 100000
set_option maxRecDepth 100000
namespace Go.Proofs.YtjejnlebpcjidaaGreatDoor
open Go.RowKit Plain
attribute [local go_sem] Oper.semAt_some
set_option maxHeartbeats 32000000 in
theorem q7x (K:List Int) (hK:K.length=32/\Byt K) (sz:Nat) (hsz:sz<=255) (a:Option Addr) (cap:Nat) (C:List Sx) (s:Jst) (hs:OkS s) (od:Nat) (hod:od<=255) (sl ix:Int) (hix:-9223372036854775808<=ix/\ix<=9223372036854775807) (ov:Nat) (hov:ov<=255) (w:World) (hT:Dig.Tabs w) (hT2:Seal.Tab w) (h:Igss w a C) (hl6:C.length<=6):
  Calls Tryz.prog 3 #[.agg (u8s K),.int .u8 (sz:Int),.slice a C.length cap,.agg (sa s),.int .u8 (od:Int),.int .i64 sl,.int .i64 ix,.int .u8 (ov:Int)] w fun e w'=>e=.returned (.bool true)/\Below w.heap.size w w':=by
 obtain ⟨S,hS⟩:=nm w.heap.size
 obtain ⟨AK,HAK⟩:∃A,Box (u8s K=A):=⟨_,⟨rfl⟩⟩
 obtain ⟨SA,HSA⟩:∃A,Box (sa s=A):=⟨_,⟨rfl⟩⟩
 rw [HAK.out,HSA.out]
 obtain ⟨w1,hw1⟩:=nm ((w.alloc (.cells AK 23)).alloc (.cells SA 27))
 have hb1:Below w.heap.size w w1:=by rw [<-hw1];exact ((Below.refl _ _).alloc (Nat.le_refl _) _).alloc (by simp) _
 have r1:w1.heap[S]?=some (.cells AK 23 (0,0)):=by rw [<-hw1];exact q0i (q0g hS)
 have r2:w1.heap[S+1]?=some (.cells SA 27 (0,0)):=by rw [<-hw1];exact q0g (by simp [hS])
 have HAW:Box (Calls Tryz.prog 5 #[] w1 fun e w'=>e=.returned (.bool true)/\Below w1.heap.size w1 w'):=⟨z3e w1 (hT.below hb1) (hT2.below hb1)⟩
 have HX:Box (∀x,Below w1.heap.size w1 x->(x.rangeAt S 0 (K.map (Value.int .u8))/\x.rangeAt (S+1) 0 (scs s)/\x.cell? ⟨S+1,0,none⟩=some (.int .u64 (s.start:Int))/\x.cell? ⟨S+1,1,none⟩=some (.int .u64 (s.count:Int)))/\Dig.Tabs x/\Seal.Tab x/\Igss x a C/\Below w.heap.size w x):=⟨fun x hx=>by
  have k1:=(hx.block S (gE r1)).trans r1
  have k2:=(hx.block (S+1) (gE r2)).trans r2
  rw [<-HAK.out] at k1
  rw [<-HSA.out] at k2
  exact ⟨⟨q2x k1,q3q k2,by rw [cell_of_row _ _ _ _ _ _ k2];rfl,by rw [cell_of_row _ _ _ _ _ _ k2];rfl⟩,hT.below (q0a hb1 hx),hT2.below (q0a hb1 hx),h.below (q0a hb1 hx),q0a hb1 hx⟩⟩
 have HKI:Box ((Tryz.prog.info? 23).map (·.size)=some (K.map (Value.int .u8)).length/\(K.map (Value.int .u8)).toArray=AK/\K.length=32/\Byt K):=⟨by rw [List.length_map,hK.1];exact infoSum,by rw [<-HAK.out];rfl,hK⟩
 have HSI:Box ((Tryz.prog.info? 27).map (·.size)=some (scs s).length/\(scs s).toArray=SA/\OkS s):=⟨by rw [q0u hs];exact infoSt,by rw [<-HSA.out];rfl,hs⟩
 have HS:Box (w.heap.size=S):=⟨hS⟩
 obtain ⟨n,hn⟩:=nm C.length
 have HLN:Box (C.length=n/\n<=6):=⟨hn,by omega⟩
 obtain ⟨k,hk⟩:=nm (sz%10+1)
 obtain ⟨k0,hk0⟩:=nm (sz%10)
 have HKk:Box (1<=k/\k<=10/\k0+1=k):=⟨by omega,by omega,by omega⟩
 obtain ⟨st,hst⟩:=nm (s.start%k)
 have HST:Box (st<k/\s.start%k=st):=⟨by rw [<-hst];exact Nat.mod_lt _ (by omega),hst⟩
 have hr1:((sz:Int)).tmod 10=(k0:Int):=by rw [<-hk0];rfl
 have hr2:(sz:Int)%10=(k0:Int):=by rw [<-hk0];rfl
 have hr3:IntKind.u8.wrap (k0:Int)=(k0:Int):=by simp [IntKind.wrap,IntKind.bits,IntKind.signed];omega
 have hr4:IntKind.i64.wrap (k0:Int)=(k0:Int):=by rw [IntKind.wrap_i64];omega
 have hr5:IntKind.i64.wrap ((k0:Int)+1)=(k:Int):=by rw [IntKind.wrap_i64];omega
 have d6:decide ((6:Int)<(n:Int))=false:=by simp;omega
 have d6b:¬(6:Int)<(n:Int):=by omega
 have HOD:Box (od<=255/\ov<=255/\(-9223372036854775808<=ix/\ix<=9223372036854775807)):=⟨hod,hov,hix⟩
 rw [hn]
 have hs2:(w.alloc (.cells AK 23)).heap.size=S+1:=by simp [hS]
 clear hT hT2 h hK hs hb1 r1 r2 hS hn hl6 hsz hk hst hod hov hix hk0
 go_enter Tryz.func3,Tryz.ntmps3
 go_upto_region 1 with fail
 (try rw [hs2])
 (try simp only [HS.out])
 (try simp only [hw1])
 clear hw1 hs2
 go_upto_region 4 with (go_at_call 5;refine HAW.out.mono ?_;rintro e x1 ⟨rfl,hb⟩;have H1:Box (Below w1.heap.size w1 x1):=⟨hb⟩;clear hb)
 go_upto_region 7 with fail
 clear HAW d6 d6b hr1 hr2 hr3 hr4 hr5
 obtain ⟨D,hD⟩:=nm (x1.heap.size+1)
 have HD:Box (Calls Tryz.prog 6 #[.int .i64 12] x1 fun e w'=>e=.returned (.tuple #[.pointer (some ⟨D,0,none⟩),.int .i64 0])/\∃fp,Disk.Cx x1 w' D fp (Disk.dk0 12)):=⟨by have:=Disk.new_cx x1 12 ⟨by omega,by omega⟩;rw [hD] at this;exact this⟩
 clear hD
 obtain ⟨dz,hdz⟩:=nm (Disk.dk0 12)
 rw [hdz] at HD
 have HD0:Box (Up dz/\dz.n=12/\dz.ops=[]/\dz.uw=[]/\dz.left=0/\Disk.J 0 dz (Disk.rd0 12)):=⟨by rw [<-hdz];exact ⟨⟨rfl,rfl⟩,rfl,rfl,rfl,rfl,Disk.j_new 12⟩⟩
 clear hdz
 go_upto_region 8 with (go_at_call 6;refine HD.out.mono ?_;rintro e x2 ⟨rfl,fp2,hc⟩;have H2:Box (Disk.Cx x1 x2 D fp2 dz):=⟨hc⟩;clear hc)
 clear HD
 obtain ⟨rz,hrz⟩:=nm (Disk.rd0 12)
 rw [hrz] at HD0
 have HRn:Box (Calls Tryz.prog 7 #[.int .i64 12] x2 fun e w'=>∃V:List Value,e=.returned (.tuple #[.agg V.toArray,.int .i64 0])/\Disk.Rv w' (.agg V.toArray) rz/\Below x2.heap.size x2 w'/\V.toArray.all (·.oneCell')=true/\(Tryz.prog.info? 36).map (·.size)=some V.toArray.size/\V.length=6):=⟨by
  have:=Disk.rnew_any x2 12 ⟨by omega,by omega⟩
  rw [hrz] at this
  refine this.mono ?_
  rintro e w' ⟨v,rfl,hr,hb⟩
  obtain ⟨V,rfl,hl,ha⟩:=q3k hr
  exact ⟨V,rfl,hr,hb,ha,by rw [List.size_toArray,hl];exact Disk.infoD,hl⟩⟩
 clear hrz
 obtain ⟨ZD,hZD⟩:=nm ((Disk.rv 0 (.slice none 0 0) (.slice none 0 0) 0 false (.slice none 0 0)).toArray)
 have HZD:Box ((Tryz.prog.info? 36).map (·.zero)=some (some (.agg ZD))/\ZD.size=6):=⟨by rw [<-hZD];exact Disk.zeroD,by rw [<-hZD];rfl⟩
 obtain ⟨ZJ,hZJ⟩:=nm ((rq z32 0 0 zs 0 0).toArray)
 have HZJ:Box ((Tryz.prog.info? 44).map (·.zero)=some (some (.agg ZJ))/\ZJ.size=70):=⟨by rw [<-hZJ];exact zeroRj,by rw [<-hZJ,List.size_toArray,q1u _ _ _ _ _ _ q1l q1f]⟩
 clear hZD hZJ
 go_upto_region 9 with (first
  | (go_at_call 7;refine HRn.out.mono ?_;rintro e x3 ⟨V,rfl,hr,hb,ha,hi,hl⟩;have H3:Box (Disk.Rv x3 (.agg V.toArray) rz/\Below x2.heap.size x2 x3/\V.toArray.all (·.oneCell')=true/\(Tryz.prog.info? 36).map (·.size)=some V.toArray.size/\ZD.size=V.toArray.size/\V.length=6):=⟨hr,hb,ha,hi,by rw [HZD.out.2,List.size_toArray,hl],hl⟩;clear hr hb ha hi hl)
  | (refine atAlloc _ ?_;refine q0b rfl _ _ (q0e 36 rfl _ HZD.out.1) ?_)
  | (refine atStore _ ?_;refine q0o x3 ZD V.toArray H3.out.2.2.2.1 H3.out.2.2.2.2.1 H3.out.2.2.1 rfl _ _ rfl rfl rfl rfl ?_;intro x4 h4 hb4;have H4:Box (x4.heap[x3.heap.size]?=some (.cells V.toArray 36 (0,0))/\Below x3.heap.size x3 x4):=⟨h4,hb4⟩;clear h4 hb4))
 obtain ⟨Bm,hBm⟩:=nm x3.heap.size
 (try simp only [hBm])
 have H4a:Box (Disk.Rv x4 (.agg V.toArray) rz/\x4.heap[Bm]?=some (.cells V.toArray 36 (0,0))/\Disk.Cx x1 x4 D fp2 dz/\x2.heap.size<=Bm/\Below x2.heap.size x2 x4):=⟨H3.out.1.below H4.out.2,by rw [<-hBm];exact H4.out.1,(H2.out.step H3.out.2.1).step H4.out.2,by rw [<-hBm];exact H3.out.2.1.size,q0a H3.out.2.1 H4.out.2⟩
 have HVl:Box (V.length=6):=⟨H3.out.2.2.2.2.2⟩
 clear hBm H3 H4 HRn
 obtain ⟨S2,HS2⟩:∃A,Box (sa ⟨st,0,z32⟩=A):=⟨_,⟨rfl⟩⟩
 have HOs:Box (OkS ⟨st,0,z32⟩):=⟨⟨q1l,z0w,by show st<=_;have:=HST.out;have:=HKk.out;omega,Nat.zero_le _⟩⟩
 have HB4:Box (∀x,Below x4.heap.size x4 x->Below w1.heap.size w1 x):=⟨fun x hx=>q0a (q0a H1.out H2.out.bel) (q0a H4a.out.2.2.2.2 hx)⟩
 have HR4:Box (∀x,Below x4.heap.size x4 x->x.rangeAt S 0 (K.map (Value.int .u8))/\x.cell? ⟨S+1,0,none⟩=some (.int .u64 (s.start:Int))):=⟨fun x hx=>by
  have:=(HX.out x (HB4.out x hx)).1
  exact ⟨this.1,this.2.2.1⟩⟩
 have HJN:Box (∀x,Below x4.heap.size x4 x->Calls Tryz.prog 8 #[.pointer (some ⟨D,0,none⟩),.agg AK,.int .i64 1,.int .i64 (k:Int),.agg S2,.int .u64 1,.int .u64 1099511627776] x fun e w'=>∃J,e=.returned (.tuple #[.pointer (some ⟨J,0,none⟩),.int .i64 0])/\JC x1 w' J D fp2 ⟨K,1,k,⟨st,0,z32⟩,1,1099511627776⟩ dz/\Below x.heap.size x w'):=⟨fun x hx=>by
  have hx1:=HX.out x1 H1.out
  have hkk:=HKk.out
  have:=z0x (H4a.out.2.2.1.step hx) K HKI.out.2.2 1 k (by omega) (by rw [HD0.out.2.1];omega) (by rw [HD0.out.2.1];omega) ⟨st,0,z32⟩ HOs.out (by have:=HST.out.1;simp [may,this]) 1 1099511627776 (by omega) ⟨by omega,by omega⟩ hx1.2.1 hx1.2.2.1
  rw [HAK.out,HS2.out] at this
  exact this.mono fun e w' ⟨J,h1,h2,h3,_⟩=>⟨J,h1,h2,h3⟩⟩
 have hm1:((s.start:Int)).tmod (k:Int)=(st:Int):=by rw [<-HST.out.2];rfl
 have hm2:((s.start:Int))%(k:Int)=(st:Int):=by rw [<-HST.out.2];rfl
 have hm3:IntKind.u64.wrap (k:Int)=(k:Int):=by have:=HKk.out;rw [IntKind.wrap_u64];omega
 have hm4:((k:Int)==0)=false:=by have:=HKk.out;simp;omega
 have hm5:(k:Int)≠0:=by have:=HKk.out;omega
 have hm6:¬k=0:=by have:=HKk.out;omega
 refine q1g (S:=fun x=>Below x4.heap.size x4 x) (by kernel_rfl) (fun wd hwd=>?_)
 have hS:Below x4.heap.size x4 wd:=by rw [hwd];exact (Below.refl _ _).drew
 clear hwd
 refine take_y (i:=0) rfl hS ?_
 try simp only [Act.put,pC,pD,pE,pF,pG]
 refine take_x (i:=1) (v:=.agg AK) rfl (fun w' hLat=>(by rw [<-HKI.out.2.1];exact q0k 23 _ (.tmp 8) rfl Tryz.underlying23 rfl S 0 rfl (K.map (Value.int .u8)) HKI.out.1 (HR4.out w' hLat |>.1))) hS ?_
 try simp only [Act.put,pC,pD,pE,pF,pG,pH]
 refine take_y (i:=2) rfl hS ?_
 try simp only [Act.put,pC,pD,pE,pF,pG,pH]
 refine take_y (i:=3) rfl hS ?_
 try simp only [Act.put,pC,pD,pE,pF,pG,pH]
 refine take_x (i:=4) (v:=.int .u64 (s.start:Int)) rfl (fun w' hLat=>q0w 25 _ (.tmp 68) rfl Tryz.underlying25 rfl ⟨S+1,0,none⟩ rfl _ (HR4.out w' hLat).2) hS ?_
 try simp only [Act.put,pC,pD,pE,pF,pG,pH]
 refine take_y (i:=5) rfl hS ?_
 try simp only [Act.put,pC,pD,pE,pF,pG,pH]
 refine take_y (i:=6) rfl hS ?_
 try simp only [Act.put,pC,pD,pE,pF,pG,pH]
 refine take_y (i:=7) rfl hS ?_
 try simp only [Act.put,pC,pD,pE,pF,pG,pH]
 refine take_x (i:=8) (v:=.agg S2) rfl (fun w' hLat=>q0n 27 [(0,.tmp 72)] rfl [(0,.int .u64 (st:Int))] rfl S2 (by rw [<-HS2.out];exact built_St1 st)) hS ?_
 try simp only [Act.put,pC,pD,pE,pF,pG,pH]
 refine q0m (i:=9) (by kernel_rfl) ?_
 refine q0d rfl (by rfl) ?_
 go_simp
 refine Calls.mono (HJN.out _ hS) ?_
 rintro e x5 ⟨J,rfl,hc,hb⟩
 have hS:=q0a hS hb
 have H5:Box (JC x1 x5 J D fp2 ⟨K,1,k,⟨st,0,z32⟩,1,1099511627776⟩ dz):=⟨hc⟩
 clear hb hc
 refine ⟨hS,?_⟩
 try simp only [Act.put,pC,pD,pE,pF,pG,pH]
 refine take_y (i:=10) rfl hS ?_
 try simp only [Act.put,pC,pD,pE,pF,pG,pH]
 refine take_y (i:=11) rfl hS ?_
 try simp only [Act.put,pC,pD,pE,pF,pG,pH]
 refine take_y (i:=12) rfl hS ?_
 try simp only [Act.put,pC,pD,pE,pF,pG,pH]
 refine take_y (i:=13) rfl hS ?_
 try simp only [Act.put,pC,pD,pE,pF,pG,pH]
 refine take_y (i:=14) rfl hS ?_
 try simp only [Act.put,pC,pD,pE,pF,pG,pH]
 refine wpAnyH_done (by kernel_rfl) ?_ _
 have H5b:Box (Below x4.heap.size x4 x5):=⟨hS⟩
 clear hS HJN
 obtain ⟨RQ,hRQ⟩:=nm (rq K 1 (k:Int) ⟨st,0,z32⟩ 1 1099511627776)
 have HRN:Box (∀x,Calls Tryz.prog 9 #[.int .i64 12,.agg AK,.int .i64 1,.int .i64 (k:Int),.agg S2,.int .u64 1,.int .u64 1099511627776] x fun e w'=>e=.returned (.tuple #[.agg RQ.toArray,.int .i64 0])/\Below x.heap.size x w'):=⟨fun x=>by
  have hkk:=HKk.out
  have:=q8r 12 1 k (by omega) (by omega) (by omega) K HKI.out.2.2.1 ⟨st,0,z32⟩ HOs.out HST.out.1 (Nat.zero_le _) 1 1099511627776 (by omega) ⟨by omega,by omega⟩ x
  rw [HAK.out,HS2.out] at this
  rw [<-hRQ]
  exact this⟩
 have lRQ:RQ.length=70:=by rw [<-hRQ];exact q1u _ _ _ _ _ _ HKI.out.2.2.1 HOs.out
 have HRQ:Box (rq K 1 (k:Int) ⟨st,0,z32⟩ 1 1099511627776=RQ/\RQ.length=70/\(Tryz.prog.info? 44).map (·.size)=some RQ.toArray.size/\ZJ.size=RQ.toArray.size/\RQ.toArray.all (·.oneCell')=true):=⟨hRQ,lRQ,by rw [List.size_toArray,lRQ];exact infoRj,by rw [HZJ.out.2,List.size_toArray,lRQ],by rw [<-hRQ];exact q4y _ _ _ _ _ _⟩
 have HBS:Box (Tryz.prog.built 42 [(0,.int .u64 (st:Int))]=some S2):=⟨by rw [<-HS2.out];exact built_S1x st⟩
 clear hRQ lRQ
 go_upto_region 10 with fail
 rename_i K10 hK10
 refine q1g (S:=fun x=>Below x5.heap.size x5 x) (by kernel_rfl) (fun wd hwd=>?_)
 have hS:Below x5.heap.size x5 wd:=by rw [hwd];exact (Below.refl _ _).drew
 clear hwd
 refine take_x (i:=0) (v:=.agg AK) rfl (fun w' hLat=>(by rw [<-HKI.out.2.1];exact q0k 23 _ (.tmp 8) rfl Tryz.underlying23 rfl S 0 rfl (K.map (Value.int .u8)) HKI.out.1 (HR4.out w' (q0a H5b.out hLat) |>.1))) hS ?_
 try simp only [Act.put,pC,pD,pE,pF,pG]
 refine take_y (i:=1) rfl hS ?_
 try simp only [Act.put,pC,pD,pE,pF,pG,pH]
 refine take_y (i:=2) rfl hS ?_
 try simp only [Act.put,pC,pD,pE,pF,pG,pH]
 refine take_x (i:=3) (v:=.int .u64 (s.start:Int)) rfl (fun w' hLat=>q0w 25 _ (.tmp 80) rfl Tryz.underlying25 rfl ⟨S+1,0,none⟩ rfl _ (HR4.out w' (q0a H5b.out hLat)).2) hS ?_
 try simp only [Act.put,pC,pD,pE,pF,pG,pH]
 refine take_y (i:=4) rfl hS ?_
 try simp only [Act.put,pC,pD,pE,pF,pG,pH]
 refine take_y (i:=5) rfl hS ?_
 try simp only [Act.put,pC,pD,pE,pF,pG,pH]
 refine take_y (i:=6) rfl hS ?_
 try simp only [Act.put,pC,pD,pE,pF,pG,pH]
 refine take_x (i:=7) (v:=.agg S2) rfl (fun w' hLat=>q0n 42 [(0,.tmp 84)] rfl [(0,.int .u64 (st:Int))] rfl S2 HBS.out) hS ?_
 try simp only [Act.put,pC,pD,pE,pF,pG,pH]
 refine dag_in2 (fun G hG A0 hA0=>?_)
 have HRest:Box (∀(Bw:Nat) (z:World),Below x5.heap.size x5 z->z.heap[Bw]?=some (.cells RQ.toArray 44 (0,0))->x5.heap.size<=Bw->K10 (((((((A0.put (some 86) (Value.tuple #[Value.agg RQ.toArray,Value.int IntKind.i64 0])).put (some 77) (Value.tuple #[Value.agg RQ.toArray,Value.int IntKind.i64 0])).put (some 87) (Value.agg RQ.toArray)).put (some 88) (Value.int IntKind.i64 0))).put (some 25) (Value.pointer (some {block:=Bw,off:=0}))).put (some 26) (Value.int IntKind.i64 0)) z):=⟨by
  intro Bw x7 hb7 hw7 hlo
  refine hK10 _ _ ?_
  rw [hA0]
  simp only [Act.put,pC,pD,pE]
  clear hG hA0 hK10 hS
  have H7:Box (Below x5.heap.size x5 x7/\x7.heap[Bw]?=some (.cells RQ.toArray 44 (0,0))/\x5.heap.size<=Bw):=⟨hb7,hw7,hlo⟩
  clear hb7 hw7 hlo
  obtain ⟨j0,hj0⟩:∃j0:Jt,(⟨K,1,k,⟨st,0,z32⟩,1,1099511627776⟩:Jt)=j0:=⟨_,rfl⟩
  have HL0:Box (Lm x1 x7 J D Bm Bw K k 0 fp2 j0 dz rz V):=⟨by
   have hb:=q0a H5b.out H7.out.1
   have hd:=HD0.out
   refine ⟨by rw [<-hj0];exact H5.out.below H7.out.1,H4a.out.1.below hb,(hb.block _ (gE H4a.out.2.1)).trans H4a.out.2.1,by rw [<-hj0];show _=some (Obj.cells (rq K 1 (k:Int) ⟨st,0,z32⟩ 1 1099511627776).toArray _ _);rw [HRQ.out.1];exact H7.out.2.1,⟨by have:=H4a.out.2.2.2.1;have:=(H2.out.bel).size;omega,by have:=H7.out.2.2;have:=H5b.out.size;have:=H4a.out.2.2.2.2.size;have:=H2.out.bel.size;omega⟩,⟨by rw [<-hj0],by rw [<-hj0],by rw [<-hj0],by rw [<-hj0],by rw [<-hj0];show (1:Int)<=_;omega,hd.1,hd.2.1,by rw [hd.2.2.1];exact Nat.zero_le _,by rw [hd.2.2.2.1];exact Nat.zero_le _,by rw [hd.2.2.2.2.1];omega⟩,hd.2.2.2.2.2⟩⟩
  have HW1:Box (Below w1.heap.size w1 x1):=⟨H1.out⟩
  have HZZ:Box (((Tryz.prog.info? 36).map (·.zero)=some (some (.agg ZD))/\ZD.size=6)/\((Tryz.prog.info? 44).map (·.zero)=some (some (.agg ZJ))/\ZJ.size=70)):=⟨HZD.out,HZJ.out⟩
  clear hj0 H1 H2 H4a H5 H5b H7 HRN HRQ HBS HR4 HB4 HOs HS2 HD0 hm1 hm2 hm3 hm4 hm5 hm6 HZD HZJ HVl HST
  go_upto_region 14 with fail
  go_loopw [27] (fun iv wr=>∃(i:Nat) (fp:Nat->Prop) (j:Jt) (d:Disk.Dk) (r:Disk.Rd) (V:List Value),i<=n/\iv=.int .i64 (i:Int)/\Box (Lm x1 wr J D Bm Bw K k i fp j d r V)) (fun iv _=>n-(intOf iv).toNat)
  case atStart=>exact ⟨0,fp2,_,dz,rz,V,Nat.zero_le _,rfl,HL0⟩
  case round=>
   clear HL0
   obtain ⟨i,fp0,j,d,r,V,hi,rfl,HG0⟩:=hrel
   obtain ⟨fp,hG,hF⟩:=HG0.out.foot
   have HG:Box (Lm x1 wr J D Bm Bw K k i fp j d r V):=⟨hG⟩
   have HFt:Box (∀(k:Nat) (cs:Array Value) (t:TypeId) (fr:Nat × Nat),wr.heap[k]?=some (.cells cs t fr)->¬Disk.Own4 t->¬fp k):=⟨hF⟩
   clear HG0 hG hF
   have hbw:Below w1.heap.size w1 wr:=q0a HW1.out HG.out.jc.cx.bel
   have hxw:=HX.out wr hbw
   have HBW:Box (Below w.heap.size w wr):=⟨hxw.2.2.2.2⟩
   by_cases hlt:i<n
   ·have hlt1:decide ((i:Int)<(n:Int))=true:=by simp;omega
    have hkC:i<C.length:=by rw [HLN.out.1];exact hlt
    have HK:Box (i<n/\n<=6):=⟨hlt,HLN.out.2⟩
    have HIo:=hxw.2.2.2.1
    obtain ⟨b,o,hae,hbl,hr⟩:=HIo.tb (by omega)
    subst hae
    have hrk:=hr i hkC
    obtain ⟨hcl,hcI,hcm⟩:=HIo.im C[i] (List.getElem_mem hkC)
    obtain ⟨⟨ca,cl,cc,CM⟩,hx⟩:∃c,C[i]=c:=⟨_,rfl⟩
    rw [hx] at hrk hcl hcI hcm
    dsimp only at hcl hcI hcm
    have c0:wr.cell? ⟨b,o+i,none⟩=some (.slice ca cl cc):=by have:=hrk 0 _ rfl;rwa [Nat.mul_one,Nat.add_zero] at this
    unfold maxLen at hcm
    by_cases h4:cl<=6
    ·have hd4:decide ((6:Int)<(cl:Int))=false:=by simp;omega
     have hd5:¬(6:Int)<(cl:Int):=by omega
     have HCL:Box (cl<=6):=⟨h4⟩
     have HIM:Box (Calls Tryz.prog 10 #[.slice ca cl cc,.bool false] wr fun e w'=>∃a1 c1 XI,e=.returned (.slice a1 cl c1)/\XI.length=cl/\OImgs w' wr.heap.size (.slice a1 XI.length c1) XI/\(∀x∈XI.map pl,x.2.length=160/\Byt x.2/\N64 x.1)/\(∀m∈XI,m.bl<=100000)/\Below wr.heap.size wr w'):=⟨by
      have:=z7v ca cc CM false wr hcI (by omega)
      rw [hcl] at this
      refine this.mono ?_
      rintro e w' ⟨v,XI,rfl,hig⟩
      have hlX:XI.length=cl:=hig.len
      have hig2:Ig wr w' false CM CM.length v XI:=by rw [hcl];exact hig
      have hB:∀m∈CM,Byt m.bs:=fun m hm=>(hcI.byt m hm).1.2.1
      obtain ⟨a1,c1,rfl⟩:=q0l hig.im.row
      refine ⟨a1,c1,XI,by rw [hlX],hlX,hig.im,img_okL hig2 hB,fun m hm=>by rw [img_blL hig2 hB m hm];omega,hig.bel⟩⟩
     clear hx hrk hcI HIo hr hbl h4 hcl hbw hxw
     go_upto_region 19 with (first
      | (refine atIdx 24 ?_;refine q0b rfl _ _ (q0p 24 47 Tryz.underlying24 1 infoSlz2 _ _ rfl b o n cap i rfl rfl HK.out.1) ?_;(try rw [Nat.mul_one]))
      | (go_at_call 10;refine HIM.out.mono ?_;rintro e x3 ⟨xa,xc,XI,rfl,q1,q2,q3,q4,q5⟩;have H3:Box (XI.length=cl/\OImgs x3 wr.heap.size (.slice xa XI.length xc) XI/\(∀x∈XI.map pl,x.2.length=160/\Byt x.2/\N64 x.1)/\(∀m∈XI,m.bl<=100000)/\Below wr.heap.size wr x3):=⟨q1,q2,q3,q4,q5⟩;clear q1 q2 q3 q4 q5))
     clear HIM c0
     have HL3:Box (Lm x1 x3 J D Bm Bw K k i fp j d r V):=⟨HG.out.below H3.out.2.2.2.2⟩
     obtain ⟨fp3,hL3,hF3⟩:=HL3.out.foot
     obtain ⟨P,hP⟩:=nm (XI.map pl)
     have HP:Box (XI.map pl=P/\P.length=cl):=⟨hP,by rw [<-hP,List.length_map];exact H3.out.1⟩
     have h3all:=H3.out.2.2.1
     rw [hP] at h3all
     obtain ⟨Y,hY,hApF,hRA⟩:=ap_both sealOk HG.out.hj j HG.out.jc.ok HG.out.ln.up (by have:=HG.out.jc.fit;exact this) P (by rw [HP.out.2];have:=HCL.out;omega) h3all (by rw [HP.out.2];have:=HCL.out;have:=HK.out;omega) (by rw [HP.out.2,HG.out.ln.lim];have:=HG.out.ln.nx;have:=HCL.out;have:=HK.out;omega)
     rw [HP.out.2] at hRA hApF
     have HAP:Box (Calls Tryz.prog 11 #[.pointer (some ⟨J,0,none⟩),.slice xa cl xc] x3 fun e w'=>ApV x1 x3 J D fp3 j Y e w'):=⟨by
      have hl:=HG.out.ln
      have:=z6a hL3.jc xa xc XI H3.out.2.1.imgs (by rw [H3.out.1];have:=HCL.out;omega) H3.out.2.2.2.1 hl.left (by have:=hl.ops;have:=HK.out;omega) (by have:=hl.uw;have:=HK.out;omega)
      rw [H3.out.1,hP,hY] at this
      exact this⟩
     obtain ⟨y1,y2,y3,y4⟩:=Y
     have hLn:=HG.out.ln.next hApF HCL.out
     dsimp only at hApF hRA hLn
     have HY:Box (OkS y4/\(y3=0->y4.start=j.st.start/\y4.count<=j.size)/\Ln K k (i+1) {j with nx:=y2} y1):=⟨hApF.okS,hApF.st,hLn⟩
     obtain ⟨SY,HSY⟩:∃A,Box (sa y4=A):=⟨_,⟨rfl⟩⟩
     obtain ⟨J2,hJ2⟩:=nm (rq j.key (j.first:Int) (j.size:Int) j.st y2 j.lim)
     obtain ⟨J1,hJ1⟩:=nm (rq j.key (j.first:Int) (j.size:Int) j.st j.nx j.lim)
     have lJ2:J2.length=70:=by rw [<-hJ2];exact q1u _ _ _ _ _ _ HG.out.jc.ok.key HG.out.jc.ok.st
     have lJ1:J1.length=70:=by rw [<-hJ1];exact q1u _ _ _ _ _ _ HG.out.jc.ok.key HG.out.jc.ok.st
     have HJJ:Box (rq j.key (j.first:Int) (j.size:Int) j.st y2 j.lim=J2/\rq j.key (j.first:Int) (j.size:Int) j.st j.nx j.lim=J1/\J2.length=70/\J1.length=70/\J2.toArray.all (·.oneCell')=true):=⟨hJ2,hJ1,lJ2,lJ1,by rw [<-hJ2];exact q4y _ _ _ _ _ _⟩
     rw [hJ1,hJ2,HSY.out] at hRA
     have HRA:Box (∀(x:World) (v:Value) (a:Option Addr) (cap:Nat),Disk.Rv x v r->Tb x a 2 ic P->Calls Tryz.prog 12 #[v,.agg J1.toArray,.slice a cl cap] x fun e z=>∃v' r',e=.returned (.tuple #[v',.agg J2.toArray,.agg SY,.int .i64 y3])/\Disk.Rv z v' r'/\Disk.J (6*i+cl) y1 r'/\Below x.heap.size x z):=⟨hRA⟩
     have HIS:Box ((Tryz.prog.info? 27).map (·.size)=some SY.size/\(sa zs).size=SY.size/\SY.all (·.oneCell')=true/\(Tryz.prog.info? 27).map (·.size)=some (scs y4).length/\(scs y4).toArray=SY/\(Tryz.prog.info? 42).map (·.size)=some SY.size/\(Tryz.prog.info? 42).map (·.size)=some (scs y4).length):=⟨by rw [<-HSY.out,q1b HY.out.1];exact infoSt,by rw [<-HSY.out,q1b HY.out.1,q1b q1f],by rw [<-HSY.out];exact q3z y4,by rw [q0u HY.out.1];exact infoSt,by rw [<-HSY.out];rfl,by rw [<-HSY.out,q1b HY.out.1];exact infoS13,by rw [q0u HY.out.1];exact infoS13⟩
     have HA2:Box (Calls Tryz.prog 11 #[.pointer (some ⟨J,0,none⟩),.slice xa cl xc] x3 fun e w'=>e=.returned (.tuple #[.agg SY,.int .i64 y3])/\∃fp',JC x1 w' J D fp' {j with nx:=y2} y1/\(Disk.Rv w' (.agg V.toArray) r/\w'.heap[Bm]?=some (.cells V.toArray 36 (0,0))/\w'.heap[Bw]?=some (.cells J1.toArray 44 (0,0)))/\OImgs w' wr.heap.size (.slice xa XI.length xc) XI/\x3.heap.size<=w'.heap.size):=⟨by
      refine HAP.out.mono ?_
      rintro e w' ⟨fp',q1,q2,q3⟩
      have hq:=hL3.fw hF3 q3
      rw [hJ1] at hq
      exact ⟨by rw [q1,HSY.out],fp',q2,hq,z7d hL3.jc.row hF3 q3 H3.out.2.1,q3.size⟩⟩
     clear HAP hApF hLn hRA hY hJ1 hJ2 lJ1 lJ2 h3all hP hL3 hF3
     go_upto_region 20 with (first
      | (go_at_call 11;refine HA2.out.mono ?_;rintro e x4 ⟨rfl,fp4,q1,q2,q3,q4⟩;have H4:Box (JC x1 x4 J D fp4 {j with nx:=y2} y1/\(Disk.Rv x4 (.agg V.toArray) r/\x4.heap[Bm]?=some (.cells V.toArray 36 (0,0))/\x4.heap[Bw]?=some (.cells J1.toArray 44 (0,0)))/\OImgs x4 wr.heap.size (.slice xa XI.length xc) XI):=⟨q1,q2,q3⟩;clear q1 q2 q3 q4)
      | (refine atAlloc _ ?_;refine q0b rfl _ _ (q0e 27 rfl _ zeroSt) ?_)
      | (refine atStore _ ?_;refine q0o x4 (sa zs) SY HIS.out.1 HIS.out.2.1 HIS.out.2.2.1 rfl _ _ rfl rfl rfl rfl ?_;intro x5 h5 hb5;have H5:Box (x5.heap[x4.heap.size]?=some (.cells SY 27 (0,0))/\Below x4.heap.size x4 x5):=⟨h5,hb5⟩;clear h5 hb5))
     obtain ⟨Bt,hBt⟩:=nm x4.heap.size
     (try simp only [hBt])
     have H6:Box (JC x1 x5 J D fp4 {j with nx:=y2} y1/\(Disk.Rv x5 (.agg V.toArray) r/\x5.heap[Bm]?=some (.cells V.toArray 36 (0,0))/\x5.heap[Bw]?=some (.cells J1.toArray 44 (0,0)))/\OImgs x5 wr.heap.size (.slice xa XI.length xc) XI/\x5.heap[Bt]?=some (.cells SY 27 (0,0))):=⟨by
      have hb:=H5.out.2
      have h4:=H4.out
      exact ⟨h4.1.below hb,⟨h4.2.1.1.below hb,(hb.block _ (gE h4.2.1.2.1)).trans h4.2.1.2.1,(hb.block _ (gE h4.2.1.2.2)).trans h4.2.1.2.2⟩,h4.2.2.same (fun q _ hq=>hb.block q hq),by rw [<-hBt];exact H5.out.1⟩⟩
     have HlO:Box (x1.heap.size<=Bm/\x1.heap.size<=Bw):=⟨HG.out.lo⟩
     have HV6:Box (V.length=6/\(Tryz.prog.info? 36).map (·.size)=some V.length/\(Tryz.prog.info? 44).map (·.size)=some J1.length):=⟨q6d H6.out.2.1.1,by rw [q6d H6.out.2.1.1];exact Disk.infoD,by rw [HJJ.out.2.2.2.1];exact infoRj⟩
     clear hBt HA2 H4 H5 HG HFt hlt1 hd4 hd5
     have HMo:Box (∀y,Below x5.heap.size x5 y->Calls Tryz.prog 13 #[.slice xa cl xc] y fun e z=>∃ma mc,e=.returned (.slice ma cl mc)/\Tb z ma 2 ic P/\Below y.heap.size y z):=⟨fun y hy=>by
      have ho:OImgs y wr.heap.size (.slice xa XI.length xc) XI:=H6.out.2.2.1.same (fun q _ hq=>hy.block q hq)
      have:=q8p xa xc XI y ho.imgs (by rw [H3.out.1];have:=HCL.out;omega)
      rw [H3.out.1] at this
      refine this.mono ?_
      rintro e z ⟨v,rfl,hm⟩
      have hrow:=hm.row
      rw [List.take_of_length_le (by rw [List.length_map,H3.out.1];exact Nat.le_refl _),HP.out.1] at hrow
      obtain ⟨ma,mc,rfl⟩:=q0l hrow
      exact ⟨ma,mc,rfl,q6f (fun _=>rfl) hrow HP.out.2,hm.bel⟩⟩
     have HRo:Box (∀y ma mc,Below x5.heap.size x5 y->Tb y ma 2 ic P->Calls Tryz.prog 12 #[.agg V.toArray,.agg J1.toArray,.slice ma cl mc] y fun e z=>∃(V2:List Value) (r2:Disk.Rd),e=.returned (.tuple #[.agg V2.toArray,.agg J2.toArray,.agg SY,.int .i64 y3])/\Disk.Rv z (.agg V2.toArray) r2/\(Disk.J (6*i+cl) y1 r2/\V2.length=6/\V2.toArray.all (·.oneCell')=true)/\Below y.heap.size y z):=⟨fun y ma mc hy hT=>by
      refine (HRA.out y _ ma mc (H6.out.2.1.1.below hy) hT).mono ?_
      rintro e z ⟨v',r',rfl,hv,hj,hb⟩
      obtain ⟨V2,rfl,l2,a2⟩:=q3k hv
      exact ⟨V2,r',rfl,hv,⟨hj,l2,a2⟩,hb⟩⟩
     have HRg:Box (∀y,Below x5.heap.size x5 y->y.rangeAt Bm 0 V/\y.rangeAt Bw 0 J1):=⟨fun y hy=>⟨q0q ((hy.block _ (gE H6.out.2.1.2.1)).trans H6.out.2.1.2.1),q0q ((hy.block _ (gE H6.out.2.1.2.2)).trans H6.out.2.1.2.2)⟩⟩
     rename_i K20 hK20
     refine q1g (S:=fun x=>Below x5.heap.size x5 x) (by kernel_rfl) (fun wd hwd=>?_)
     have hS:Below x5.heap.size x5 wd:=by rw [hwd];exact (Below.refl _ _).drew
     clear hwd
     refine take_x (i:=0) (v:=.agg V.toArray) rfl (fun w' hLat=>q0k 36 _ (.tmp 21) rfl Tryz.underlying36 rfl Bm 0 rfl V HV6.out.2.1 ((HRg.out w' hLat).1)) hS ?_
     try simp only [Act.put,pC,pD,pE,pF,pG]
     refine take_x (i:=1) (v:=.agg J1.toArray) rfl (fun w' hLat=>q0k 44 _ (.tmp 25) rfl Tryz.underlying44 rfl Bw 0 rfl J1 HV6.out.2.2 ((HRg.out w' hLat).2)) hS ?_
     try simp only [Act.put,pC,pD,pE,pF,pG,pH]
     refine take_y (i:=2) rfl hS ?_
     try simp only [Act.put,pC,pD,pE,pF,pG,pH]
     refine dag_in3 (fun G hG L0 hA0=>?_)
     have HR20:Box (∀(ma:Option Addr) (mc:Nat) (V2:List Value) (r2:Disk.Rd) (b31 b32 b33:Nat) (z:World),Below x5.heap.size x5 z->Disk.Rv z (.agg V2.toArray) r2->(Disk.J (6*i+cl) y1 r2/\V2.length=6/\V2.toArray.all (·.oneCell')=true)->z.heap[b31]?=some (.cells V2.toArray 36 (0,0))->z.heap[b32]?=some (.cells J2.toArray 44 (0,0))->z.heap[b33]?=some (.cells SY 42 (0,0))->x5.heap.size<=b31->x5.heap.size<=b32->x5.heap.size<=b33->K20 {tmps:=(((((((((((L0.set 118 (Value.slice ma cl mc)).set 119 (Value.tuple #[Value.agg V2.toArray,Value.agg J2.toArray,Value.agg SY,Value.int IntKind.i64 y3])).set 114 (Value.tuple #[Value.agg V2.toArray,Value.agg J2.toArray,Value.agg SY,Value.int IntKind.i64 y3])).set 120 (Value.agg V2.toArray)).set 121 (Value.agg J2.toArray)).set 122 (Value.agg SY)).set 123 (Value.int IntKind.i64 y3)).set 31 (Value.pointer (some {block:=b31,off:=0}))).set 32 (Value.pointer (some {block:=b32,off:=0}))).set 33 (Value.pointer (some {block:=b33,off:=0}))).set 34 (Value.int IntKind.i64 y3)).toArray,defers:=[]} z):=⟨by
      intro ma mc V2 r2 b31 b32 b33 z hbz hrv hQ k31 k32 k33 g31 g32 g33
      refine hK20 _ _ ?_
      rw [hA0]
      simp only [pD,pE]
      clear hG hA0 hK20 hS HMo HRo HRA
      obtain ⟨fp5,c5,hf5⟩:=(H6.out.1.below hbz).foot
      have b1:=(hbz.block Bm (gE H6.out.2.1.2.1)).trans H6.out.2.1.2.1
      have b2:=(hbz.block Bw (gE H6.out.2.1.2.2)).trans H6.out.2.1.2.2
      have b3:=(hbz.block Bt (gE H6.out.2.2.2)).trans H6.out.2.2.2
      have hj6:Disk.J (6*(i+1)) y1 r2:=by
       have q:=hQ.1
       have hc:=HCL.out
       exact ⟨q.n,q.pl,q.way,q.down,q.st,q.no,q.lo,q.ops,by have:=q.l1;omega,by have:=q.l2;omega⟩
      have nBw:Bm≠Bw:=q1p b1 b2 (by decide)
      have nBt:Bt≠Bm:=q1p b3 b1 (by decide)
      have nBt2:Bt≠Bw:=q1p b3 b2 (by decide)
      have nb2:b32≠Bm:=q1p k32 b1 (by decide)
      have n33:b33≠Bm:=q1p k33 b1 (by decide)
      have n33w:b33≠Bw:=q1p k33 b2 (by decide)
      have HLM:Box (Lm x1 ((z.setRow Bm V2.toArray).setRow Bw J2.toArray) J D Bm Bw K k (i+1) fp5 {j with nx:=y2} y1 r2 V2):=⟨Lm.put c5 hf5 hrv b1 b2 HlO.out HY.out.2.2 hj6 J2 HJJ.out.1⟩
      have B1:=q0s z Bm V2.toArray
      have B2:=q0s (z.setRow Bm V2.toArray) Bw J2.toArray
      have lt:=fun {q:Nat} {c:Array Value} {t:TypeId} {f:Nat × Nat} (h:z.heap[q]?=some (.cells c t f))=>(gE h)
      have HZ1:Box (z.rangeAt b31 0 V2/\z.heap[Bm]?=some (.cells V.toArray 36 (0,0))/\(z.setRow Bm V2.toArray).rangeAt b32 0 J2/\(z.setRow Bm V2.toArray).heap[Bw]?=some (.cells J1.toArray 44 (0,0))):=⟨q0q k31,b1,q0q ((B1.block b32 (lt k32) nb2).trans k32),(B1.block Bw (lt b2) (Ne.symm nBw)).trans b2⟩
      have HZ2:Box (((z.setRow Bm V2.toArray).setRow Bw J2.toArray).heap[Bt]?=some (.cells SY 27 (0,0))/\((z.setRow Bm V2.toArray).setRow Bw J2.toArray).heap[b33]?=some (.cells SY 42 (0,0))):=⟨(B2.block Bt (Nat.lt_of_lt_of_le (lt b3) B1.size) nBt2).trans ((B1.block Bt (lt b3) nBt).trans b3),(B2.block b33 (Nat.lt_of_lt_of_le (lt k33) B1.size) n33w).trans ((B1.block b33 (lt k33) n33).trans k33)⟩
      have HI:Box ((Tryz.prog.info? 36).map (·.size)=some V2.length/\(Tryz.prog.info? 36).map (·.size)=some V2.toArray.size/\V.toArray.size=V2.toArray.size/\V2.toArray.all (·.oneCell')=true):=⟨by rw [hQ.2.1];exact Disk.infoD,by rw [List.size_toArray,hQ.2.1];exact Disk.infoD,by rw [List.size_toArray,List.size_toArray,hQ.2.1,HV6.out.1],hQ.2.2⟩
      have HI2:Box ((Tryz.prog.info? 44).map (·.size)=some J2.length/\(Tryz.prog.info? 44).map (·.size)=some J2.toArray.size/\J1.toArray.size=J2.toArray.size/\J2.toArray.all (·.oneCell')=true):=⟨by rw [HJJ.out.2.2.1];exact infoRj,by rw [List.size_toArray,HJJ.out.2.2.1];exact infoRj,by rw [List.size_toArray,List.size_toArray,HJJ.out.2.2.1,HJJ.out.2.2.2.1],HJJ.out.2.2.2.2⟩
      have hw4:IntKind.i64.wrap ((i:Int)+1)=((i+1:Nat):Int):=by have:=HK.out;rw [IntKind.wrap_i64];omega
      clear c5 hf5 b1 b2 b3 hj6 nBw nBt nBt2 nb2 n33 n33w B1 B2 lt hbz hrv hQ k31 k32 k33 g31 g32 g33 H6
      go_upto_region 25 with (first
       | (refine atLoad 36 ?_;refine q0c rfl 36 _ _ rfl Tryz.underlying36 rfl b31 0 rfl V2 HI.out.1 HZ1.out.1 ?_)
       | (refine atStore _ ?_;refine wpList_store_row rfl 36 _ _ rfl Bm V2.toArray rfl rfl 36 _ HZ1.out.2.1 HI.out.2.1 HI.out.2.2.1 HI.out.2.2.2 ?_)
       | (refine atLoad 44 ?_;refine q0c rfl 44 _ _ rfl Tryz.underlying44 rfl b32 0 rfl J2 HI2.out.1 HZ1.out.2.2.1 ?_)
       | (refine atStore _ ?_;refine wpList_store_row rfl 44 _ _ rfl Bw J2.toArray rfl rfl 44 _ HZ1.out.2.2.2 HI2.out.2.1 HI2.out.2.2.1 HI2.out.2.2.2 ?_))
      generalize (z.setRow Bm V2.toArray).setRow Bw J2.toArray=z2 at HLM HZ2 ⊢
      clear HZ1
      by_cases he:y3=0
      ·subst he
       obtain ⟨fp6,hL6,hf6⟩:=HLM.out.foot
       have hst:=HY.out.2.1 rfl
       have hAd:=hL6.ln.adp hL6.jc.ok y4 hst.1 hst.2
       have HJn:Box (adp {j with nx:=y2} y4 1099511627776={({j with nx:=y2}:Jt) with st:=y4,lim:=1099511627776}/\Ln K k (i+1) {({j with nx:=y2}:Jt) with st:=y4,lim:=1099511627776} y1):=⟨hAd.1,hAd.2⟩
       obtain ⟨J3,hJ3⟩:=nm ((rq j.key (j.first:Int) (j.size:Int) y4 y2 1099511627776))
       have lJ3:J3.length=70:=by rw [<-hJ3];exact q1u _ _ _ _ _ _ hL6.jc.ok.key HY.out.1
       have HI3:Box ((Tryz.prog.info? 44).map (·.size)=some J3.toArray.size/\J2.toArray.size=J3.toArray.size/\J3.toArray.all (·.oneCell')=true/\(rq j.key (j.first:Int) (j.size:Int) y4 y2 1099511627776)=J3):=⟨by rw [List.size_toArray,lJ3];exact infoRj,by rw [List.size_toArray,List.size_toArray,lJ3,HJJ.out.2.2.1],by rw [<-hJ3];exact q4y _ _ _ _ _ _,hJ3⟩
       have HRAd:Box (∀x:World,Calls Tryz.prog 15 #[.agg J2.toArray,.agg SY,.int .u64 1099511627776] x fun e w'=>e=.returned (.agg J3.toArray)/\Below x.heap.size x w'):=⟨fun x=>by
        have:=radopt_ok j.key hL6.jc.ok.key j.first j.size j.st y4 hL6.jc.ok.st HY.out.1 (by rw [hst.1];exact hL6.jc.ok.sl) hst.2 y2 j.lim 1099511627776 ⟨by omega,by omega⟩ x
        rw [HJJ.out.1,hJ3,HSY.out] at this
        exact this⟩
       have HAD:Box (Calls Tryz.prog 14 #[.pointer (some ⟨J,0,none⟩),.agg SY,.int .u64 1099511627776] z2 fun e w'=>e=.returned (.tuple #[])/\JC x1 w' J D fp6 {({j with nx:=y2}:Jt) with st:=y4,lim:=1099511627776} y1/\(Disk.Rv w' (.agg V2.toArray) r2/\w'.heap[Bm]?=some (.cells V2.toArray 36 (0,0))/\w'.heap[Bw]?=some (.cells J2.toArray 44 (0,0)))/\w'.heap[b33]?=some (.cells SY 42 (0,0))):=⟨by
        have:=adopt_v hL6.jc y4 HY.out.1 1099511627776 ⟨by omega,by omega⟩
        rw [HSY.out,HJn.out.1] at this
        refine this.mono ?_
        rintro e w' ⟨q1,q2,q3⟩
        have hq:=hL6.fw hf6 q3
        exact ⟨q1,q2,⟨hq.1,hq.2.1,by rw [<-HJJ.out.1];exact hq.2.2⟩,(q5r hL6.jc.row hf6 q3 HZ2.out.2 (by unfold Disk.Own4;decide) (by decide)).trans HZ2.out.2⟩⟩
       have HRt:Box (z2.rangeAt Bt 0 (scs y4)):=⟨q0q (by rw [HIS.out.2.2.2.2.1];exact HZ2.out.1)⟩
       have HJL:Box (Disk.J (6*(i+1)) y1 r2):=⟨HLM.out.hj⟩
       clear hL6 hf6 hst hAd hJ3 lJ3
       go_upto_region 27 with (first
        | (refine atLoad 27 ?_;refine q0c rfl 27 _ _ rfl Tryz.underlying27 rfl Bt 0 rfl (scs y4) HIS.out.2.2.2.1 HRt.out ?_;rw [HIS.out.2.2.2.2.1])
        | (go_at_call 14;refine HAD.out.mono ?_;rintro e z3 ⟨rfl,q1,q2,q3⟩;have H3z:Box (JC x1 z3 J D fp6 {({j with nx:=y2}:Jt) with st:=y4,lim:=1099511627776} y1/\(Disk.Rv z3 (.agg V2.toArray) r2/\z3.heap[Bm]?=some (.cells V2.toArray 36 (0,0))/\z3.heap[Bw]?=some (.cells J2.toArray 44 (0,0)))/\z3.heap[b33]?=some (.cells SY 42 (0,0))):=⟨q1,q2,q3⟩;clear q1 q2 q3))
       have HR3:Box (z3.rangeAt Bw 0 J2/\z3.rangeAt b33 0 (scs y4)):=⟨q0q H3z.out.2.1.2.2,q0q (by rw [HIS.out.2.2.2.2.1];exact H3z.out.2.2)⟩
       clear HAD HRt HLM HZ2
       go_wp2_with (first
        | (refine atLoad 44 ?_;refine q0c rfl 44 _ _ rfl Tryz.underlying44 rfl Bw 0 rfl J2 HI2.out.1 HR3.out.1 ?_)
        | (refine atLoad 42 ?_;refine q0c rfl 42 _ _ rfl Tryz.underlying42 rfl b33 0 rfl (scs y4) HIS.out.2.2.2.2.2.2 HR3.out.2 ?_;rw [HIS.out.2.2.2.2.1])
        | (go_at_call 15;refine (HRAd.out z3).mono ?_;rintro e z4 ⟨rfl,hb4⟩;have H4z:Box (z4.heap[Bw]?=some (.cells J2.toArray 44 (0,0))/\Below z3.heap.size z3 z4):=⟨(hb4.block _ (gE H3z.out.2.1.2.2)).trans H3z.out.2.1.2.2,hb4⟩;clear hb4)
        | (refine atStore _ ?_;refine wpList_store_row rfl 44 _ _ rfl Bw J3.toArray rfl rfl 44 _ H4z.out.1 HI3.out.1 HI3.out.2.1 HI3.out.2.2.1 ?_))
       obtain ⟨fp7,c7,hf7⟩:=(H3z.out.1.below H4z.out.2).foot
       have HEnd:Box (Lm x1 (z4.setRow Bw J3.toArray) J D Bm Bw K k (i+1) fp7 {({j with nx:=y2}:Jt) with st:=y4,lim:=1099511627776} y1 r2 V2):=⟨Lm.put2 c7 hf7 (H3z.out.2.1.1.below H4z.out.2) ((H4z.out.2.block _ (gE H3z.out.2.1.2.1)).trans H3z.out.2.1.2.1) H4z.out.1 HlO.out HJn.out.2 HJL.out J3 HI3.out.2.2.2⟩
       go_roundw
       case rel=>exact ⟨i+1,fp7,_,y1,r2,V2,by have:=HK.out;omega,by go_num,HEnd⟩
       case measure=>have:=HK.out;simp [intOf];omega
      ·have d1:(y3==0)=false:=by simp;omega
       go_wp2
       go_roundw
       case rel=>exact ⟨i+1,fp5,_,y1,r2,V2,by have:=HK.out;omega,by go_num,HLM⟩
       case measure=>have:=HK.out;simp [intOf];omega⟩
     have HN2_10_11_12:Box (∀ma mc (V2:List Value) r2 b31 b32 b33 (y:World),Below x5.heap.size x5 y->Disk.Rv y (.agg V2.toArray) r2->(Disk.J (6*i+cl) y1 r2/\V2.length=6/\V2.toArray.all (·.oneCell')=true)->Nb y b31 ZD 36->x5.heap.size<=b31->Nb y b32 ZJ 44->x5.heap.size<=b32->Nb y b33 (sa zs) 42->x5.heap.size<=b33->G 4 #[true,true,true,true,true,true,true,true,true,true,true,true,true,false,false,false,false] {tmps:=((((((((((L0.set 118 (Value.slice ma cl mc)).set 119 (Value.tuple #[Value.agg V2.toArray,Value.agg J2.toArray,Value.agg SY,Value.int IntKind.i64 y3])).set 114 (Value.tuple #[Value.agg V2.toArray,Value.agg J2.toArray,Value.agg SY,Value.int IntKind.i64 y3])).set 120 (Value.agg V2.toArray)).set 121 (Value.agg J2.toArray)).set 122 (Value.agg SY)).set 123 (Value.int IntKind.i64 y3)).set 31 (Value.pointer (some {block:=b31,off:=0}))).set 32 (Value.pointer (some {block:=b32,off:=0}))).set 33 (Value.pointer (some {block:=b33,off:=0}))).toArray,defers:=[]} y):=⟨by
      intro ma mc V2 r2 b31 b32 b33 y hS hA hQ n31 g31 n32 g32 n33 g33
      rw [hG,hA0]
      simp only [pD,pE]
      have h3:Box _:=⟨st33 (V2:=V2) (J2:=J2) (SY:=SY) hS n31 n32 n33 g31 g32 g33 (by rw [HZZ.out.1.2,hQ.2.1]) (by rw [HZZ.out.2.2,HJJ.out.2.2.1]) HIS.out.2.1 hA⟩
      refine q0m (i:=13) (by kernel_rfl) (q0d rfl (by rfl) ?_)
      refine wp_store_mid 36 (.tmp 31) (.tmp 120) rfl b31 0 V2.toArray rfl rfl h3.out.t1 (by rw [List.size_toArray,hQ.2.1];exact Disk.infoD) hQ.2.2 ?_
      rw [List.toList_toArray]
      refine ⟨h3.out.s1,?_⟩
      try simp only [Act.put,pF,pG,pH]
      refine q0m (i:=14) (by kernel_rfl) (q0d rfl (by rfl) ?_)
      refine wp_store_mid 44 (.tmp 32) (.tmp 121) rfl b32 0 J2.toArray rfl rfl h3.out.t2 (by rw [List.size_toArray,HJJ.out.2.2.1];exact infoRj) HJJ.out.2.2.2.2 ?_
      rw [List.toList_toArray]
      refine ⟨h3.out.s2,?_⟩
      try simp only [Act.put,pF,pG,pH]
      refine q0m (i:=15) (by kernel_rfl) (q0d rfl (by rfl) ?_)
      refine wp_store_mid 42 (.tmp 33) (.tmp 122) rfl b33 0 SY rfl rfl h3.out.t3 HIS.out.2.2.2.2.2.1 HIS.out.2.2.1 ?_
      refine ⟨h3.out.s3,?_⟩
      try simp only [Act.put,pF,pG,pH]
      refine take_y (i:=16) rfl h3.out.s3 ?_
      try simp only [Act.put,pC,pD,pE,pF,pG,pH]
      refine wpAnyH_done (by kernel_rfl) ?_ _
      show K20 _ _
      exact act_to3 (K:=K20) (by rw [hA0];kernel_rfl) (HR20.out ma mc V2 r2 b31 b32 b33 _ h3.out.s3 h3.out.rv hQ h3.out.r1 h3.out.r2 h3.out.r3 g31 g32 g33)⟩
     have HN2_10_11:Box (∀ma mc (V2:List Value) r2 b31 b32 (y:World),Below x5.heap.size x5 y->Disk.Rv y (.agg V2.toArray) r2->(Disk.J (6*i+cl) y1 r2/\V2.length=6/\V2.toArray.all (·.oneCell')=true)->Nb y b31 ZD 36->x5.heap.size<=b31->Nb y b32 ZJ 44->x5.heap.size<=b32->G 5 #[true,true,true,true,true,true,true,true,true,true,true,true,false,false,false,false,false] {tmps:=(((((((((L0.set 118 (Value.slice ma cl mc)).set 119 (Value.tuple #[Value.agg V2.toArray,Value.agg J2.toArray,Value.agg SY,Value.int IntKind.i64 y3])).set 114 (Value.tuple #[Value.agg V2.toArray,Value.agg J2.toArray,Value.agg SY,Value.int IntKind.i64 y3])).set 120 (Value.agg V2.toArray)).set 121 (Value.agg J2.toArray)).set 122 (Value.agg SY)).set 123 (Value.int IntKind.i64 y3)).set 31 (Value.pointer (some {block:=b31,off:=0}))).set 32 (Value.pointer (some {block:=b32,off:=0}))).toArray,defers:=[]} y):=⟨by
      intro ma mc V2 r2 b31 b32 y hS hA hQ n31 g31 n32 g32
      rw [hG,hA0]
      simp only [pD,pE]
      refine q0m (i:=12) (by kernel_rfl) ?_
      refine q0d rfl (by rfl) (q1n 42 rfl _ zeroS13 hS fun b33 z n33 g33 hb hS=>?_)
      try simp only [Act.put,pC,pD,pE,pF,pG,pH]
      exact q0r hG (by kernel_rfl) (by rw [hA0];kernel_rfl) (HN2_10_11_12.out ma mc V2 r2 b31 b32 b33 _ hS (hA.below hb) hQ (n31.below hb) g31 (n32.below hb) g32 n33 g33)⟩
     have HN2_10_12:Box (∀ma mc (V2:List Value) r2 b31 b33 (y:World),Below x5.heap.size x5 y->Disk.Rv y (.agg V2.toArray) r2->(Disk.J (6*i+cl) y1 r2/\V2.length=6/\V2.toArray.all (·.oneCell')=true)->Nb y b31 ZD 36->x5.heap.size<=b31->Nb y b33 (sa zs) 42->x5.heap.size<=b33->G 5 #[true,true,true,true,true,true,true,true,true,true,true,false,true,false,false,false,false] {tmps:=(((((((((L0.set 118 (Value.slice ma cl mc)).set 119 (Value.tuple #[Value.agg V2.toArray,Value.agg J2.toArray,Value.agg SY,Value.int IntKind.i64 y3])).set 114 (Value.tuple #[Value.agg V2.toArray,Value.agg J2.toArray,Value.agg SY,Value.int IntKind.i64 y3])).set 120 (Value.agg V2.toArray)).set 121 (Value.agg J2.toArray)).set 122 (Value.agg SY)).set 123 (Value.int IntKind.i64 y3)).set 31 (Value.pointer (some {block:=b31,off:=0}))).set 33 (Value.pointer (some {block:=b33,off:=0}))).toArray,defers:=[]} y):=⟨by
      intro ma mc V2 r2 b31 b33 y hS hA hQ n31 g31 n33 g33
      rw [hG,hA0]
      simp only [pD,pE]
      refine q0m (i:=11) (by kernel_rfl) ?_
      refine q0d rfl (by rfl) (q1n 44 rfl _ HZZ.out.2.1 hS fun b32 z n32 g32 hb hS=>?_)
      try simp only [Act.put,pC,pD,pE,pF,pG,pH]
      exact q0r hG (by kernel_rfl) (by rw [hA0];kernel_rfl) (HN2_10_11_12.out ma mc V2 r2 b31 b32 b33 _ hS (hA.below hb) hQ (n31.below hb) g31 n32 g32 (n33.below hb) g33)⟩
     have HN2_11_12:Box (∀ma mc (V2:List Value) r2 b32 b33 (y:World),Below x5.heap.size x5 y->Disk.Rv y (.agg V2.toArray) r2->(Disk.J (6*i+cl) y1 r2/\V2.length=6/\V2.toArray.all (·.oneCell')=true)->Nb y b32 ZJ 44->x5.heap.size<=b32->Nb y b33 (sa zs) 42->x5.heap.size<=b33->G 5 #[true,true,true,true,true,true,true,true,true,true,false,true,true,false,false,false,false] {tmps:=(((((((((L0.set 118 (Value.slice ma cl mc)).set 119 (Value.tuple #[Value.agg V2.toArray,Value.agg J2.toArray,Value.agg SY,Value.int IntKind.i64 y3])).set 114 (Value.tuple #[Value.agg V2.toArray,Value.agg J2.toArray,Value.agg SY,Value.int IntKind.i64 y3])).set 120 (Value.agg V2.toArray)).set 121 (Value.agg J2.toArray)).set 122 (Value.agg SY)).set 123 (Value.int IntKind.i64 y3)).set 32 (Value.pointer (some {block:=b32,off:=0}))).set 33 (Value.pointer (some {block:=b33,off:=0}))).toArray,defers:=[]} y):=⟨by
      intro ma mc V2 r2 b32 b33 y hS hA hQ n32 g32 n33 g33
      rw [hG,hA0]
      simp only [pD,pE]
      refine q0m (i:=10) (by kernel_rfl) ?_
      refine q0d rfl (by rfl) (q1n 36 rfl _ HZZ.out.1.1 hS fun b31 z n31 g31 hb hS=>?_)
      try simp only [Act.put,pC,pD,pE,pF,pG,pH]
      exact q0r hG (by kernel_rfl) (by rw [hA0];kernel_rfl) (HN2_10_11_12.out ma mc V2 r2 b31 b32 b33 _ hS (hA.below hb) hQ n31 g31 (n32.below hb) g32 (n33.below hb) g33)⟩
     have HN2_10:Box (∀ma mc (V2:List Value) r2 b31 (y:World),Below x5.heap.size x5 y->Disk.Rv y (.agg V2.toArray) r2->(Disk.J (6*i+cl) y1 r2/\V2.length=6/\V2.toArray.all (·.oneCell')=true)->Nb y b31 ZD 36->x5.heap.size<=b31->G 6 #[true,true,true,true,true,true,true,true,true,true,true,false,false,false,false,false,false] {tmps:=((((((((L0.set 118 (Value.slice ma cl mc)).set 119 (Value.tuple #[Value.agg V2.toArray,Value.agg J2.toArray,Value.agg SY,Value.int IntKind.i64 y3])).set 114 (Value.tuple #[Value.agg V2.toArray,Value.agg J2.toArray,Value.agg SY,Value.int IntKind.i64 y3])).set 120 (Value.agg V2.toArray)).set 121 (Value.agg J2.toArray)).set 122 (Value.agg SY)).set 123 (Value.int IntKind.i64 y3)).set 31 (Value.pointer (some {block:=b31,off:=0}))).toArray,defers:=[]} y):=⟨by
      intro ma mc V2 r2 b31 y hS hA hQ n31 g31
      rw [hG,hA0]
      simp only [pD,pE]
      refine q2d (i:=11) (j:=12) (by kernel_rfl) ?_ ?_
      ·as_aux_lemma=>
        refine q0d rfl (by rfl) (q1n 44 rfl _ HZZ.out.2.1 hS fun b32 z n32 g32 hb hS=>?_)
        try simp only [Act.put,pC,pD,pE,pF,pG,pH]
        exact q0r hG (by kernel_rfl) (by rw [hA0];kernel_rfl) (HN2_10_11.out ma mc V2 r2 b31 b32 _ hS (hA.below hb) hQ (n31.below hb) g31 n32 g32)
      ·as_aux_lemma=>
        refine q0d rfl (by rfl) (q1n 42 rfl _ zeroS13 hS fun b33 z n33 g33 hb hS=>?_)
        try simp only [Act.put,pC,pD,pE,pF,pG,pH]
        exact q0r hG (by kernel_rfl) (by rw [hA0];kernel_rfl) (HN2_10_12.out ma mc V2 r2 b31 b33 _ hS (hA.below hb) hQ (n31.below hb) g31 n33 g33)⟩
     have HN2_11:Box (∀ma mc (V2:List Value) r2 b32 (y:World),Below x5.heap.size x5 y->Disk.Rv y (.agg V2.toArray) r2->(Disk.J (6*i+cl) y1 r2/\V2.length=6/\V2.toArray.all (·.oneCell')=true)->Nb y b32 ZJ 44->x5.heap.size<=b32->G 6 #[true,true,true,true,true,true,true,true,true,true,false,true,false,false,false,false,false] {tmps:=((((((((L0.set 118 (Value.slice ma cl mc)).set 119 (Value.tuple #[Value.agg V2.toArray,Value.agg J2.toArray,Value.agg SY,Value.int IntKind.i64 y3])).set 114 (Value.tuple #[Value.agg V2.toArray,Value.agg J2.toArray,Value.agg SY,Value.int IntKind.i64 y3])).set 120 (Value.agg V2.toArray)).set 121 (Value.agg J2.toArray)).set 122 (Value.agg SY)).set 123 (Value.int IntKind.i64 y3)).set 32 (Value.pointer (some {block:=b32,off:=0}))).toArray,defers:=[]} y):=⟨by
      intro ma mc V2 r2 b32 y hS hA hQ n32 g32
      rw [hG,hA0]
      simp only [pD,pE]
      refine q2d (i:=10) (j:=12) (by kernel_rfl) ?_ ?_
      ·as_aux_lemma=>
        refine q0d rfl (by rfl) (q1n 36 rfl _ HZZ.out.1.1 hS fun b31 z n31 g31 hb hS=>?_)
        try simp only [Act.put,pC,pD,pE,pF,pG,pH]
        exact q0r hG (by kernel_rfl) (by rw [hA0];kernel_rfl) (HN2_10_11.out ma mc V2 r2 b31 b32 _ hS (hA.below hb) hQ n31 g31 (n32.below hb) g32)
      ·as_aux_lemma=>
        refine q0d rfl (by rfl) (q1n 42 rfl _ zeroS13 hS fun b33 z n33 g33 hb hS=>?_)
        try simp only [Act.put,pC,pD,pE,pF,pG,pH]
        exact q0r hG (by kernel_rfl) (by rw [hA0];kernel_rfl) (HN2_11_12.out ma mc V2 r2 b32 b33 _ hS (hA.below hb) hQ (n32.below hb) g32 n33 g33)⟩
     have HN2_12:Box (∀ma mc (V2:List Value) r2 b33 (y:World),Below x5.heap.size x5 y->Disk.Rv y (.agg V2.toArray) r2->(Disk.J (6*i+cl) y1 r2/\V2.length=6/\V2.toArray.all (·.oneCell')=true)->Nb y b33 (sa zs) 42->x5.heap.size<=b33->G 6 #[true,true,true,true,true,true,true,true,true,true,false,false,true,false,false,false,false] {tmps:=((((((((L0.set 118 (Value.slice ma cl mc)).set 119 (Value.tuple #[Value.agg V2.toArray,Value.agg J2.toArray,Value.agg SY,Value.int IntKind.i64 y3])).set 114 (Value.tuple #[Value.agg V2.toArray,Value.agg J2.toArray,Value.agg SY,Value.int IntKind.i64 y3])).set 120 (Value.agg V2.toArray)).set 121 (Value.agg J2.toArray)).set 122 (Value.agg SY)).set 123 (Value.int IntKind.i64 y3)).set 33 (Value.pointer (some {block:=b33,off:=0}))).toArray,defers:=[]} y):=⟨by
      intro ma mc V2 r2 b33 y hS hA hQ n33 g33
      rw [hG,hA0]
      simp only [pD,pE]
      refine q2d (i:=10) (j:=11) (by kernel_rfl) ?_ ?_
      ·as_aux_lemma=>
        refine q0d rfl (by rfl) (q1n 36 rfl _ HZZ.out.1.1 hS fun b31 z n31 g31 hb hS=>?_)
        try simp only [Act.put,pC,pD,pE,pF,pG,pH]
        exact q0r hG (by kernel_rfl) (by rw [hA0];kernel_rfl) (HN2_10_12.out ma mc V2 r2 b31 b33 _ hS (hA.below hb) hQ n31 g31 (n33.below hb) g33)
      ·as_aux_lemma=>
        refine q0d rfl (by rfl) (q1n 44 rfl _ HZZ.out.2.1 hS fun b32 z n32 g32 hb hS=>?_)
        try simp only [Act.put,pC,pD,pE,pF,pG,pH]
        exact q0r hG (by kernel_rfl) (by rw [hA0];kernel_rfl) (HN2_11_12.out ma mc V2 r2 b32 b33 _ hS (hA.below hb) hQ n32 g32 (n33.below hb) g33)⟩
     have HN2:Box (∀ma mc (V2:List Value) r2 (y:World),Below x5.heap.size x5 y->Disk.Rv y (.agg V2.toArray) r2->(Disk.J (6*i+cl) y1 r2/\V2.length=6/\V2.toArray.all (·.oneCell')=true)->G 7 #[true,true,true,true,true,true,true,true,true,true,false,false,false,false,false,false,false] {tmps:=(((((((L0.set 118 (Value.slice ma cl mc)).set 119 (Value.tuple #[Value.agg V2.toArray,Value.agg J2.toArray,Value.agg SY,Value.int IntKind.i64 y3])).set 114 (Value.tuple #[Value.agg V2.toArray,Value.agg J2.toArray,Value.agg SY,Value.int IntKind.i64 y3])).set 120 (Value.agg V2.toArray)).set 121 (Value.agg J2.toArray)).set 122 (Value.agg SY)).set 123 (Value.int IntKind.i64 y3)).toArray,defers:=[]} y):=⟨by
      intro ma mc V2 r2 y hS hA hQ
      rw [hG,hA0]
      simp only [pD,pE]
      refine wpAnyH_all (rs:=[10,11,12]) (by kernel_rfl) (by simp) (fun q hq=>?_)
      simp only [List.mem_cons,List.not_mem_nil,or_false] at hq
      rcases hq with rfl | rfl | rfl
      ·as_aux_lemma=>
        refine q0d rfl (by rfl) (q1n 36 rfl _ HZZ.out.1.1 hS fun b31 z n31 g31 hb hS=>?_)
        try simp only [Act.put,pC,pD,pE,pF,pG,pH]
        exact q0r hG (by kernel_rfl) (by rw [hA0];kernel_rfl) (HN2_10.out ma mc V2 r2 b31 _ hS (hA.below hb) hQ n31 g31)
      ·as_aux_lemma=>
        refine q0d rfl (by rfl) (q1n 44 rfl _ HZZ.out.2.1 hS fun b32 z n32 g32 hb hS=>?_)
        try simp only [Act.put,pC,pD,pE,pF,pG,pH]
        exact q0r hG (by kernel_rfl) (by rw [hA0];kernel_rfl) (HN2_11.out ma mc V2 r2 b32 _ hS (hA.below hb) hQ n32 g32)
      ·as_aux_lemma=>
        refine q0d rfl (by rfl) (q1n 42 rfl _ zeroS13 hS fun b33 z n33 g33 hb hS=>?_)
        try simp only [Act.put,pC,pD,pE,pF,pG,pH]
        exact q0r hG (by kernel_rfl) (by rw [hA0];kernel_rfl) (HN2_12.out ma mc V2 r2 b33 _ hS (hA.below hb) hQ n33 g33)⟩
     have HN1_10_11_12:Box (∀ma mc b31 b32 b33 (y:World),Below x5.heap.size x5 y->Tb y ma 2 ic P->Nb y b31 ZD 36->x5.heap.size<=b31->Nb y b32 ZJ 44->x5.heap.size<=b32->Nb y b33 (sa zs) 42->x5.heap.size<=b33->G 10 #[true,true,true,true,false,false,false,false,false,false,true,true,true,false,false,false,false] {tmps:=((((L0.set 118 (Value.slice ma cl mc)).set 31 (Value.pointer (some {block:=b31,off:=0}))).set 32 (Value.pointer (some {block:=b32,off:=0}))).set 33 (Value.pointer (some {block:=b33,off:=0}))).toArray,defers:=[]} y):=⟨by
      intro ma mc b31 b32 b33 y hS hT n31 g31 n32 g32 n33 g33
      rw [hG,hA0]
      simp only [pD,pE]
      refine q0m (i:=4) (by kernel_rfl) ?_
      refine q0d rfl (by rfl) ?_
      go_simp
      refine Calls.mono (HRo.out _ ma mc hS hT) ?_
      rintro e z ⟨V2,r2,rfl,hA,hQ,hb⟩
      have hS:=q0a hS hb
      have n31:=n31.below hb
      have n32:=n32.below hb
      have n33:=n33.below hb
      clear hb hT
      refine ⟨hS,?_⟩
      try simp only [Act.put,pC,pD,pE,pF,pG,pH]
      refine take_y (i:=5) rfl hS ?_
      try simp only [Act.put,pC,pD,pE,pF,pG,pH]
      refine take_y (i:=6) rfl hS ?_
      try simp only [Act.put,pC,pD,pE,pF,pG,pH]
      refine take_y (i:=7) rfl hS ?_
      try simp only [Act.put,pC,pD,pE,pF,pG,pH]
      refine take_y (i:=8) rfl hS ?_
      try simp only [Act.put,pC,pD,pE,pF,pG,pH]
      refine take_y (i:=9) rfl hS ?_
      try simp only [Act.put,pC,pD,pE,pF,pG,pH]
      exact q0r hG (by kernel_rfl) (by rw [hA0];kernel_rfl) (HN2_10_11_12.out ma mc V2 r2 b31 b32 b33 _ hS hA hQ n31 g31 n32 g32 n33 g33)⟩
     have HN1_10_11:Box (∀ma mc b31 b32 (y:World),Below x5.heap.size x5 y->Tb y ma 2 ic P->Nb y b31 ZD 36->x5.heap.size<=b31->Nb y b32 ZJ 44->x5.heap.size<=b32->G 11 #[true,true,true,true,false,false,false,false,false,false,true,true,false,false,false,false,false] {tmps:=(((L0.set 118 (Value.slice ma cl mc)).set 31 (Value.pointer (some {block:=b31,off:=0}))).set 32 (Value.pointer (some {block:=b32,off:=0}))).toArray,defers:=[]} y):=⟨by
      intro ma mc b31 b32 y hS hT n31 g31 n32 g32
      rw [hG,hA0]
      simp only [pD,pE]
      refine q2d (i:=4) (j:=12) (by kernel_rfl) ?_ ?_
      ·as_aux_lemma=>
        refine q0d rfl (by rfl) ?_
        go_simp
        refine Calls.mono (HRo.out _ ma mc hS hT) ?_
        rintro e z ⟨V2,r2,rfl,hA,hQ,hb⟩
        have hS:=q0a hS hb
        have n31:=n31.below hb
        have n32:=n32.below hb
        clear hb hT
        refine ⟨hS,?_⟩
        try simp only [Act.put,pC,pD,pE,pF,pG,pH]
        refine take_y (i:=5) rfl hS ?_
        try simp only [Act.put,pC,pD,pE,pF,pG,pH]
        refine take_y (i:=6) rfl hS ?_
        try simp only [Act.put,pC,pD,pE,pF,pG,pH]
        refine take_y (i:=7) rfl hS ?_
        try simp only [Act.put,pC,pD,pE,pF,pG,pH]
        refine take_y (i:=8) rfl hS ?_
        try simp only [Act.put,pC,pD,pE,pF,pG,pH]
        refine take_y (i:=9) rfl hS ?_
        try simp only [Act.put,pC,pD,pE,pF,pG,pH]
        exact q0r hG (by kernel_rfl) (by rw [hA0];kernel_rfl) (HN2_10_11.out ma mc V2 r2 b31 b32 _ hS hA hQ n31 g31 n32 g32)
      ·as_aux_lemma=>
        refine q0d rfl (by rfl) (q1n 42 rfl _ zeroS13 hS fun b33 z n33 g33 hb hS=>?_)
        try simp only [Act.put,pC,pD,pE,pF,pG,pH]
        exact q0r hG (by kernel_rfl) (by rw [hA0];kernel_rfl) (HN1_10_11_12.out ma mc b31 b32 b33 _ hS (hT.below hb) (n31.below hb) g31 (n32.below hb) g32 n33 g33)⟩
     have HN1_10_12:Box (∀ma mc b31 b33 (y:World),Below x5.heap.size x5 y->Tb y ma 2 ic P->Nb y b31 ZD 36->x5.heap.size<=b31->Nb y b33 (sa zs) 42->x5.heap.size<=b33->G 11 #[true,true,true,true,false,false,false,false,false,false,true,false,true,false,false,false,false] {tmps:=(((L0.set 118 (Value.slice ma cl mc)).set 31 (Value.pointer (some {block:=b31,off:=0}))).set 33 (Value.pointer (some {block:=b33,off:=0}))).toArray,defers:=[]} y):=⟨by
      intro ma mc b31 b33 y hS hT n31 g31 n33 g33
      rw [hG,hA0]
      simp only [pD,pE]
      refine q2d (i:=4) (j:=11) (by kernel_rfl) ?_ ?_
      ·as_aux_lemma=>
        refine q0d rfl (by rfl) ?_
        go_simp
        refine Calls.mono (HRo.out _ ma mc hS hT) ?_
        rintro e z ⟨V2,r2,rfl,hA,hQ,hb⟩
        have hS:=q0a hS hb
        have n31:=n31.below hb
        have n33:=n33.below hb
        clear hb hT
        refine ⟨hS,?_⟩
        try simp only [Act.put,pC,pD,pE,pF,pG,pH]
        refine take_y (i:=5) rfl hS ?_
        try simp only [Act.put,pC,pD,pE,pF,pG,pH]
        refine take_y (i:=6) rfl hS ?_
        try simp only [Act.put,pC,pD,pE,pF,pG,pH]
        refine take_y (i:=7) rfl hS ?_
        try simp only [Act.put,pC,pD,pE,pF,pG,pH]
        refine take_y (i:=8) rfl hS ?_
        try simp only [Act.put,pC,pD,pE,pF,pG,pH]
        refine take_y (i:=9) rfl hS ?_
        try simp only [Act.put,pC,pD,pE,pF,pG,pH]
        exact q0r hG (by kernel_rfl) (by rw [hA0];kernel_rfl) (HN2_10_12.out ma mc V2 r2 b31 b33 _ hS hA hQ n31 g31 n33 g33)
      ·as_aux_lemma=>
        refine q0d rfl (by rfl) (q1n 44 rfl _ HZZ.out.2.1 hS fun b32 z n32 g32 hb hS=>?_)
        try simp only [Act.put,pC,pD,pE,pF,pG,pH]
        exact q0r hG (by kernel_rfl) (by rw [hA0];kernel_rfl) (HN1_10_11_12.out ma mc b31 b32 b33 _ hS (hT.below hb) (n31.below hb) g31 n32 g32 (n33.below hb) g33)⟩
     have HN1_11_12:Box (∀ma mc b32 b33 (y:World),Below x5.heap.size x5 y->Tb y ma 2 ic P->Nb y b32 ZJ 44->x5.heap.size<=b32->Nb y b33 (sa zs) 42->x5.heap.size<=b33->G 11 #[true,true,true,true,false,false,false,false,false,false,false,true,true,false,false,false,false] {tmps:=(((L0.set 118 (Value.slice ma cl mc)).set 32 (Value.pointer (some {block:=b32,off:=0}))).set 33 (Value.pointer (some {block:=b33,off:=0}))).toArray,defers:=[]} y):=⟨by
      intro ma mc b32 b33 y hS hT n32 g32 n33 g33
      rw [hG,hA0]
      simp only [pD,pE]
      refine q2d (i:=4) (j:=10) (by kernel_rfl) ?_ ?_
      ·as_aux_lemma=>
        refine q0d rfl (by rfl) ?_
        go_simp
        refine Calls.mono (HRo.out _ ma mc hS hT) ?_
        rintro e z ⟨V2,r2,rfl,hA,hQ,hb⟩
        have hS:=q0a hS hb
        have n32:=n32.below hb
        have n33:=n33.below hb
        clear hb hT
        refine ⟨hS,?_⟩
        try simp only [Act.put,pC,pD,pE,pF,pG,pH]
        refine take_y (i:=5) rfl hS ?_
        try simp only [Act.put,pC,pD,pE,pF,pG,pH]
        refine take_y (i:=6) rfl hS ?_
        try simp only [Act.put,pC,pD,pE,pF,pG,pH]
        refine take_y (i:=7) rfl hS ?_
        try simp only [Act.put,pC,pD,pE,pF,pG,pH]
        refine take_y (i:=8) rfl hS ?_
        try simp only [Act.put,pC,pD,pE,pF,pG,pH]
        refine take_y (i:=9) rfl hS ?_
        try simp only [Act.put,pC,pD,pE,pF,pG,pH]
        exact q0r hG (by kernel_rfl) (by rw [hA0];kernel_rfl) (HN2_11_12.out ma mc V2 r2 b32 b33 _ hS hA hQ n32 g32 n33 g33)
      ·as_aux_lemma=>
        refine q0d rfl (by rfl) (q1n 36 rfl _ HZZ.out.1.1 hS fun b31 z n31 g31 hb hS=>?_)
        try simp only [Act.put,pC,pD,pE,pF,pG,pH]
        exact q0r hG (by kernel_rfl) (by rw [hA0];kernel_rfl) (HN1_10_11_12.out ma mc b31 b32 b33 _ hS (hT.below hb) n31 g31 (n32.below hb) g32 (n33.below hb) g33)⟩
     have HN1_10:Box (∀ma mc b31 (y:World),Below x5.heap.size x5 y->Tb y ma 2 ic P->Nb y b31 ZD 36->x5.heap.size<=b31->G 12 #[true,true,true,true,false,false,false,false,false,false,true,false,false,false,false,false,false] {tmps:=((L0.set 118 (Value.slice ma cl mc)).set 31 (Value.pointer (some {block:=b31,off:=0}))).toArray,defers:=[]} y):=⟨by
      intro ma mc b31 y hS hT n31 g31
      rw [hG,hA0]
      simp only [pD,pE]
      refine wpAnyH_all (rs:=[4,11,12]) (by kernel_rfl) (by simp) (fun q hq=>?_)
      simp only [List.mem_cons,List.not_mem_nil,or_false] at hq
      rcases hq with rfl | rfl | rfl
      ·as_aux_lemma=>
        refine q0d rfl (by rfl) ?_
        go_simp
        refine Calls.mono (HRo.out _ ma mc hS hT) ?_
        rintro e z ⟨V2,r2,rfl,hA,hQ,hb⟩
        have hS:=q0a hS hb
        have n31:=n31.below hb
        clear hb hT
        refine ⟨hS,?_⟩
        try simp only [Act.put,pC,pD,pE,pF,pG,pH]
        refine take_y (i:=5) rfl hS ?_
        try simp only [Act.put,pC,pD,pE,pF,pG,pH]
        refine take_y (i:=6) rfl hS ?_
        try simp only [Act.put,pC,pD,pE,pF,pG,pH]
        refine take_y (i:=7) rfl hS ?_
        try simp only [Act.put,pC,pD,pE,pF,pG,pH]
        refine take_y (i:=8) rfl hS ?_
        try simp only [Act.put,pC,pD,pE,pF,pG,pH]
        refine take_y (i:=9) rfl hS ?_
        try simp only [Act.put,pC,pD,pE,pF,pG,pH]
        exact q0r hG (by kernel_rfl) (by rw [hA0];kernel_rfl) (HN2_10.out ma mc V2 r2 b31 _ hS hA hQ n31 g31)
      ·as_aux_lemma=>
        refine q0d rfl (by rfl) (q1n 44 rfl _ HZZ.out.2.1 hS fun b32 z n32 g32 hb hS=>?_)
        try simp only [Act.put,pC,pD,pE,pF,pG,pH]
        exact q0r hG (by kernel_rfl) (by rw [hA0];kernel_rfl) (HN1_10_11.out ma mc b31 b32 _ hS (hT.below hb) (n31.below hb) g31 n32 g32)
      ·as_aux_lemma=>
        refine q0d rfl (by rfl) (q1n 42 rfl _ zeroS13 hS fun b33 z n33 g33 hb hS=>?_)
        try simp only [Act.put,pC,pD,pE,pF,pG,pH]
        exact q0r hG (by kernel_rfl) (by rw [hA0];kernel_rfl) (HN1_10_12.out ma mc b31 b33 _ hS (hT.below hb) (n31.below hb) g31 n33 g33)⟩
     have HN1_11:Box (∀ma mc b32 (y:World),Below x5.heap.size x5 y->Tb y ma 2 ic P->Nb y b32 ZJ 44->x5.heap.size<=b32->G 12 #[true,true,true,true,false,false,false,false,false,false,false,true,false,false,false,false,false] {tmps:=((L0.set 118 (Value.slice ma cl mc)).set 32 (Value.pointer (some {block:=b32,off:=0}))).toArray,defers:=[]} y):=⟨by
      intro ma mc b32 y hS hT n32 g32
      rw [hG,hA0]
      simp only [pD,pE]
      refine wpAnyH_all (rs:=[4,10,12]) (by kernel_rfl) (by simp) (fun q hq=>?_)
      simp only [List.mem_cons,List.not_mem_nil,or_false] at hq
      rcases hq with rfl | rfl | rfl
      ·as_aux_lemma=>
        refine q0d rfl (by rfl) ?_
        go_simp
        refine Calls.mono (HRo.out _ ma mc hS hT) ?_
        rintro e z ⟨V2,r2,rfl,hA,hQ,hb⟩
        have hS:=q0a hS hb
        have n32:=n32.below hb
        clear hb hT
        refine ⟨hS,?_⟩
        try simp only [Act.put,pC,pD,pE,pF,pG,pH]
        refine take_y (i:=5) rfl hS ?_
        try simp only [Act.put,pC,pD,pE,pF,pG,pH]
        refine take_y (i:=6) rfl hS ?_
        try simp only [Act.put,pC,pD,pE,pF,pG,pH]
        refine take_y (i:=7) rfl hS ?_
        try simp only [Act.put,pC,pD,pE,pF,pG,pH]
        refine take_y (i:=8) rfl hS ?_
        try simp only [Act.put,pC,pD,pE,pF,pG,pH]
        refine take_y (i:=9) rfl hS ?_
        try simp only [Act.put,pC,pD,pE,pF,pG,pH]
        exact q0r hG (by kernel_rfl) (by rw [hA0];kernel_rfl) (HN2_11.out ma mc V2 r2 b32 _ hS hA hQ n32 g32)
      ·as_aux_lemma=>
        refine q0d rfl (by rfl) (q1n 36 rfl _ HZZ.out.1.1 hS fun b31 z n31 g31 hb hS=>?_)
        try simp only [Act.put,pC,pD,pE,pF,pG,pH]
        exact q0r hG (by kernel_rfl) (by rw [hA0];kernel_rfl) (HN1_10_11.out ma mc b31 b32 _ hS (hT.below hb) n31 g31 (n32.below hb) g32)
      ·as_aux_lemma=>
        refine q0d rfl (by rfl) (q1n 42 rfl _ zeroS13 hS fun b33 z n33 g33 hb hS=>?_)
        try simp only [Act.put,pC,pD,pE,pF,pG,pH]
        exact q0r hG (by kernel_rfl) (by rw [hA0];kernel_rfl) (HN1_11_12.out ma mc b32 b33 _ hS (hT.below hb) (n32.below hb) g32 n33 g33)⟩
     have HN1_12:Box (∀ma mc b33 (y:World),Below x5.heap.size x5 y->Tb y ma 2 ic P->Nb y b33 (sa zs) 42->x5.heap.size<=b33->G 12 #[true,true,true,true,false,false,false,false,false,false,false,false,true,false,false,false,false] {tmps:=((L0.set 118 (Value.slice ma cl mc)).set 33 (Value.pointer (some {block:=b33,off:=0}))).toArray,defers:=[]} y):=⟨by
      intro ma mc b33 y hS hT n33 g33
      rw [hG,hA0]
      simp only [pD,pE]
      refine wpAnyH_all (rs:=[4,10,11]) (by kernel_rfl) (by simp) (fun q hq=>?_)
      simp only [List.mem_cons,List.not_mem_nil,or_false] at hq
      rcases hq with rfl | rfl | rfl
      ·as_aux_lemma=>
        refine q0d rfl (by rfl) ?_
        go_simp
        refine Calls.mono (HRo.out _ ma mc hS hT) ?_
        rintro e z ⟨V2,r2,rfl,hA,hQ,hb⟩
        have hS:=q0a hS hb
        have n33:=n33.below hb
        clear hb hT
        refine ⟨hS,?_⟩
        try simp only [Act.put,pC,pD,pE,pF,pG,pH]
        refine take_y (i:=5) rfl hS ?_
        try simp only [Act.put,pC,pD,pE,pF,pG,pH]
        refine take_y (i:=6) rfl hS ?_
        try simp only [Act.put,pC,pD,pE,pF,pG,pH]
        refine take_y (i:=7) rfl hS ?_
        try simp only [Act.put,pC,pD,pE,pF,pG,pH]
        refine take_y (i:=8) rfl hS ?_
        try simp only [Act.put,pC,pD,pE,pF,pG,pH]
        refine take_y (i:=9) rfl hS ?_
        try simp only [Act.put,pC,pD,pE,pF,pG,pH]
        exact q0r hG (by kernel_rfl) (by rw [hA0];kernel_rfl) (HN2_12.out ma mc V2 r2 b33 _ hS hA hQ n33 g33)
      ·as_aux_lemma=>
        refine q0d rfl (by rfl) (q1n 36 rfl _ HZZ.out.1.1 hS fun b31 z n31 g31 hb hS=>?_)
        try simp only [Act.put,pC,pD,pE,pF,pG,pH]
        exact q0r hG (by kernel_rfl) (by rw [hA0];kernel_rfl) (HN1_10_12.out ma mc b31 b33 _ hS (hT.below hb) n31 g31 (n33.below hb) g33)
      ·as_aux_lemma=>
        refine q0d rfl (by rfl) (q1n 44 rfl _ HZZ.out.2.1 hS fun b32 z n32 g32 hb hS=>?_)
        try simp only [Act.put,pC,pD,pE,pF,pG,pH]
        exact q0r hG (by kernel_rfl) (by rw [hA0];kernel_rfl) (HN1_11_12.out ma mc b32 b33 _ hS (hT.below hb) n32 g32 (n33.below hb) g33)⟩
     have HN1:Box (∀ma mc (y:World),Below x5.heap.size x5 y->Tb y ma 2 ic P->G 13 #[true,true,true,true,false,false,false,false,false,false,false,false,false,false,false,false,false] {tmps:=(L0.set 118 (Value.slice ma cl mc)).toArray,defers:=[]} y):=⟨by
      intro ma mc y hS hT
      rw [hG,hA0]
      simp only [pD,pE]
      refine wpAnyH_all (rs:=[4,10,11,12]) (by kernel_rfl) (by simp) (fun q hq=>?_)
      simp only [List.mem_cons,List.not_mem_nil,or_false] at hq
      rcases hq with rfl | rfl | rfl | rfl
      ·as_aux_lemma=>
        refine q0d rfl (by rfl) ?_
        go_simp
        refine Calls.mono (HRo.out _ ma mc hS hT) ?_
        rintro e z ⟨V2,r2,rfl,hA,hQ,hb⟩
        have hS:=q0a hS hb
        clear hb hT
        refine ⟨hS,?_⟩
        try simp only [Act.put,pC,pD,pE,pF,pG,pH]
        refine take_y (i:=5) rfl hS ?_
        try simp only [Act.put,pC,pD,pE,pF,pG,pH]
        refine take_y (i:=6) rfl hS ?_
        try simp only [Act.put,pC,pD,pE,pF,pG,pH]
        refine take_y (i:=7) rfl hS ?_
        try simp only [Act.put,pC,pD,pE,pF,pG,pH]
        refine take_y (i:=8) rfl hS ?_
        try simp only [Act.put,pC,pD,pE,pF,pG,pH]
        refine take_y (i:=9) rfl hS ?_
        try simp only [Act.put,pC,pD,pE,pF,pG,pH]
        exact q0r hG (by kernel_rfl) (by rw [hA0];kernel_rfl) (HN2.out ma mc V2 r2 _ hS hA hQ)
      ·as_aux_lemma=>
        refine q0d rfl (by rfl) (q1n 36 rfl _ HZZ.out.1.1 hS fun b31 z n31 g31 hb hS=>?_)
        try simp only [Act.put,pC,pD,pE,pF,pG,pH]
        exact q0r hG (by kernel_rfl) (by rw [hA0];kernel_rfl) (HN1_10.out ma mc b31 _ hS (hT.below hb) n31 g31)
      ·as_aux_lemma=>
        refine q0d rfl (by rfl) (q1n 44 rfl _ HZZ.out.2.1 hS fun b32 z n32 g32 hb hS=>?_)
        try simp only [Act.put,pC,pD,pE,pF,pG,pH]
        exact q0r hG (by kernel_rfl) (by rw [hA0];kernel_rfl) (HN1_11.out ma mc b32 _ hS (hT.below hb) n32 g32)
      ·as_aux_lemma=>
        refine q0d rfl (by rfl) (q1n 42 rfl _ zeroS13 hS fun b33 z n33 g33 hb hS=>?_)
        try simp only [Act.put,pC,pD,pE,pF,pG,pH]
        exact q0r hG (by kernel_rfl) (by rw [hA0];kernel_rfl) (HN1_12.out ma mc b33 _ hS (hT.below hb) n33 g33)⟩
     have HN0_10_11_12:Box (∀b31 b32 b33 (y:World),Below x5.heap.size x5 y->Nb y b31 ZD 36->x5.heap.size<=b31->Nb y b32 ZJ 44->x5.heap.size<=b32->Nb y b33 (sa zs) 42->x5.heap.size<=b33->G 11 #[true,true,true,false,false,false,false,false,false,false,true,true,true,false,false,false,false] {tmps:=(((L0.set 31 (Value.pointer (some {block:=b31,off:=0}))).set 32 (Value.pointer (some {block:=b32,off:=0}))).set 33 (Value.pointer (some {block:=b33,off:=0}))).toArray,defers:=[]} y):=⟨by
      intro b31 b32 b33 y hS n31 g31 n32 g32 n33 g33
      rw [hG,hA0]
      simp only [pD,pE]
      refine q0m (i:=3) (by kernel_rfl) ?_
      refine q0d rfl (by rfl) ?_
      go_simp
      refine Calls.mono (HMo.out _ hS) ?_
      rintro e z ⟨ma,mc,rfl,hT,hb⟩
      have hS:=q0a hS hb
      have n31:=n31.below hb
      have n32:=n32.below hb
      have n33:=n33.below hb
      clear hb
      refine ⟨hS,?_⟩
      try simp only [Act.put,pC,pD,pE,pF,pG,pH]
      exact q0r hG (by kernel_rfl) (by rw [hA0];kernel_rfl) (HN1_10_11_12.out ma mc b31 b32 b33 _ hS hT n31 g31 n32 g32 n33 g33)⟩
     have HN0_10_11:Box (∀b31 b32 (y:World),Below x5.heap.size x5 y->Nb y b31 ZD 36->x5.heap.size<=b31->Nb y b32 ZJ 44->x5.heap.size<=b32->G 12 #[true,true,true,false,false,false,false,false,false,false,true,true,false,false,false,false,false] {tmps:=((L0.set 31 (Value.pointer (some {block:=b31,off:=0}))).set 32 (Value.pointer (some {block:=b32,off:=0}))).toArray,defers:=[]} y):=⟨by
      intro b31 b32 y hS n31 g31 n32 g32
      rw [hG,hA0]
      simp only [pD,pE]
      refine q2d (i:=3) (j:=12) (by kernel_rfl) ?_ ?_
      ·as_aux_lemma=>
        refine q0d rfl (by rfl) ?_
        go_simp
        refine Calls.mono (HMo.out _ hS) ?_
        rintro e z ⟨ma,mc,rfl,hT,hb⟩
        have hS:=q0a hS hb
        have n31:=n31.below hb
        have n32:=n32.below hb
        clear hb
        refine ⟨hS,?_⟩
        try simp only [Act.put,pC,pD,pE,pF,pG,pH]
        exact q0r hG (by kernel_rfl) (by rw [hA0];kernel_rfl) (HN1_10_11.out ma mc b31 b32 _ hS hT n31 g31 n32 g32)
      ·as_aux_lemma=>
        refine q0d rfl (by rfl) (q1n 42 rfl _ zeroS13 hS fun b33 z n33 g33 hb hS=>?_)
        try simp only [Act.put,pC,pD,pE,pF,pG,pH]
        exact q0r hG (by kernel_rfl) (by rw [hA0];kernel_rfl) (HN0_10_11_12.out b31 b32 b33 _ hS (n31.below hb) g31 (n32.below hb) g32 n33 g33)⟩
     have HN0_10_12:Box (∀b31 b33 (y:World),Below x5.heap.size x5 y->Nb y b31 ZD 36->x5.heap.size<=b31->Nb y b33 (sa zs) 42->x5.heap.size<=b33->G 12 #[true,true,true,false,false,false,false,false,false,false,true,false,true,false,false,false,false] {tmps:=((L0.set 31 (Value.pointer (some {block:=b31,off:=0}))).set 33 (Value.pointer (some {block:=b33,off:=0}))).toArray,defers:=[]} y):=⟨by
      intro b31 b33 y hS n31 g31 n33 g33
      rw [hG,hA0]
      simp only [pD,pE]
      refine q2d (i:=3) (j:=11) (by kernel_rfl) ?_ ?_
      ·as_aux_lemma=>
        refine q0d rfl (by rfl) ?_
        go_simp
        refine Calls.mono (HMo.out _ hS) ?_
        rintro e z ⟨ma,mc,rfl,hT,hb⟩
        have hS:=q0a hS hb
        have n31:=n31.below hb
        have n33:=n33.below hb
        clear hb
        refine ⟨hS,?_⟩
        try simp only [Act.put,pC,pD,pE,pF,pG,pH]
        exact q0r hG (by kernel_rfl) (by rw [hA0];kernel_rfl) (HN1_10_12.out ma mc b31 b33 _ hS hT n31 g31 n33 g33)
      ·as_aux_lemma=>
        refine q0d rfl (by rfl) (q1n 44 rfl _ HZZ.out.2.1 hS fun b32 z n32 g32 hb hS=>?_)
        try simp only [Act.put,pC,pD,pE,pF,pG,pH]
        exact q0r hG (by kernel_rfl) (by rw [hA0];kernel_rfl) (HN0_10_11_12.out b31 b32 b33 _ hS (n31.below hb) g31 n32 g32 (n33.below hb) g33)⟩
     have HN0_11_12:Box (∀b32 b33 (y:World),Below x5.heap.size x5 y->Nb y b32 ZJ 44->x5.heap.size<=b32->Nb y b33 (sa zs) 42->x5.heap.size<=b33->G 12 #[true,true,true,false,false,false,false,false,false,false,false,true,true,false,false,false,false] {tmps:=((L0.set 32 (Value.pointer (some {block:=b32,off:=0}))).set 33 (Value.pointer (some {block:=b33,off:=0}))).toArray,defers:=[]} y):=⟨by
      intro b32 b33 y hS n32 g32 n33 g33
      rw [hG,hA0]
      simp only [pD,pE]
      refine q2d (i:=3) (j:=10) (by kernel_rfl) ?_ ?_
      ·as_aux_lemma=>
        refine q0d rfl (by rfl) ?_
        go_simp
        refine Calls.mono (HMo.out _ hS) ?_
        rintro e z ⟨ma,mc,rfl,hT,hb⟩
        have hS:=q0a hS hb
        have n32:=n32.below hb
        have n33:=n33.below hb
        clear hb
        refine ⟨hS,?_⟩
        try simp only [Act.put,pC,pD,pE,pF,pG,pH]
        exact q0r hG (by kernel_rfl) (by rw [hA0];kernel_rfl) (HN1_11_12.out ma mc b32 b33 _ hS hT n32 g32 n33 g33)
      ·as_aux_lemma=>
        refine q0d rfl (by rfl) (q1n 36 rfl _ HZZ.out.1.1 hS fun b31 z n31 g31 hb hS=>?_)
        try simp only [Act.put,pC,pD,pE,pF,pG,pH]
        exact q0r hG (by kernel_rfl) (by rw [hA0];kernel_rfl) (HN0_10_11_12.out b31 b32 b33 _ hS n31 g31 (n32.below hb) g32 (n33.below hb) g33)⟩
     have HN0_10:Box (∀b31 (y:World),Below x5.heap.size x5 y->Nb y b31 ZD 36->x5.heap.size<=b31->G 13 #[true,true,true,false,false,false,false,false,false,false,true,false,false,false,false,false,false] {tmps:=(L0.set 31 (Value.pointer (some {block:=b31,off:=0}))).toArray,defers:=[]} y):=⟨by
      intro b31 y hS n31 g31
      rw [hG,hA0]
      simp only [pD,pE]
      refine wpAnyH_all (rs:=[3,11,12]) (by kernel_rfl) (by simp) (fun q hq=>?_)
      simp only [List.mem_cons,List.not_mem_nil,or_false] at hq
      rcases hq with rfl | rfl | rfl
      ·as_aux_lemma=>
        refine q0d rfl (by rfl) ?_
        go_simp
        refine Calls.mono (HMo.out _ hS) ?_
        rintro e z ⟨ma,mc,rfl,hT,hb⟩
        have hS:=q0a hS hb
        have n31:=n31.below hb
        clear hb
        refine ⟨hS,?_⟩
        try simp only [Act.put,pC,pD,pE,pF,pG,pH]
        exact q0r hG (by kernel_rfl) (by rw [hA0];kernel_rfl) (HN1_10.out ma mc b31 _ hS hT n31 g31)
      ·as_aux_lemma=>
        refine q0d rfl (by rfl) (q1n 44 rfl _ HZZ.out.2.1 hS fun b32 z n32 g32 hb hS=>?_)
        try simp only [Act.put,pC,pD,pE,pF,pG,pH]
        exact q0r hG (by kernel_rfl) (by rw [hA0];kernel_rfl) (HN0_10_11.out b31 b32 _ hS (n31.below hb) g31 n32 g32)
      ·as_aux_lemma=>
        refine q0d rfl (by rfl) (q1n 42 rfl _ zeroS13 hS fun b33 z n33 g33 hb hS=>?_)
        try simp only [Act.put,pC,pD,pE,pF,pG,pH]
        exact q0r hG (by kernel_rfl) (by rw [hA0];kernel_rfl) (HN0_10_12.out b31 b33 _ hS (n31.below hb) g31 n33 g33)⟩
     have HN0_11:Box (∀b32 (y:World),Below x5.heap.size x5 y->Nb y b32 ZJ 44->x5.heap.size<=b32->G 13 #[true,true,true,false,false,false,false,false,false,false,false,true,false,false,false,false,false] {tmps:=(L0.set 32 (Value.pointer (some {block:=b32,off:=0}))).toArray,defers:=[]} y):=⟨by
      intro b32 y hS n32 g32
      rw [hG,hA0]
      simp only [pD,pE]
      refine wpAnyH_all (rs:=[3,10,12]) (by kernel_rfl) (by simp) (fun q hq=>?_)
      simp only [List.mem_cons,List.not_mem_nil,or_false] at hq
      rcases hq with rfl | rfl | rfl
      ·as_aux_lemma=>
        refine q0d rfl (by rfl) ?_
        go_simp
        refine Calls.mono (HMo.out _ hS) ?_
        rintro e z ⟨ma,mc,rfl,hT,hb⟩
        have hS:=q0a hS hb
        have n32:=n32.below hb
        clear hb
        refine ⟨hS,?_⟩
        try simp only [Act.put,pC,pD,pE,pF,pG,pH]
        exact q0r hG (by kernel_rfl) (by rw [hA0];kernel_rfl) (HN1_11.out ma mc b32 _ hS hT n32 g32)
      ·as_aux_lemma=>
        refine q0d rfl (by rfl) (q1n 36 rfl _ HZZ.out.1.1 hS fun b31 z n31 g31 hb hS=>?_)
        try simp only [Act.put,pC,pD,pE,pF,pG,pH]
        exact q0r hG (by kernel_rfl) (by rw [hA0];kernel_rfl) (HN0_10_11.out b31 b32 _ hS n31 g31 (n32.below hb) g32)
      ·as_aux_lemma=>
        refine q0d rfl (by rfl) (q1n 42 rfl _ zeroS13 hS fun b33 z n33 g33 hb hS=>?_)
        try simp only [Act.put,pC,pD,pE,pF,pG,pH]
        exact q0r hG (by kernel_rfl) (by rw [hA0];kernel_rfl) (HN0_11_12.out b32 b33 _ hS (n32.below hb) g32 n33 g33)⟩
     have HN0_12:Box (∀b33 (y:World),Below x5.heap.size x5 y->Nb y b33 (sa zs) 42->x5.heap.size<=b33->G 13 #[true,true,true,false,false,false,false,false,false,false,false,false,true,false,false,false,false] {tmps:=(L0.set 33 (Value.pointer (some {block:=b33,off:=0}))).toArray,defers:=[]} y):=⟨by
      intro b33 y hS n33 g33
      rw [hG,hA0]
      simp only [pD,pE]
      refine wpAnyH_all (rs:=[3,10,11]) (by kernel_rfl) (by simp) (fun q hq=>?_)
      simp only [List.mem_cons,List.not_mem_nil,or_false] at hq
      rcases hq with rfl | rfl | rfl
      ·as_aux_lemma=>
        refine q0d rfl (by rfl) ?_
        go_simp
        refine Calls.mono (HMo.out _ hS) ?_
        rintro e z ⟨ma,mc,rfl,hT,hb⟩
        have hS:=q0a hS hb
        have n33:=n33.below hb
        clear hb
        refine ⟨hS,?_⟩
        try simp only [Act.put,pC,pD,pE,pF,pG,pH]
        exact q0r hG (by kernel_rfl) (by rw [hA0];kernel_rfl) (HN1_12.out ma mc b33 _ hS hT n33 g33)
      ·as_aux_lemma=>
        refine q0d rfl (by rfl) (q1n 36 rfl _ HZZ.out.1.1 hS fun b31 z n31 g31 hb hS=>?_)
        try simp only [Act.put,pC,pD,pE,pF,pG,pH]
        exact q0r hG (by kernel_rfl) (by rw [hA0];kernel_rfl) (HN0_10_12.out b31 b33 _ hS n31 g31 (n33.below hb) g33)
      ·as_aux_lemma=>
        refine q0d rfl (by rfl) (q1n 44 rfl _ HZZ.out.2.1 hS fun b32 z n32 g32 hb hS=>?_)
        try simp only [Act.put,pC,pD,pE,pF,pG,pH]
        exact q0r hG (by kernel_rfl) (by rw [hA0];kernel_rfl) (HN0_11_12.out b32 b33 _ hS n32 g32 (n33.below hb) g33)⟩
     rw [hG,hA0]
     refine wpAnyH_all (rs:=[3,10,11,12]) (by kernel_rfl) (by simp) (fun q hq=>?_)
     simp only [List.mem_cons,List.not_mem_nil,or_false] at hq
     rcases hq with rfl | rfl | rfl | rfl
     ·as_aux_lemma=>
       refine q0d rfl (by rfl) ?_
       go_simp
       refine Calls.mono (HMo.out _ hS) ?_
       rintro e z ⟨ma,mc,rfl,hT,hb⟩
       have hS:=q0a hS hb
       clear hb
       refine ⟨hS,?_⟩
       try simp only [Act.put,pC,pD,pE,pF,pG,pH]
       exact q0r hG (by kernel_rfl) (by rw [hA0];kernel_rfl) (HN1.out ma mc _ hS hT)
     ·as_aux_lemma=>
       refine q0d rfl (by rfl) (q1n 36 rfl _ HZZ.out.1.1 hS fun b31 z n31 g31 hb hS=>?_)
       try simp only [Act.put,pC,pD,pE,pF,pG,pH]
       exact q0r hG (by kernel_rfl) (by rw [hA0];kernel_rfl) (HN0_10.out b31 _ hS n31 g31)
     ·as_aux_lemma=>
       refine q0d rfl (by rfl) (q1n 44 rfl _ HZZ.out.2.1 hS fun b32 z n32 g32 hb hS=>?_)
       try simp only [Act.put,pC,pD,pE,pF,pG,pH]
       exact q0r hG (by kernel_rfl) (by rw [hA0];kernel_rfl) (HN0_11.out b32 _ hS n32 g32)
     ·as_aux_lemma=>
       refine q0d rfl (by rfl) (q1n 42 rfl _ zeroS13 hS fun b33 z n33 g33 hb hS=>?_)
       try simp only [Act.put,pC,pD,pE,pF,pG,pH]
       exact q0r hG (by kernel_rfl) (by rw [hA0];kernel_rfl) (HN0_12.out b33 _ hS n33 g33)
    ·have hd4:decide ((6:Int)<(cl:Int))=true:=by simp;omega
     have hd5:(6:Int)<(cl:Int):=by omega
     clear hx hrk hcI HIo hr hbl hcl HG hbw hxw
     go_wp2_with (refine atIdx 24 ?_;refine q0b rfl _ _ (q0p 24 47 Tryz.underlying24 1 infoSlz2 _ _ rfl b o n cap i rfl rfl HK.out.1) ?_;(try rw [Nat.mul_one]))
     go_ret
     exact ⟨rfl,HBW.out⟩
   ·have hlt1:decide ((i:Int)<(n:Int))=false:=by simp;omega
    obtain rfl:i=n:=by omega
    clear hbw hxw
    have HI6:Box (i<=6):=⟨HLN.out.2⟩
    have HLV:Box (Lv x1 wr J D Bm 36 j d d.ops r V fp):=⟨(HG.out.lv (by have:=HI6.out;omega)).more (by have:=HI6.out;omega) (by omega)⟩
    have HRD:Box (Calls Tryz.prog 16 #[.pointer (some ⟨D,0,none⟩),.int .i64 sl] wr fun e z=>∃(bv:Value) (x:Int),e=.returned (.tuple #[bv,.int .i64 x])/\Rdd x1 wr z J D Bm 36 j d r V fp sl bv x):=⟨HLV.out.read2 HFt.out sl⟩
    have HT12:Box (Dig.Tabs x1/\Seal.Tab x1/\J<wr.heap.size/\x1.heap.size<=wr.heap.size):=⟨HLV.out.jc.dig,HLV.out.jc.tab,HLV.out.jc.lt,HLV.out.jc.cx.bel.size⟩
    have HIV:Box ((Tryz.prog.info? 36).map (·.size)=some V.length/\V.length=6):=⟨by rw [q6d HLV.out.rv];exact Disk.infoD,q6d HLV.out.rv⟩
    clear HG HZZ HBW
    go_upto_region 29 with (go_at_call 16;refine HRD.out.mono ?_;rintro e z28 ⟨bv,x,rfl,hrd⟩;have HRd:Box (Rdd x1 wr z28 J D Bm 36 j d r V fp sl bv x):=⟨hrd⟩;clear hrd)
    clear HRD
    go_upto_if 144 with fail
    go_cut [] from 143 to 167 (fun wx=>Box (∃(q:Nat) (d:Disk.Dk) (O:List (Int × Int)) (r:Disk.Rd) (V:List Value) (fp:Nat->Prop),q<=40/\Lv x1 wx J D Bm q j d O r V fp))
    case first=>
     rcases HRd.out with ⟨rfl,rfl,rfl⟩ | ⟨m,R,fp',O',B,rfl,hm,rfl,rfl,hs⟩
     ·go_wp2
      go_meet
      exact ⟨36,d,_,r,V,fp,by omega,HLV.out⟩
     ·have HS:Box (Sl0 x1 wr z28 J D Bm 36 j d O' r V fp fp' R B/\m<12):=⟨hs,hm⟩
      clear HRd hs hm
      obtain ⟨u,hu,hu3⟩:=low16 ix
      obtain ⟨p,hp1,hp2,hp3⟩:=mod_nat (u:Int) 192 (by omega) (by omega)
      obtain ⟨b1,hb1⟩:=nm (B.getD p 0)
      obtain ⟨b2,hb2⟩:=nm (bits .xor .u8 b1 (ov:Int))
      have HB2:Box (0<=b2/\b2<=255):=⟨by rw [<-hb2];exact u8_bits _ _ _⟩
      have c0:z28.cell? ⟨R,p,none⟩=some (.int .u8 b1):=by rw [<-hb1];exact q2t z28 R p B _ _ HS.out.1.loc.row (by rw [HS.out.1.len.1];exact hp3)
      have f0:=frozen_of_row z28 R p _ _ HS.out.1.loc.row
      have hR:R<z28.heap.size:=HS.out.1.loc.lt
      have HS1:Box (Sl0 x1 wr (z28.setCell ⟨R,p,none⟩ (.int .u8 b2)) J D Bm 36 j d O' r V fp fp' R (B.set p b2)):=⟨HS.out.1.turn HT12.out.2.2.2 HT12.out.2.2.1 p b2 HB2.out⟩
      have hp4:((192:Nat):Int)=192:=rfl
      rw [hp4] at hp1 hp2
      clear hb1
      go_upto_region 31 with fail
      generalize z28.setCell ⟨R,p,none⟩ (.int .u8 b2)=z30 at HS1 ⊢
      have HM12:Box (m<12):=⟨HS.out.2⟩
      clear c0 f0 HS hu hu3 hp1 hp2 hp3 hp4 hb2 hR
      obtain ⟨B2,hB2⟩:=nm (B.set p b2)
      rw [hB2] at HS1
      have HTM:Box _:=⟨HS1.out.tam HLV.out m HM12.out HFt.out⟩
      obtain ⟨r',hj',hrt⟩:=Disk.rtam HLV.out.hj (by omega) m (by have:=HLV.out.dn;have:=HM12.out;omega) B2 HS1.out.len.1
      have HRT:Box (∀w2 v,Disk.Rv w2 v r->Calls Tryz.prog 18 #[v,.int .i64 (m:Int),.string (strOfNums B2)] w2 fun e w3=>∃v',e=.returned (.tuple #[v',.int .i64 0])/\Disk.Rv w3 v' r'/\Below w2.heap.size w2 w3):=⟨hrt⟩
      have HJ':Box (Disk.J 37 (Disk.tpOk d m B2) r'):=⟨hj'⟩
      clear hrt hj' hB2
      go_upto_region 32 with (go_at_call 17;refine HTM.out.mono ?_;rintro e z31 ⟨rfl,fp2',hs⟩;have HS3:Box _:=⟨hs⟩;clear hs)
      have HB31:Box (z31.heap[Bm]?=some (.cells V.toArray 36 (0,0))/\Disk.Rv z31 (.agg V.toArray) r/\Bytes z31 (some ⟨R,0,none⟩) 192 B2):=⟨(HS3.out.fr.2 Bm _ _ _ HLV.out.bm (by unfold Disk.Own4;decide)).trans HLV.out.bm,HLV.out.rv.fr HS3.out.fr,HS3.out.loc.bytes HS3.out.len.2 192 HS3.out.len.1⟩
      have HRg:Box (z31.rangeAt Bm 0 V):=⟨q0q HB31.out.1⟩
      clear HTM HS1
      go_wp2_with (first
       | (refine atLoad 36 ?_;refine q0c rfl 36 _ _ rfl Tryz.underlying36 rfl Bm 0 rfl V HIV.out.1 HRg.out ?_)
       | (refine q0b rfl _ _ (q3b (.tmp 163) rfl rfl HB31.out.2.2) ?_)
       | (go_at_call 18;refine (HRT.out _ _ HB31.out.2.1).mono ?_;rintro e z32 ⟨v',rfl,hv,hb⟩;obtain ⟨V',rfl,hl',ha'⟩:=q3k hv;have H32:Box (Below z31.heap.size z31 z32/\Disk.Rv z32 (.agg V'.toArray) r'/\z32.heap[Bm]?=some (.cells V.toArray 36 (0,0))/\(Tryz.prog.info? 36).map (·.size)=some V'.toArray.size/\V.toArray.size=V'.toArray.size/\V'.toArray.all (·.oneCell')=true):=⟨hb,hv,(hb.block Bm (gE HB31.out.1)).trans HB31.out.1,by rw [List.size_toArray,hl'];exact Disk.infoD,by rw [List.size_toArray,List.size_toArray,hl',HIV.out.2],ha'⟩;clear hv hb hl' ha')
       | (refine atStore _ ?_;refine wpList_store_row rfl 36 _ _ rfl Bm V'.toArray rfl rfl 36 _ H32.out.2.2.1 H32.out.2.2.2.1 H32.out.2.2.2.2.1 H32.out.2.2.2.2.2 ?_))
      go_meet
      obtain ⟨fp3,hL⟩:=Sl0.lv HLV.out HFt.out HS3.out H32.out.1 HJ'.out H32.out.2.1 (by omega)
      exact ⟨37,_,_,r',V',fp3,by omega,hL⟩
    case rest=>
     obtain ⟨q,d2,O,r2,V2,fp2,hq,hL⟩:=hcut.out
     have HL:Box (Lv x1 wc J D Bm q j d2 O r2 V2 fp2/\q<=40):=⟨hL,hq⟩
     clear hcut hL hq HLV HFt HIV HRd
     obtain ⟨s1,hs1⟩:=nm j.st
     have HS1:Box (OkS s1):=⟨by rw [<-hs1];exact HL.out.1.jc.ok.st⟩
     obtain ⟨SJ,HSJ⟩:∃A,Box (sa s1=A):=⟨_,⟨rfl⟩⟩
     have HST:Box (Calls Tryz.prog 19 #[.pointer (some ⟨J,0,none⟩)] wc fun e w'=>e=.returned (.tuple #[.agg SJ,.int .u64 j.nx])/\Below wc.heap.size wc w'):=⟨by
      have:=state_any HL.out.1.jc.row HL.out.1.jc.ok
      rw [hs1,HSJ.out] at this
      exact this⟩
     have HIS:Box ((Tryz.prog.info? 27).map (·.size)=some SJ.size/\(sa zs).size=SJ.size/\SJ.all (·.oneCell')=true):=⟨by rw [<-HSJ.out,q1b HS1.out];exact infoSt,by rw [<-HSJ.out,q1b HS1.out,q1b q1f],by rw [<-HSJ.out];exact q3z s1⟩
     have HIK:Box ((Tryz.prog.info? 23).map (·.size)=some AK.size/\(u8s z32).size=AK.size/\AK.all (·.oneCell')=true):=⟨by rw [<-HAK.out,q0h,HKI.out.2.2.1];exact infoSum,by rw [<-HAK.out,q0h,q0h,HKI.out.2.2.1];rfl,by rw [<-HAK.out];exact q1r K⟩
     go_upto_region 34 with (first
      | (go_at_call 19;refine HST.out.mono ?_;rintro e z33 ⟨rfl,hb⟩;have B33:Box (Below wc.heap.size wc z33):=⟨hb⟩;clear hb)
      | (refine atAlloc _ ?_;refine q0b rfl _ _ (q0e 27 rfl _ zeroSt) ?_)
      | (refine atStore _ ?_;refine q0o z33 (sa zs) SJ HIS.out.1 HIS.out.2.1 HIS.out.2.2 rfl _ _ rfl rfl rfl rfl ?_;intro z34 h5 hb5;have H34:Box (z34.heap[z33.heap.size]?=some (.cells SJ 27 (0,0))/\Below wc.heap.size wc z34/\wc.heap.size<=z33.heap.size):=⟨h5,q0a B33.out hb5,B33.out.size⟩;clear h5 hb5))
     obtain ⟨Bt,hBt⟩:=nm z33.heap.size
     (try simp only [hBt])
     rw [hBt] at H34
     clear hBt HST B33
     have HRK:Box (z34.rangeAt S 0 (K.map (Value.int .u8))):=⟨(HX.out z34 (q0a HW1.out (q0a HL.out.1.jc.cx.bel H34.out.2.1))).1.1⟩
     go_upto_region 36 with (first
      | (refine atLoad 23 ?_;refine q0c rfl 23 _ _ rfl Tryz.underlying23 rfl S 0 rfl (K.map (Value.int .u8)) HKI.out.1 HRK.out ?_;rw [HKI.out.2.1])
      | (refine atAlloc _ ?_;refine q0b rfl _ _ (q0e 23 rfl _ zeroSum) ?_)
      | (refine atStore _ ?_;refine q0o z34 (u8s z32) AK HIK.out.1 HIK.out.2.1 HIK.out.2.2 rfl _ _ rfl rfl rfl rfl ?_;intro z35 h5 hb5;have H35:Box (z35.heap[z34.heap.size]?=some (.cells AK 23 (0,0))/\Below z34.heap.size z34 z35):=⟨h5,hb5⟩;clear h5 hb5))
     obtain ⟨Bc,hBc⟩:=nm z34.heap.size
     (try simp only [hBc])
     have HLE:Box (Le x1 z35 D Bm Bt Bc d2 O r2 V2 s1 K/\Up d2):=⟨by
      have hl:=HL.out.1
      have hb:=q0a H34.out.2.1 H35.out.2
      have hl5:=hl.below hb
      exact ⟨⟨⟨_,hl5.jc.cx⟩,hl5.rv,hl5.bm,by rw [HSJ.out];exact (H35.out.2.block Bt (gE H34.out.1)).trans H34.out.1,by rw [HAK.out,<-hBc];exact H35.out.1,hl5.lo,Nat.le_trans hl.jc.cx.bel.size H34.out.2.2,by rw [<-hBc];exact Nat.le_trans hl.jc.cx.bel.size H34.out.2.1.size,hl.hj.le (by have:=HL.out.2;omega),hl.dn,by have:=hl.ol;have:=HL.out.2;omega,by have:=hl.ul;have:=HL.out.2;omega,HS1.out,HKI.out.2.2⟩,hl.up⟩⟩
     clear H34 H35 hBc HRK HL hs1
     have HSB:Box ((Tryz.prog.info? 27).map (·.size)=some SA.size/\(sa s1).size=SA.size/\SA.all (·.oneCell')=true):=⟨by rw [<-HSA.out,q1b HSI.out.2.2];exact infoSt,by rw [<-HSA.out,q1b HSI.out.2.2,q1b HS1.out],by rw [<-HSA.out];exact q3z s⟩
     clear HIS HIK HSJ
     go_upto_block 2 with fail
     go_cut [39] from 175 to 207 (fun f wx=>∃f0:Nat,f=.int .i64 (f0:Int)/\f0<=1/\Box (∃(d:Disk.Dk) (O:List (Int × Int)) (r:Disk.Rd) (V:List Value) (s':Jst) (K':List Int),Le x1 wx D Bm Bt Bc d O r V s' K'))
     case first=>
      have HPR:Box (z35.rangeAt (S+1) 0 (scs s)/\z35.cell? ⟨S+1,1,none⟩=some (.int .u64 (s.count:Int))):=⟨(HX.out z35 (q0a HW1.out HLE.out.1.bel)).1.2.1,(HX.out z35 (q0a HW1.out HLE.out.1.bel)).1.2.2.2⟩
      by_cases o1:od=1
      ·have e1:((od:Int)==1)=true:=by simp;omega
       clear o1
       go_wp2_with (first
        | (refine atLoad 27 ?_;refine q0c rfl 27 _ _ rfl Tryz.underlying27 rfl (S+1) 0 rfl (scs s) HSI.out.1 HPR.out.1 ?_;rw [HSI.out.2.1])
        | (refine atStore _ ?_;refine wpList_store_row rfl 27 _ _ rfl Bt SA rfl rfl 27 _ HLE.out.1.bt HSB.out.1 HSB.out.2.1 HSB.out.2.2 ?_))
       go_meet
       exact ⟨1,rfl,by omega,⟨d2,O,r2,V2,s,K,HLE.out.1.state (q0s _ _ _) (by rw [HSA.out];exact setRow_heap _ _ _ _ _ _ HLE.out.1.bt) HSI.out.2.2⟩⟩
      by_cases o2:od=2
      ·have e1:((od:Int)==1)=false:=by simp;omega
       have e2:((od:Int)==2)=true:=by simp;omega
       clear o1 o2
       obtain ⟨m,m1,m2,m3⟩:=mod_nat (s.count:Int) 12 (by omega) (by omega)
       have m4:((12:Nat):Int)=12:=rfl
       rw [m4] at m1 m2
       have c0:=HPR.out.2
       have c1:z35.cell? ⟨Bt,1,none⟩=some (.int .u64 (s1.count:Int)):=by rw [cell_of_row _ _ _ _ _ _ HLE.out.1.bt];rfl
       have f1:=frozen_of_row z35 Bt 1 _ _ HLE.out.1.bt
       have l1:Bt<z35.heap.size:=(gE HLE.out.1.bt)
       have hcs:s.count<=18446744073709551615:=HSI.out.2.2.c64
       have HEN:Box (Le x1 (z35.setCell ⟨Bt,1,none⟩ (.int .u64 (m:Int))) D Bm Bt Bc d2 O r2 V2 {s1 with count:=m} K):=⟨HLE.out.1.state ((But.refl _ _).setCell 1 _) (by rw [heap_setCell_same z35 Bt 1 _ _ _ HLE.out.1.bt,sa_count]) ⟨HS1.out.lt,HS1.out.bt,HS1.out.s64,by show m<=_;omega⟩⟩
       go_wp2
       go_meet
       exact ⟨1,rfl,by omega,⟨d2,O,r2,V2,_,K,HEN.out⟩⟩
      by_cases o3:od=3
      ·have e1:((od:Int)==1)=false:=by simp;omega
       have e2:((od:Int)==2)=false:=by simp;omega
       have e3:((od:Int)==3)=true:=by simp;omega
       clear o1 o2 o3
       go_wp2
       go_meet
       exact ⟨0,rfl,by omega,⟨d2,O,r2,V2,s1,K,HLE.out.1⟩⟩
      by_cases o4:od=4
      ·have e1:((od:Int)==1)=false:=by simp;omega
       have e2:((od:Int)==2)=false:=by simp;omega
       have e3:((od:Int)==3)=false:=by simp;omega
       have e4:((od:Int)==4)=true:=by simp;omega
       clear o1 o2 o3 o4
       obtain ⟨b1,hb1⟩:=nm (K.getD 0 0)
       obtain ⟨b2,hb2⟩:=nm (bits .xor .u8 b1 1)
       have c1:z35.cell? ⟨Bc,0,none⟩=some (.int .u8 b1):=by rw [<-hb1];exact q2t z35 Bc 0 K _ _ HLE.out.1.bc (by rw [HLE.out.1.hk.1];omega)
       have f1:=frozen_of_row z35 Bc 0 _ _ HLE.out.1.bc
       have l1:Bc<z35.heap.size:=(gE HLE.out.1.bc)
       have HEN:Box (Le x1 (z35.setCell ⟨Bc,0,none⟩ (.int .u8 b2)) D Bm Bt Bc d2 O r2 V2 s1 (K.set 0 b2)):=⟨HLE.out.1.key ((But.refl _ _).setCell 0 _) (by rw [heap_setCell_same z35 Bc 0 _ _ _ HLE.out.1.bc,q8u]) ⟨by simp [HLE.out.1.hk.1],byt_set _ _ _ HLE.out.1.hk.2 (by rw [<-hb2];exact u8_bits _ _ _)⟩⟩
       clear hb1
       go_wp2
       go_meet
       exact ⟨1,rfl,by omega,⟨d2,O,r2,V2,s1,_,HEN.out⟩⟩
      by_cases o5:od=5
      ·have e1:((od:Int)==1)=false:=by simp;omega
       have e2:((od:Int)==2)=false:=by simp;omega
       have e3:((od:Int)==3)=false:=by simp;omega
       have e4:((od:Int)==4)=false:=by simp;omega
       have e5:((od:Int)==5)=true:=by simp;omega
       clear o1 o2 o3 o4 o5
       have HSTp:Box _:=⟨stop_h (d:=d2) (O:=O) HLE.out.1.cm⟩
       have HI2:Box ((Tryz.prog.info? 36).map (·.size)=some V2.length/\V2.length=6/\r2.n=12/\r2.down=false/\d2.n=12/\d2.down=false):=⟨by rw [q6d HLE.out.1.rv];exact Disk.infoD,q6d HLE.out.1.rv,HLE.out.1.hj.n.trans HLE.out.1.dn,HLE.out.1.hj.down.trans HLE.out.2.1,HLE.out.1.dn,HLE.out.2.1⟩
       go_upto_region 47 with (go_at_call 20;refine HSTp.out.mono ?_;rintro e z46 ⟨rfl,hf,hc⟩;have H46:Box (Disk.Fr z35 z46/\Disk.Cm x1 z46 D ({dkS1 d2 with ops:=O}:Disk.Dk)):=⟨hf,hc⟩;clear hf hc)
       clear HSTp
       have HWp:Box (Calls Tryz.prog 21 #[.pointer (some ⟨D,0,none⟩),.int .i64 0,.slice (some ⟨z46.heap.size,0,none⟩) 192 192] (z46.alloc (.cells (u8s Disk.z192) 5)) fun e z=>e=.returned (.int .i64 13)/\Hx x1 z35 z D Bm d2 O V2/\Disk.Rv z (.agg V2.toArray) r2):=⟨by
        have hb:Below z46.heap.size z46 (z46.alloc (.cells (u8s Disk.z192) 5)):=(Below.refl _ _).alloc (Nat.le_refl _) _
        refine (write_h (d:=d2) (O:=O) (H46.out.2.step hb) HI2.out.2.2.2.2.1 HI2.out.2.2.2.2.2 _ _).mono ?_
        rintro e z ⟨rfl,hf,hc⟩
        have hfr:=(H46.out.1.trans (Disk.Fr.below hb)).trans hf
        exact ⟨rfl,⟨hc,fun k cs t fr hk ht _=>(hfr.2 k cs t fr hk ht).trans hk,(hfr.2 _ _ _ _ HLE.out.1.bm (by unfold Disk.Own4;decide)).trans HLE.out.1.bm,HLE.out.1.lm⟩,HLE.out.1.rv.fr hfr⟩⟩
       go_upto_region 48 with (first
        | (refine q0b rfl _ _ (Disk.q5k _ _ rfl rfl rfl) ?_)
        | (go_at_call 21;refine HWp.out.mono ?_;rintro e z47 ⟨rfl,hx,hv⟩;have H47:Box (Hx x1 z35 z47 D Bm d2 O V2/\Disk.Rv z47 (.agg V2.toArray) r2):=⟨hx,hv⟩;clear hx hv))
       clear HWp H46
       have HRg:Box (z47.rangeAt Bm 0 V2):=⟨q0q H47.out.1.bm⟩
       go_upto_region 49 with (first
        | (refine atLoad 36 ?_;refine q0c rfl 36 _ _ rfl Tryz.underlying36 rfl Bm 0 rfl V2 HI2.out.1 HRg.out ?_)
        | (go_at_call 22;refine (rstop_h H47.out.2).mono ?_;rintro e z48 ⟨V3,rfl,hv,hb,hl,ha⟩;have H48:Box (Hx x1 z35 z48 D Bm d2 O V2/\Disk.Rv z48 (.agg V3.toArray) {r2 with left:=0}/\(Tryz.prog.info? 36).map (·.size)=some V3.toArray.size/\V2.toArray.size=V3.toArray.size/\V3.toArray.all (·.oneCell')=true/\V3.length=6):=⟨H47.out.1.below hb,hv,by rw [List.size_toArray,hl];exact Disk.infoD,by rw [List.size_toArray,List.size_toArray,hl,HI2.out.2.1],ha,hl⟩;clear hv hb hl ha)
        | (refine atStore _ ?_;refine wpList_store_row rfl 36 _ _ rfl Bm V3.toArray rfl rfl 36 _ H48.out.1.bm H48.out.2.2.1 H48.out.2.2.2.1 H48.out.2.2.2.2.1 ?_))
       have H49:Box (Hx x1 z35 (z48.setRow Bm V3.toArray) D Bm d2 O V3/\Disk.Rv (z48.setRow Bm V3.toArray) (.agg V3.toArray) {r2 with left:=0}/\V3.length=6/\(Tryz.prog.info? 36).map (·.size)=some V3.length):=⟨H48.out.1.put (q0s _ _ _) (setRow_heap _ _ _ _ _ _ H48.out.1.bm),q3m H48.out.2.1 (q0s _ _ _) H48.out.1.bm (by decide) (by decide),H48.out.2.2.2.2.2,by rw [H48.out.2.2.2.2.2];exact Disk.infoD⟩
       generalize z48.setRow Bm V3.toArray=z49 at H49 ⊢
       clear H47 HRg H48
       refine q1g (S:=fun x=>z49.heap.size<=x.heap.size) (by kernel_rfl) (fun wd hwd=>?_)
       have hS:z49.heap.size<=wd.heap.size:=by rw [hwd];exact Nat.le_refl _
       have hB:Below z49.heap.size z49 wd:=by rw [hwd];exact (Below.refl _ _).drew
       clear hwd
       have hM:wd.rangeAt Bm 0 V3:=q0q (H49.out.1.below hB).bm
       refine take_late 3 (fun x=>x.rangeAt Bm 0 V3) (i:=0) (v:=.agg V3.toArray) rfl (by kernel_rfl) (by kernel_rfl) (by kernel_rfl) (fun _ _ _ h=>h) (by rfl) (by decide) (by kernel_rfl) (by kernel_rfl) (fun w' _ hLat=>q0k 36 _ (.tmp 21) rfl Tryz.underlying36 rfl Bm 0 rfl V3 H49.out.2.2.2 hLat) hS hM ?_
       try simp only [Act.put,pC,pD,pE,pF,pG]
       refine z0c (i:=1) (by kernel_rfl) ?_
       refine q0d rfl (by rfl) ?_
       unfold Oper.wp
       rw [Disk.q5k _ _ rfl rfl rfl]
       obtain ⟨g9,e1x⟩:=nm wd.heap.size
       obtain ⟨y1,e2x⟩:=nm (wd.alloc (.cells (u8s Disk.z192) 5))
       have hy:Below wd.heap.size wd y1:=by rw [<-e2x];exact (Below.refl _ _).alloc (Nat.le_refl _) _
       have hby:Bytes y1 (some ⟨g9,0,none⟩) 192 Disk.z192:=by
        have:=q1c (w:=y1) (g:=g9) (X:=Disk.z192) (t:=5) (fr:=(0,0)) Disk.z1g (by rw [<-e2x,<-e1x];exact q0g rfl)
        rwa [Disk.q0y] at this
       have hB:=q0a hB hy
       have hM:=q0q (H49.out.1.below hB).bm
       have hS:z49.heap.size<=y1.heap.size:=hB.size
       simp only [e1x]
       change (z49.heap.size<=(wd.alloc (.cells (u8s Disk.z192) 5)).heap.size/\_)/\wpLate _ _ _ _ _ _ _ _ _ _ (wd.alloc (.cells (u8s Disk.z192) 5))
       simp only [e2x]
       refine ⟨⟨hS,fun _=>hM⟩,?_⟩
       clear e1x e2x hy
       try simp only [Act.put,pC,pD,pE,pF,pG,pH]
       refine z0c (i:=2) (by kernel_rfl) ?_
       refine q0d rfl (by rfl) ?_
       unfold Oper.wp
       rw [q3b (.tmp 203) rfl rfl hby]
       change (z49.heap.size<=y1.heap.size/\_)/\wpLate _ _ _ _ _ _ _ _ _ _ y1
       refine ⟨⟨hS,fun _=>hM⟩,?_⟩
       try simp only [Act.put,pC,pD,pE,pF,pG,pH]
       refine z0c (i:=3) (by kernel_rfl) ?_
       refine q0d rfl (by rfl) ?_
       go_simp
       refine Calls.mono (rwrite_h (H49.out.2.1.below hB) HI2.out.2.2.1 HI2.out.2.2.2.1 _ (by rw [Disk.q6v,Disk.q0y])) ?_
       rintro e y2 ⟨V4,rfl,hv,hb,hl,ha⟩
       have hB:=q0a hB hb
       have hS:z49.heap.size<=y2.heap.size:=hB.size
       have H50:Box (Hx x1 z35 y2 D Bm d2 O V3/\Disk.Rv y2 (.agg V4.toArray) {r2 with left:=0,down:=true}/\V4.length=6/\V4.toArray.all (·.oneCell')=true):=⟨H49.out.1.below hB,hv,hl,ha⟩
       clear hv hb hl ha
       refine ⟨hS,?_⟩
       try simp only [Act.put,pC,pD,pE,pF,pG,pH]
       refine late_of _ _ _ _ (by kernel_rfl) ?_
       refine take_y (i:=4) rfl hS ?_
       try simp only [Act.put,pC,pD,pE,pF,pG,pH]
       refine take_y (i:=5) rfl hS ?_
       try simp only [Act.put,pC,pD,pE,pF,pG,pH]
       refine take_y (i:=6) rfl hS ?_
       try simp only [Act.put,pC,pD,pE,pF,pG,pH]
       refine q0m (i:=7) (by kernel_rfl) (q0d rfl (by rfl) ?_)
       have hth:y2.there Bm 0 V4.toArray.size:=q0z H50.out.1.bm (by rw [List.size_toArray,List.size_toArray,H50.out.2.2.1,H49.out.2.2.1];omega)
       have hp:(y2.setCells Bm 0 V4).heap[Bm]?=some (.cells V4.toArray 36 (0,0))/\But Bm y2 (y2.setCells Bm 0 V4):=q4e (Z:=V3) H50.out.1.bm (by rw [H50.out.2.2.1,H49.out.2.2.1])
       refine wp_store_mid 36 (.tmp 21) (.tmp 206) rfl Bm 0 V4.toArray rfl rfl hth (by rw [List.size_toArray,H50.out.2.2.1];exact Disk.infoD) H50.out.2.2.2 ?_
       (try rw [List.toList_toArray])
       have hS9:z49.heap.size<=(y2.setCells Bm 0 V4).heap.size:=Nat.le_trans hS hp.2.size
       refine ⟨hS9,?_⟩
       try simp only [Act.put,pF,pG,pH]
       refine wpAnyH_done (by kernel_rfl) ?_ _
       have HEN:Box (Le x1 (y2.setCells Bm 0 V4) D Bm Bt Bc (dkS2 d2) O {r2 with left:=0,down:=true} V4 s1 K):=⟨HLE.out.1.halt (H50.out.1.put hp.2 hp.1) (q3m H50.out.2.1 hp.2 H50.out.1.bm (by decide) (by decide))⟩
       clear hp hth hS9 hS hB hM hby H50
       generalize y2.setCells Bm 0 V4=y9 at HEN ⊢
       go_wp2
       go_meet
       exact ⟨1,rfl,by omega,⟨_,O,_,V4,s1,K,HEN.out⟩⟩
      ·have e1:((od:Int)==1)=false:=by simp;omega
       have e2:((od:Int)==2)=false:=by simp;omega
       have e3:((od:Int)==3)=false:=by simp;omega
       have e4:((od:Int)==4)=false:=by simp;omega
       have e5:((od:Int)==5)=false:=by simp;omega
       clear o1 o2 o3 o4 o5
       go_wp2
       go_meet
       exact ⟨1,rfl,by omega,⟨d2,O,r2,V2,s1,K,HLE.out.1⟩⟩
     case rest=>
      obtain ⟨f0,hf0,hf1,hLe⟩:=hcut
      subst hf0
      obtain ⟨d3,O3,r3,V3,s3,K3,hle⟩:=hLe.out
      have HL3:Box (Le x1 wc D Bm Bt Bc d3 O3 r3 V3 s3 K3):=⟨hle⟩
      clear hle hLe HLE HS1 HSB
      obtain ⟨e0,PL,hp,hcode,href⟩:=HL3.out.load HT12.out.1 HT12.out.2.1 HKk.out.1 HKk.out.2.1 hf1
      have HPL:Box (PL.length<=1000/\∀c∈PL,c.length<=1000):=⟨hp⟩
      have HRf:Box (∀(x:World),Disk.Rv x (.agg V3.toArray) r3->Calls Tryz.prog 25 #[.agg V3.toArray,.agg (K3.map (Value.int .u8)).toArray,.int .i64 (f0:Int),.int .i64 (k:Int),.agg (sa s3)] x fun e z=>Below x.heap.size x z/\∃(V4:List Value) (u2a:Option Addr) (u2c:Nat) (Wn:List Wx),(V4.length=6/\V4.toArray.all (·.oneCell')=true)/\e=.returned (.tuple #[.agg V4.toArray,.slice u2a Wn.length u2c,.int .i64 e0])/\Wnt z x.heap.size (.slice u2a Wn.length u2c) Wn/\Wn.map (·.P)=PL):=⟨href⟩
      have HCd:Box (Calls Tryz.prog 24 #[.pointer (some ⟨D,0,none⟩),.agg (K3.map (Value.int .u8)).toArray,.int .i64 (f0:Int),.int .i64 (k:Int),.agg (scs s3).toArray] wc fun e z=>∃ua uc X,e=.returned (.tuple #[.slice ua X.length uc,.int .i64 e0])/\Igss z ua X/\plC X=PL/\(z.heap[Bm]?=some (.cells V3.toArray 36 (0,0))/\z.heap[Bt]?=some (.cells (sa s3) 27 (0,0))/\z.heap[Bc]?=some (.cells (u8s K3) 23 (0,0))/\Disk.Rv z (.agg V3.toArray) r3/\Below x1.heap.size x1 z)):=⟨hcode⟩
      have HI3:Box ((Tryz.prog.info? 23).map (·.size)=some (K3.map (Value.int .u8)).length/\(Tryz.prog.info? 27).map (·.size)=some (scs s3).length/\(Tryz.prog.info? 36).map (·.size)=some V3.length/\OkS s3):=⟨by rw [List.length_map,HL3.out.hk.1];exact infoSum,by rw [q0u HL3.out.hs];exact infoSt,by rw [q6d HL3.out.rv];exact Disk.infoD,HL3.out.hs⟩
      have HRg2:Box (wc.rangeAt Bc 0 (K3.map (Value.int .u8))/\wc.rangeAt Bt 0 (scs s3)):=⟨q0q (cs:=K3.map (Value.int .u8)) HL3.out.bc,q0q (cs:=scs s3) HL3.out.bt⟩
      clear hp hcode href HL3
      go_upto_region 51 with (first
       | (refine atLoad 23 ?_;refine q0c rfl 23 _ _ rfl Tryz.underlying23 rfl Bc 0 rfl (K3.map (Value.int .u8)) HI3.out.1 HRg2.out.1 ?_)
       | (refine atLoad 27 ?_;refine q0c rfl 27 _ _ rfl Tryz.underlying27 rfl Bt 0 rfl (scs s3) HI3.out.2.1 HRg2.out.2 ?_)
       | (go_at_call 24;refine Calls.mono HCd.out ?_;rintro e y5 ⟨ua,uc,X5,rfl,hi,hpl,h1,h2,h3,h4,h5⟩;have H5:Box ((Igss y5 ua X5/\plC X5=PL)/\y5.heap[Bm]?=some (.cells V3.toArray 36 (0,0))/\y5.heap[Bt]?=some (.cells (sa s3) 27 (0,0))/\y5.heap[Bc]?=some (.cells (u8s K3) 23 (0,0))/\Disk.Rv y5 (.agg V3.toArray) r3/\Below x1.heap.size x1 y5):=⟨⟨hi,hpl⟩,h1,h2,h3,h4,h5⟩;clear hi hpl h1 h2 h3 h4 h5))
      clear HRg2 HCd
      have HRg5:Box (∀x,Below y5.heap.size y5 x->x.rangeAt Bm 0 V3/\x.rangeAt Bc 0 (K3.map (Value.int .u8))/\x.rangeAt Bt 0 (scs s3)/\Disk.Rv x (.agg V3.toArray) r3/\Below w.heap.size w x/\Igss x ua X5):=⟨fun x hx=>by
       have h:=H5.out
       have lt:=fun {q:Nat} {c:Array Value} {t:TypeId} {f:Nat × Nat} (h:y5.heap[q]?=some (.cells c t f))=>(gE h)
       exact ⟨q0q ((hx.block _ (lt h.2.1)).trans h.2.1),q0q (cs:=K3.map (Value.int .u8)) ((hx.block _ (lt h.2.2.2.1)).trans h.2.2.2.1),q0q (cs:=scs s3) ((hx.block _ (lt h.2.2.1)).trans h.2.2.1),h.2.2.2.2.1.below hx,(HX.out x (q0a HW1.out (q0a h.2.2.2.2.2 hx))).2.2.2.2,h.1.1.below hx⟩⟩
      have HPX:Box (plC X5=PL/\X5.length<=1000/\∀c∈X5,c.l<=1000):=⟨H5.out.1.2,by have:=congrArg List.length H5.out.1.2;simp only [plC,List.length_map] at this;have:=HPL.out.1;omega,fun c hc=>by
       have h6:c.M.map pl∈plC X5:=List.mem_map_of_mem (f:=fun c:Sx=>c.M.map pl) hc
       rw [H5.out.1.2] at h6
       have h7:=HPL.out.2 _ h6
       rw [List.length_map,(H5.out.1.1.im c hc).1] at h7
       exact h7⟩
      have HSx:Box (∀x,Calls Tryz.prog 26 #[.agg (scs s3).toArray] x fun e w'=>e=.returned (.agg (sa s3))/\Below x.heap.size x w'):=⟨fun x=>z5a s3 HI3.out.2.2.2 x⟩
      clear H5 HX HW1
      go_cut [44,45] from 217 to 227 (fun nv gv wx=>∃(u2a:Option Addr) (u2c:Nat) (Wn:List Wx),nv=.slice u2a Wn.length u2c/\gv=.int .i64 e0/\Box (Below w.heap.size w wx/\Igss wx ua X5/\Rws wx u2a Wn/\Wn.map (·.P)=PL/\Wn.length=X5.length))
      case first=>
       refine q1g (S:=fun x=>Below y5.heap.size y5 x) (by kernel_rfl) (fun wd hwd=>?_)
       have hS:Below y5.heap.size y5 wd:=by rw [hwd];exact (Below.refl _ _).drew
       clear hwd
       refine take_x (i:=0) (v:=.agg V3.toArray) rfl (fun w' hLat=>q0k 36 _ (.tmp 21) rfl Tryz.underlying36 rfl Bm 0 rfl V3 HI3.out.2.2.1 ((HRg5.out w' hLat).1)) hS ?_
       try simp only [Act.put,pC,pD,pE,pF,pG]
       refine take_x (i:=1) (v:=.agg (K3.map (Value.int .u8)).toArray) rfl (fun w' hLat=>q0k 23 _ (.tmp 40) rfl Tryz.underlying23 rfl Bc 0 rfl (K3.map (Value.int .u8)) HI3.out.1 ((HRg5.out w' hLat).2.1)) hS ?_
       try simp only [Act.put,pC,pD,pE,pF,pG,pH]
       refine take_y (i:=2) rfl hS ?_
       try simp only [Act.put,pC,pD,pE,pF,pG,pH]
       refine take_y (i:=3) rfl hS ?_
       try simp only [Act.put,pC,pD,pE,pF,pG,pH]
       refine take_x (i:=4) (v:=.agg (scs s3).toArray) rfl (fun w' hLat=>q0k 27 _ (.tmp 37) rfl Tryz.underlying27 rfl Bt 0 rfl (scs s3) HI3.out.2.1 ((HRg5.out w' hLat).2.2.1)) hS ?_
       try simp only [Act.put,pC,pD,pE,pF,pG,pH]
       refine q2d (i:=5) (j:=11) (by kernel_rfl) ?_ ?_
       ·skip
        refine q0d rfl (by rfl) ?_
        go_simp
        refine Calls.mono (HSx.out _) ?_
        rintro e q1 ⟨rfl,hb⟩
        have hS:=q0a hS hb
        clear hb
        refine ⟨hS,?_⟩
        try simp only [Act.put,pC,pD,pE,pF,pG,pH]
        refine q2d (i:=6) (j:=11) (by kernel_rfl) ?_ ?_
        ·skip
         refine q0d rfl (by rfl) ?_
         go_simp
         refine Calls.mono (HRf.out _ (HRg5.out _ hS).2.2.2.1) ?_
         rintro e q2 ⟨hb,V4,u2a,u2c,Wn,hV4,rfl,hW,hWp⟩
         have hS:=q0a hS hb
         clear hb
         refine ⟨hS,?_⟩
         try simp only [Act.put,pC,pD,pE,pF,pG,pH]
         refine take_y (i:=7) rfl hS ?_
         try simp only [Act.put,pC,pD,pE,pF,pG,pH]
         refine take_y (i:=8) rfl hS ?_
         try simp only [Act.put,pC,pD,pE,pF,pG,pH]
         refine take_y (i:=9) rfl hS ?_
         try simp only [Act.put,pC,pD,pE,pF,pG,pH]
         refine take_y (i:=10) rfl hS ?_
         try simp only [Act.put,pC,pD,pE,pF,pG,pH]
         refine q0m (i:=11) (by kernel_rfl) ?_
         refine q0d rfl (by rfl) ?_
         unfold Oper.wp
         rw [q0e 36 rfl _ Disk.zeroD]
         obtain ⟨b30,e1x⟩:=nm q2.heap.size
         have g9:y5.heap.size<=b30:=by rw [<-e1x];exact hS.size
         obtain ⟨q3,e2x⟩:=nm (q2.alloc (.cells zD.toArray 36))
         have hb:Below q2.heap.size q2 q3:=by rw [<-e2x];exact (q5n _ _ _).2
         have n9:Nb q3 b30 zD.toArray 36:=by rw [<-e1x,<-e2x];exact (q5n _ _ _).1
         have hW:=hW.to hb
         have hS:=q0a hS hb
         simp only [e1x]
         change Below _ _ (q2.alloc (.cells zD.toArray 36))/\wpAnyH _ _ _ _ _ _ _ _ (q2.alloc (.cells zD.toArray 36))
         simp only [e2x]
         clear hb e1x e2x
         refine ⟨hS,?_⟩
         try simp only [Act.put,pC,pD,pE,pF,pG,pH]
         refine q0m (i:=12) (by kernel_rfl) (q0d rfl (by rfl) ?_)
         have hth:q3.there b30 0 V4.toArray.size:=q0z n9 (by rw [List.size_toArray,hV4.1];decide)
         have hbt:But b30 q3 (q3.setCells b30 0 V4):=But.setCells _ _ (But.refl _ _)
         have hW9:=Wnt.but hW hbt n9
         have hS9:Below y5.heap.size y5 (q3.setCells b30 0 V4):=hS.trans (hbt.below g9 hS.size)
         refine wp_store_mid 36 (.tmp 43) (.tmp 225) rfl b30 0 V4.toArray rfl rfl hth (by rw [List.size_toArray,hV4.1];exact Disk.infoD) hV4.2 ?_
         (try rw [List.toList_toArray])
         refine ⟨hS9,?_⟩
         try simp only [Act.put,pF,pG,pH]
         refine take_y (i:=13) rfl hS9 ?_
         try simp only [Act.put,pC,pD,pE,pF,pG,pH]
         refine take_y (i:=14) rfl hS9 ?_
         try simp only [Act.put,pC,pD,pE,pF,pG,pH]
         refine wpAnyH_done (by kernel_rfl) ?_ _
         have HZ:Box (Below w.heap.size w (q3.setCells b30 0 V4)/\Igss (q3.setCells b30 0 V4) ua X5/\Rws (q3.setCells b30 0 V4) u2a Wn/\Wn.map (·.P)=PL/\Wn.length=X5.length):=⟨(HRg5.out _ hS9).2.2.2.2.1,(HRg5.out _ hS9).2.2.2.2.2,Wnt.rws hW9,hWp,by have h1:=congrArg List.length hWp;have h2:=congrArg List.length HPX.out.1;simp only [plC,List.length_map] at h1 h2;omega⟩
         clear hW9 hW hS9 hbt hth n9 g9 hS hV4 hWp
         go_wp2
         go_meet
         exact ⟨u2a,u2c,Wn,rfl,rfl,HZ⟩
        ·skip
         refine q0d rfl (by rfl) ?_
         unfold Oper.wp
         rw [q0e 36 rfl _ Disk.zeroD]
         obtain ⟨b30,e1x⟩:=nm q1.heap.size
         have g9:y5.heap.size<=b30:=by rw [<-e1x];exact hS.size
         obtain ⟨q3,e2x⟩:=nm (q1.alloc (.cells zD.toArray 36))
         have hb:Below q1.heap.size q1 q3:=by rw [<-e2x];exact (q5n _ _ _).2
         have n9:Nb q3 b30 zD.toArray 36:=by rw [<-e1x,<-e2x];exact (q5n _ _ _).1
         have hS:=q0a hS hb
         simp only [e1x]
         change Below _ _ (q1.alloc (.cells zD.toArray 36))/\wpAnyH _ _ _ _ _ _ _ _ (q1.alloc (.cells zD.toArray 36))
         simp only [e2x]
         clear hb e1x e2x
         refine ⟨hS,?_⟩
         try simp only [Act.put,pC,pD,pE,pF,pG,pH]
         refine q0m (i:=6) (by kernel_rfl) ?_
         refine q0d rfl (by rfl) ?_
         go_simp
         refine Calls.mono (HRf.out _ (HRg5.out _ hS).2.2.2.1) ?_
         rintro e q2 ⟨hb,V4,u2a,u2c,Wn,hV4,rfl,hW,hWp⟩
         have n9:=n9.below hb
         have hS:=q0a hS hb
         clear hb
         refine ⟨hS,?_⟩
         try simp only [Act.put,pC,pD,pE,pF,pG,pH]
         refine take_y (i:=7) rfl hS ?_
         try simp only [Act.put,pC,pD,pE,pF,pG,pH]
         refine take_y (i:=8) rfl hS ?_
         try simp only [Act.put,pC,pD,pE,pF,pG,pH]
         refine take_y (i:=9) rfl hS ?_
         try simp only [Act.put,pC,pD,pE,pF,pG,pH]
         refine take_y (i:=10) rfl hS ?_
         try simp only [Act.put,pC,pD,pE,pF,pG,pH]
         refine q0m (i:=12) (by kernel_rfl) (q0d rfl (by rfl) ?_)
         have hth:q2.there b30 0 V4.toArray.size:=q0z n9 (by rw [List.size_toArray,hV4.1];decide)
         have hbt:But b30 q2 (q2.setCells b30 0 V4):=But.setCells _ _ (But.refl _ _)
         have hW9:=Wnt.but hW hbt n9
         have hS9:Below y5.heap.size y5 (q2.setCells b30 0 V4):=hS.trans (hbt.below g9 hS.size)
         refine wp_store_mid 36 (.tmp 43) (.tmp 225) rfl b30 0 V4.toArray rfl rfl hth (by rw [List.size_toArray,hV4.1];exact Disk.infoD) hV4.2 ?_
         (try rw [List.toList_toArray])
         refine ⟨hS9,?_⟩
         try simp only [Act.put,pF,pG,pH]
         refine take_y (i:=13) rfl hS9 ?_
         try simp only [Act.put,pC,pD,pE,pF,pG,pH]
         refine take_y (i:=14) rfl hS9 ?_
         try simp only [Act.put,pC,pD,pE,pF,pG,pH]
         refine wpAnyH_done (by kernel_rfl) ?_ _
         have HZ:Box (Below w.heap.size w (q2.setCells b30 0 V4)/\Igss (q2.setCells b30 0 V4) ua X5/\Rws (q2.setCells b30 0 V4) u2a Wn/\Wn.map (·.P)=PL/\Wn.length=X5.length):=⟨(HRg5.out _ hS9).2.2.2.2.1,(HRg5.out _ hS9).2.2.2.2.2,Wnt.rws hW9,hWp,by have h1:=congrArg List.length hWp;have h2:=congrArg List.length HPX.out.1;simp only [plC,List.length_map] at h1 h2;omega⟩
         clear hW9 hW hS9 hbt hth n9 g9 hS hV4 hWp
         go_wp2
         go_meet
         exact ⟨u2a,u2c,Wn,rfl,rfl,HZ⟩
       ·skip
        refine q0d rfl (by rfl) ?_
        unfold Oper.wp
        rw [q0e 36 rfl _ Disk.zeroD]
        obtain ⟨b30,e1x⟩:=nm wd.heap.size
        have g9:y5.heap.size<=b30:=by rw [<-e1x];exact hS.size
        obtain ⟨q3,e2x⟩:=nm (wd.alloc (.cells zD.toArray 36))
        have hb:Below wd.heap.size wd q3:=by rw [<-e2x];exact (q5n _ _ _).2
        have n9:Nb q3 b30 zD.toArray 36:=by rw [<-e1x,<-e2x];exact (q5n _ _ _).1
        have hS:=q0a hS hb
        simp only [e1x]
        change Below _ _ (wd.alloc (.cells zD.toArray 36))/\wpAnyH _ _ _ _ _ _ _ _ (wd.alloc (.cells zD.toArray 36))
        simp only [e2x]
        clear hb e1x e2x
        refine ⟨hS,?_⟩
        try simp only [Act.put,pC,pD,pE,pF,pG,pH]
        refine q0m (i:=5) (by kernel_rfl) ?_
        refine q0d rfl (by rfl) ?_
        go_simp
        refine Calls.mono (HSx.out _) ?_
        rintro e q1 ⟨rfl,hb⟩
        have n9:=n9.below hb
        have hS:=q0a hS hb
        clear hb
        refine ⟨hS,?_⟩
        try simp only [Act.put,pC,pD,pE,pF,pG,pH]
        refine q0m (i:=6) (by kernel_rfl) ?_
        refine q0d rfl (by rfl) ?_
        go_simp
        refine Calls.mono (HRf.out _ (HRg5.out _ hS).2.2.2.1) ?_
        rintro e q2 ⟨hb,V4,u2a,u2c,Wn,hV4,rfl,hW,hWp⟩
        have n9:=n9.below hb
        have hS:=q0a hS hb
        clear hb
        refine ⟨hS,?_⟩
        try simp only [Act.put,pC,pD,pE,pF,pG,pH]
        refine take_y (i:=7) rfl hS ?_
        try simp only [Act.put,pC,pD,pE,pF,pG,pH]
        refine take_y (i:=8) rfl hS ?_
        try simp only [Act.put,pC,pD,pE,pF,pG,pH]
        refine take_y (i:=9) rfl hS ?_
        try simp only [Act.put,pC,pD,pE,pF,pG,pH]
        refine take_y (i:=10) rfl hS ?_
        try simp only [Act.put,pC,pD,pE,pF,pG,pH]
        refine q0m (i:=12) (by kernel_rfl) (q0d rfl (by rfl) ?_)
        have hth:q2.there b30 0 V4.toArray.size:=q0z n9 (by rw [List.size_toArray,hV4.1];decide)
        have hbt:But b30 q2 (q2.setCells b30 0 V4):=But.setCells _ _ (But.refl _ _)
        have hW9:=Wnt.but hW hbt n9
        have hS9:Below y5.heap.size y5 (q2.setCells b30 0 V4):=hS.trans (hbt.below g9 hS.size)
        refine wp_store_mid 36 (.tmp 43) (.tmp 225) rfl b30 0 V4.toArray rfl rfl hth (by rw [List.size_toArray,hV4.1];exact Disk.infoD) hV4.2 ?_
        (try rw [List.toList_toArray])
        refine ⟨hS9,?_⟩
        try simp only [Act.put,pF,pG,pH]
        refine take_y (i:=13) rfl hS9 ?_
        try simp only [Act.put,pC,pD,pE,pF,pG,pH]
        refine take_y (i:=14) rfl hS9 ?_
        try simp only [Act.put,pC,pD,pE,pF,pG,pH]
        refine wpAnyH_done (by kernel_rfl) ?_ _
        have HZ:Box (Below w.heap.size w (q2.setCells b30 0 V4)/\Igss (q2.setCells b30 0 V4) ua X5/\Rws (q2.setCells b30 0 V4) u2a Wn/\Wn.map (·.P)=PL/\Wn.length=X5.length):=⟨(HRg5.out _ hS9).2.2.2.2.1,(HRg5.out _ hS9).2.2.2.2.2,Wnt.rws hW9,hWp,by have h1:=congrArg List.length hWp;have h2:=congrArg List.length HPX.out.1;simp only [plC,List.length_map] at h1 h2;omega⟩
        clear hW9 hW hS9 hbt hth n9 g9 hS hV4 hWp
        go_wp2
        go_meet
        exact ⟨u2a,u2c,Wn,rfl,rfl,HZ⟩
      case rest=>
       obtain ⟨u2a,u2c,Wn,rfl,rfl,HZ⟩:=hcut
       have HAo:Box _:=⟨allOf_any ua uc X5 wc HZ.out.2.1 (by have:=HPX.out.2.1;omega) (fun c hc=>by have:=HPX.out.2.2 c hc;omega)⟩
       have hee:(e0==e0)=true:=by simp
       rw [HZ.out.2.2.2.2]
       clear HSx HRg5 HRf HI3 HT12
       go_wp2_with (first
        | (go_at_call 28;refine Calls.mono HAo.out ?_;rintro e zA ⟨va0,A5,rfl,hao⟩;obtain ⟨va,vc,rfl⟩:=q0l hao.wn.row;have HA5:Box (Rws zA va A5/\Rws zA u2a Wn/\A5.map (·.P)=Wn.map (·.P)/\A5.length=X5.length/\(∀x∈A5,x.l<=1000)/\Below w.heap.size w zA):=⟨Wnt.rws hao.wn,HZ.out.2.2.1.below hao.bel,by rw [hao.eq,HZ.out.2.2.2.1,HPX.out.1,List.take_of_length_le (by rw [<-HPX.out.1];simp [plC])],by have:=congrArg List.length hao.eq;simp [plC] at this;omega,fun x hx=>by (have h1:x.P∈A5.map (·.P):=List.mem_map_of_mem (f:=fun x:Wx=>x.P) hx;rw [hao.eq] at h1;have h2:=List.mem_of_mem_take h1;rw [HPX.out.1] at h2;have h3:=HPL.out.2 _ h2;rw [(hao.wn.im x hx).1] at h3;omega),q0a HZ.out.1 hao.bel⟩;rw [HA5.out.2.2.2.1];clear hao)
        | (go_at_call 27;refine Calls.mono (z3q va u2a vc u2c X5.length A5 Wn zA HA5.out.1 HA5.out.2.1 HA5.out.2.2.2.1 HZ.out.2.2.2.2 HA5.out.2.2.1 (by have:=HPX.out.2.1;omega) HA5.out.2.2.2.2.1) ?_;rintro e zB ⟨rfl,hb⟩;have HBl:Box (Below w.heap.size w zB):=⟨q0a HA5.out.2.2.2.2.2 hb⟩;clear hb))
       go_ret
       exact ⟨rfl,HBl.out⟩⟩
 have HLeaf:Box (∀(Bw:Nat) (y:World),Below x5.heap.size x5 y->Nb y Bw ZJ 44->x5.heap.size<=Bw->G 2 #[true,true,true,true,true,true,true,true,true,true,true,true,true,false,false] ((((((A0.put (some 86) (Value.tuple #[Value.agg RQ.toArray,Value.int IntKind.i64 0])).put (some 77) (Value.tuple #[Value.agg RQ.toArray,Value.int IntKind.i64 0])).put (some 87) (Value.agg RQ.toArray)).put (some 88) (Value.int IntKind.i64 0))).put (some 25) (Value.pointer (some {block:=Bw,off:=0}))) y):=⟨by
  intro Bw y hS nb hlo
  rw [hG,hA0]
  simp only [Act.put,pC,pD,pE]
  refine q0m (i:=13) (by kernel_rfl) (q0d rfl (by rfl) ?_)
  refine wp_store_mid 44 (.tmp 25) (.tmp 87) rfl Bw 0 RQ.toArray rfl rfl (q0z nb (by rw [HRQ.out.2.2.2.1];omega)) HRQ.out.2.2.1 HRQ.out.2.2.2.2 ?_
  rw [List.toList_toArray]
  have hp:(y.setCells Bw 0 RQ).heap[Bw]?=some (.cells RQ.toArray 44 (0,0))/\But Bw y (y.setCells Bw 0 RQ):=q4e (Z:=ZJ.toList) (by rw [Array.toArray_toList];exact nb) (by rw [Array.length_toList,HRQ.out.2.2.2.1,List.size_toArray])
  have hS2:Below x5.heap.size x5 (y.setCells Bw 0 RQ):=q1i hS hp.2 hlo hS.size
  refine ⟨hS2,?_⟩
  try simp only [Act.put,pF,pG,pH]
  refine take_y (i:=14) rfl hS2 ?_
  try simp only [Act.put,pC,pD,pE,pF,pG,pH]
  refine wpAnyH_done (by kernel_rfl) ?_ _
  show K10 _ _
  exact act_to (K:=K10) (by rw [hA0];kernel_rfl) (HRest.out Bw _ hS2 hp.1 hlo)⟩
 rw [hG,hA0]
 refine q2d (i:=8) (j:=12) (by kernel_rfl) ?_ ?_
 ·as_aux_lemma=>
   refine q0d rfl (by rfl) ?_
   go_simp
   refine Calls.mono (HRN.out _) ?_
   rintro e y ⟨rfl,hb⟩
   have hS:=q0a hS hb
   clear hb
   refine ⟨hS,?_⟩
   try simp only [Act.put,pC,pD,pE,pF,pG,pH]
   refine take_y (i:=9) rfl hS ?_
   try simp only [Act.put,pC,pD,pE,pF,pG,pH]
   refine take_y (i:=10) rfl hS ?_
   try simp only [Act.put,pC,pD,pE,pF,pG,pH]
   refine take_y (i:=11) rfl hS ?_
   try simp only [Act.put,pC,pD,pE,pF,pG,pH]
   refine q0m (i:=12) (by kernel_rfl) ?_
   refine q0d rfl (by rfl) ?_
   unfold Oper.wp
   rw [q0e 44 rfl _ HZJ.out.1]
   obtain ⟨Bw,e1⟩:=nm y.heap.size
   obtain ⟨z,e2⟩:=nm (y.alloc (.cells ZJ 44))
   have hb:Below y.heap.size y z:=by rw [<-e2];exact (q5n _ _ _).2
   have nb:Nb z Bw ZJ 44:=by rw [<-e1,<-e2];exact (q5n _ _ _).1
   have hlo:x5.heap.size<=Bw:=by rw [<-e1];exact hS.size
   have hS:=q0a hS hb
   simp only [e1,e2]
   clear hb e1 e2
   refine ⟨hS,?_⟩
   try simp only [Act.put,pC,pD,pE,pF,pG,pH]
   exact dag_to2 hG (by kernel_rfl) (by rw [hA0];kernel_rfl) (HLeaf.out Bw _ hS nb hlo)
 ·as_aux_lemma=>
   refine q0d rfl (by rfl) ?_
   unfold Oper.wp
   rw [q0e 44 rfl _ HZJ.out.1]
   obtain ⟨Bw,e1⟩:=nm wd.heap.size
   obtain ⟨z,e2⟩:=nm (wd.alloc (.cells ZJ 44))
   have hb:Below wd.heap.size wd z:=by rw [<-e2];exact (q5n _ _ _).2
   have nb:Nb z Bw ZJ 44:=by rw [<-e1,<-e2];exact (q5n _ _ _).1
   have hlo:x5.heap.size<=Bw:=by rw [<-e1];exact hS.size
   have hS:=q0a hS hb
   simp only [e1,e2]
   clear hb e1 e2
   refine ⟨hS,?_⟩
   try simp only [Act.put,pC,pD,pE,pF,pG,pH]
   refine q0m (i:=8) (by kernel_rfl) ?_
   refine q0d rfl (by rfl) ?_
   go_simp
   refine Calls.mono (HRN.out _) ?_
   rintro e y ⟨rfl,hb⟩
   have hS:=q0a hS hb
   have nb:=nb.below hb
   clear hb
   refine ⟨hS,?_⟩
   try simp only [Act.put,pC,pD,pE,pF,pG,pH]
   refine take_y (i:=9) rfl hS ?_
   try simp only [Act.put,pC,pD,pE,pF,pG,pH]
   refine take_y (i:=10) rfl hS ?_
   try simp only [Act.put,pC,pD,pE,pF,pG,pH]
   refine take_y (i:=11) rfl hS ?_
   try simp only [Act.put,pC,pD,pE,pF,pG,pH]
   exact dag_to2 hG (by kernel_rfl) (by rw [hA0];kernel_rfl) (HLeaf.out Bw _ hS nb hlo)
end Go.Proofs.YtjejnlebpcjidaaGreatDoor
