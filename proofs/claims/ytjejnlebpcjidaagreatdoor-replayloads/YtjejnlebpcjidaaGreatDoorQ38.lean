/-
 Where a state may not be one of the ring: journal.New refuses, the reference's New too, and so does Load. And what follows it.
-/
import Derived.Test.YtjejnlebpcjidaaGreatDoorQ32
import Derived.Test.YtjejnlebpcjidaaGreatDoorQ34
import Derived.Test.YtjejnlebpcjidaaGreatDoorQ37
import Derived.Test.YtjejnlebpcjidaaGreatDoorQ36
import Derived.Test.YtjejnlebpcjidaaGreatDoorQ35
import Derived.Test.YtjejnlebpcjidaaGreatDoorQ28
set_option linter.unusedVariables false
set_option maxRecDepth 100000
set_option maxRecDepth 100000
namespace Go.Proofs.YtjejnlebpcjidaaGreatDoor
open Go.RowKit Plain
attribute [local go_sem] Oper.semAt_some
theorem jnew_no {w0 w:World} {D:Nat} {fp:Nat->Prop} {d:Disk.Dk} (C:Disk.Cx w0 w D fp d) (K:List Int) (hK:K.length=32/\Byt K) (f n:Nat) (h1:1<=n) (hfit:f+n<=d.n) (hdn:d.n<=4096) (s:Jst) (hs:OkS s) (hm:may n s=false) (nx lim:Int):
  Calls Tryz.prog 8 #[.pointer (some ⟨D,0,none⟩),.agg (u8s K),.int .i64 (f:Int),.int .i64 (n:Int),.agg (sa s),.int .u64 nx,.int .u64 lim] w fun e w'=>e=.returned (.tuple #[.pointer none,.int .i64 1])/\Below w.heap.size w w':=by
 obtain ⟨S,hS⟩:=nm w.heap.size
 obtain ⟨AK,hAK⟩:=nm (u8s K)
 obtain ⟨w1,hw1⟩:=nm ((w.alloc (.cells AK 23)).alloc (.cells (sa s) 27))
 have hb1:Below w.heap.size w w1:=by rw [<-hw1];exact ((Below.refl _ _).alloc (Nat.le_refl _) _).alloc (by simp) _
 have k1:w1.heap[S]?=some (.cells AK 23 (0,0)):=by rw [<-hw1];exact q0i (q0g hS)
 have k2:w1.heap[S+1]?=some (.cells (sa s) 27 (0,0)):=by rw [<-hw1];exact q0g (by simp [hS])
 have HSI:Box (Calls Tryz.prog 31 #[.pointer (some ⟨D,0,none⟩)] w1 fun e w'=>e=.returned (.int .i64 (d.n:Int))/\w1=w'):=⟨Disk.size_cx (C.step hb1)⟩
 obtain ⟨J,hJ⟩:=nm w1.heap.size
 obtain ⟨w2,hw2⟩:=nm (w1.alloc (.cells (jq (.pointer (some ⟨D,0,none⟩)) K (f:Int) (n:Int) s nx lim).toArray 88))
 have hb2:Below w1.heap.size w1 w2:=by rw [<-hw2];exact (Below.refl _ _).alloc (Nat.le_refl _) _
 have r2:w2.heap[J]?=some (.cells (jcs D ⟨K,f,n,s,nx,lim⟩).toArray 88 (0,0)):=by rw [<-hw2];exact q0g hJ
 have HMA:Box (Calls Tryz.prog 32 #[.pointer (some ⟨J,0,none⟩),.agg (sa s)] w2 fun e w'=>e=.returned (.bool false)/\Below w2.heap.size w2 w'):=⟨by have:=q9c (q9u r2 hK.1 hs) s (gE r2);rw [show may (⟨K,f,n,s,nx,lim⟩:Jt).size s=false from hm] at this;exact this⟩
 have HK1:Box (∀x,Below w1.heap.size w1 x->x.rangeAt S 0 (K.map (Value.int .u8))/\x.rangeAt (S+1) 0 (scs s)):=⟨fun x hx=>⟨fun i v hv=>by
  rw [cell_of_row _ _ _ _ _ _ ((hx.block S (gE k1)).trans k1),Nat.zero_add,<-hAK]
  simpa [u8s] using hv,q3q ((hx.block (S+1) (gE k2)).trans k2)⟩⟩
 have HIL:Box ((Tryz.prog.info? 23).map (·.size)=some (K.map (Value.int .u8)).length/\(Tryz.prog.info? 27).map (·.size)=some (scs s).length):=⟨by rw [List.length_map,hK.1];exact infoSum,by rw [q0u hs];exact infoSt⟩
 have HBJ:Box (Tryz.prog.built 88 [(0,.pointer (some ⟨D,0,none⟩)),(1,.agg AK),(2,.int .u64 (f:Int)),(3,.int .u64 (n:Int)),(4,.agg (sa s)),(5,.int .u64 nx),(6,.int .u64 lim)]=some (jq (.pointer (some ⟨D,0,none⟩)) K (f:Int) (n:Int) s nx lim).toArray):=⟨by rw [<-hAK];exact built_J _ rfl K _ _ s nx lim hK.1 hs⟩
 have HAK:Box ((K.map (Value.int .u8)).toArray=AK/\(scs s).toArray=sa s):=⟨by rw [<-hAK];rfl,rfl⟩
 have HFI:Box (Below w.heap.size w w2):=⟨q0a hb1 hb2⟩
 obtain ⟨r,hr⟩:=nm (d.n-f)
 have hwr:IntKind.i64.wrap ((d.n:Int)-(f:Int))=(r:Int):=by rw [IntKind.wrap_i64];omega
 have g1:¬(f:Int)<0:=by omega
 have g2:¬(n:Int)<1:=by omega
 have g3:decide (r<n)=false:=by simp;omega
 have hwf:IntKind.u64.wrap (f:Int)=(f:Int):=by rw [IntKind.wrap_u64];omega
 have hwn:IntKind.u64.wrap (n:Int)=(n:Int):=by rw [IntKind.wrap_u64];omega
 have hs2:(w.alloc (.cells AK 23)).heap.size=S+1:=by simp [hS]
 rw [hAK]
 have HJ:Box (w1.heap.size=J):=⟨hJ⟩
 clear C hK h1 hfit hdn hs hm k1 k2 hb1 hb2 r2 hAK hr hJ
 go_enter Tryz.func8,Tryz.ntmps8
 go_upto_region 1 with fail
 (try rw [hs2])
 (try simp only [hS,hw1])
 clear hs2 hw1 hS
 have HR1:=HK1.out w1 (Below.refl _ _)
 have HRa:Box (w1.rangeAt S 0 (K.map (Value.int .u8))):=⟨HR1.1⟩
 have HRb:Box (w1.rangeAt (S+1) 0 (scs s)):=⟨HR1.2⟩
 clear HR1
 go_upto_region 4 with (first
  | (go_at_call 31;refine HSI.out.mono ?_;rintro e x1 ⟨rfl,rfl⟩)
  | (refine atLoad 23 ?_;refine q0c rfl 23 _ _ rfl Tryz.underlying23 rfl S 0 rfl (K.map (Value.int .u8)) HIL.out.1 HRa.out ?_;rw [HAK.out.1])
  | (refine atLoad 27 ?_;refine q0c rfl 27 _ _ rfl Tryz.underlying27 rfl (S+1) 0 rfl (scs s) HIL.out.2 HRb.out ?_;rw [HAK.out.2])
  | (refine atBuild 88 ?_;refine q0b rfl _ _ (q0n 88 [(0,.tmp 31),(1,.tmp 32),(2,.tmp 34),(3,.tmp 36),(4,.tmp 37),(5,.tmp 38),(6,.tmp 39)] rfl [(0,.pointer (some ⟨D,0,none⟩)),(1,.agg AK),(2,.int .u64 (f:Int)),(3,.int .u64 (n:Int)),(4,.agg (sa s)),(5,.int .u64 nx),(6,.int .u64 lim)] rfl _ HBJ.out) ?_))
 (try simp only [HJ.out])
 have HRc:Box (w2.rangeAt (S+1) 0 (scs s)):=⟨(HK1.out w2 (by rw [<-hw2];exact (Below.refl _ _).alloc (Nat.le_refl _) _)).2⟩
 clear hw2 HRa HRb HK1 HSI HBJ
 go_wp2_with (first
  | (go_at_call 32;refine HMA.out.mono ?_;rintro e x2 ⟨rfl,hb⟩;have H2:Box (Below w2.heap.size w2 x2):=⟨hb⟩;clear hb)
  | (refine atLoad 27 ?_;refine q0c rfl 27 _ _ rfl Tryz.underlying27 rfl (S+1) 0 rfl (scs s) HIL.out.2 HRc.out ?_;rw [HAK.out.2]))
 go_ret2
 exact ⟨rfl,q0a HFI.out H2.out⟩
theorem rnew13_no (P f n:Nat) (h1:1<=n) (hfit:f+n<=P) (hP:P<=4096) (K:List Int) (hK:K.length=32) (s:Jst) (hs:OkS s) (hm:may n s=false) (nx lim:Int) (w:World):
  Calls Tryz.prog 9 #[.int .i64 (P:Int),.agg (u8s K),.int .i64 (f:Int),.int .i64 (n:Int),.agg (sa s),.int .u64 nx,.int .u64 lim] w fun e w'=>e=.returned (.tuple #[.agg (rq z32 0 0 zs 0 0).toArray,.int .i64 1])/\Below w.heap.size w w':=by
 obtain ⟨S,hS⟩:=nm w.heap.size
 obtain ⟨AK,hAK⟩:=nm (u8s K)
 obtain ⟨AZ,hAZ⟩:=nm ((rq z32 0 0 zs 0 0).toArray)
 obtain ⟨w1,hw1⟩:=nm (((w.alloc (.cells AK 23)).alloc (.cells (sa s) 42)).alloc (.cells AZ 44))
 have hs1:(w.alloc (.cells AK 23)).heap.size=S+1:=by simp [hS]
 have hs2:((w.alloc (.cells AK 23)).alloc (.cells (sa s) 42)).heap.size=S+2:=by simp [hS]
 have hb1:Below w.heap.size w w1:=by rw [<-hw1];exact (((Below.refl _ _).alloc (Nat.le_refl _) _).alloc (by simp) _).alloc (by simp;omega) _
 have k2:w1.heap[S+1]?=some (.cells (sa s) 42 (0,0)):=by rw [<-hw1];exact q0i (q0g hs1)
 have k3:w1.heap[S+2]?=some (.cells AZ 44 (0,0)):=by rw [<-hw1];exact q0g hs2
 have HZ:Box ((Tryz.prog.info? 44).map (·.zero)=some (some (.agg AZ))):=⟨hAZ▸zeroRj⟩
 have HX:Box (w1.heap[S+2]?=some (.cells AZ 44 (0,0))):=⟨k3⟩
 have c0:w1.cell? ⟨S+1,0,none⟩=some (.int .u64 (s.start:Int)):=by rw [cell_of_row _ _ _ _ _ _ k2];rfl
 have c1:w1.cell? ⟨S+1,1,none⟩=some (.int .u64 (s.count:Int)):=by rw [cell_of_row _ _ _ _ _ _ k2];rfl
 have hlz:(rq z32 0 0 zs 0 0).length=70:=q1u _ _ _ _ _ _ q1l q1f
 have HIL:Box ((Tryz.prog.info? 44).map (·.size)=some AZ.size/\AZ.all (·.oneCell')=true):=⟨by rw [<-hAZ,List.size_toArray,hlz];exact infoRj,by rw [<-hAZ];exact q4y _ _ _ _ _ _⟩
 have HBJ:Box (Tryz.prog.built 44 []=some AZ):=⟨by rw [<-hAZ,builtRj];rfl⟩
 have HB:Box (Below w.heap.size w w1/\w.heap.size=S):=⟨hb1,hS⟩
 obtain ⟨r,hr⟩:=nm (P-f)
 have hwr:IntKind.i64.wrap ((P:Int)-(f:Int))=(r:Int):=by rw [IntKind.wrap_i64];omega
 have hwn:IntKind.u64.wrap (n:Int)=(n:Int):=by rw [IntKind.wrap_u64];omega
 have g1:¬(f:Int)<0:=by omega
 have g2:¬(n:Int)<1:=by omega
 have g3:decide (P<f)=false:=by simp;omega
 have g4:decide (r<n)=false:=by simp;omega
 have g56:decide (n<=s.start)=true∨(decide (n<=s.start)=false/\decide (n<s.count)=true):=by
  simp only [may,Bool.and_eq_false_iff,decide_eq_false_iff_not] at hm
  simp only [decide_eq_true_eq,decide_eq_false_iff_not]
  omega
 rw [hAK,hAZ]
 clear hK h1 hfit hP hs hm k2 k3 hb1 hAK hr hAZ hlz
 go_enter Tryz.func9,Tryz.ntmps9
 go_upto_region 1 with (refine atAlloc _ ?_;refine q0b rfl _ _ (q0e 44 rfl _ HZ.out) ?_)
 (try rw [hs2])
 (try rw [hs1])
 (try simp only [hS,hw1])
 clear hs1 hs2 hw1 hS
 rcases g56 with g5 | ⟨g5,g6⟩<;>(
 go_wp2_with (first
  | (refine atBuild 44 ?_;refine q0b rfl _ _ (q0n 44 [] rfl [] rfl AZ HBJ.out) ?_)
  | (refine atStore _ ?_;refine wpList_store_row rfl 44 _ _ rfl (S+2) AZ rfl rfl 44 AZ HX.out HIL.out.1 rfl HIL.out.2 ?_))
 refine bodyPost_ret (q1a (t:=14) (u:=15) rfl _ Tryz.underlying44 rfl _ _ (S+2) AZ HIL.out.1 rfl (setRow_heap _ _ _ _ _ _ HX.out)) rfl ?_
 exact ⟨rfl,q1i HB.out.1 (q0s _ _ _) (by have:=HB.out.2;omega) HB.out.1.size⟩)
end Go.Proofs.YtjejnlebpcjidaaGreatDoor
namespace Go.Proofs.YtjejnlebpcjidaaGreatDoor
open Go.RowKit Plain
attribute [local go_sem] Oper.semAt_some
theorem load_no {w0 w:World} {D:Nat} {fp:Nat->Prop} {d:Disk.Dk} (C:Disk.Cx w0 w D fp d) (K:List Int) (hK:K.length=32/\Byt K) (f n:Nat) (s:Jst) (hs:OkS s) (h1:1<=n) (hfit:f+n<=d.n) (hdn:d.n<=4096) (hm:may n s=false):
  Calls Tryz.prog 24 #[.pointer (some ⟨D,0,none⟩),.agg (u8s K),.int .i64 (f:Int),.int .i64 (n:Int),.agg (sa s)] w fun e w'=>e=.returned (.tuple #[.slice none 0 0,.int .i64 1])/\Below w.heap.size w w':=by
 obtain ⟨S,hS⟩:=nm w.heap.size
 obtain ⟨AK,hAK⟩:=nm (u8s K)
 obtain ⟨SA,hSA⟩:=nm (sa s)
 obtain ⟨w1,hw1⟩:=nm ((w.alloc (.cells AK 23)).alloc (.cells SA 27))
 have hb1:Below w.heap.size w w1:=by rw [<-hw1];exact ((Below.refl _ _).alloc (Nat.le_refl _) _).alloc (by simp) _
 have k1:w1.heap[S]?=some (.cells AK 23 (0,0)):=by rw [<-hw1];exact q0i (q0g hS)
 have k2:w1.heap[S+1]?=some (.cells SA 27 (0,0)):=by rw [<-hw1];exact q0g (by simp [hS])
 have HJN:Box (Calls Tryz.prog 8 #[.pointer (some ⟨D,0,none⟩),.agg AK,.int .i64 (f:Int),.int .i64 (n:Int),.agg SA,.int .u64 1,.int .u64 1] w1 fun e w'=>e=.returned (.tuple #[.pointer none,.int .i64 1])/\Below w1.heap.size w1 w'):=⟨by
  have:=jnew_no (C.step hb1) K hK f n h1 hfit hdn s hs hm 1 1
  rw [hAK,hSA] at this
  exact this⟩
 have HR:Box (w1.rangeAt S 0 (K.map (Value.int .u8))/\w1.rangeAt (S+1) 0 (scs s)/\(Tryz.prog.info? 23).map (·.size)=some (K.map (Value.int .u8)).length/\(Tryz.prog.info? 27).map (·.size)=some (scs s).length/\(K.map (Value.int .u8)).toArray=AK/\(scs s).toArray=SA):=⟨q2x (by rw [hAK];exact k1),q3q (by rw [hSA];exact k2),by rw [List.length_map,hK.1];exact infoSum,by rw [q0u hs];exact infoSt,by rw [<-hAK];rfl,by rw [<-hSA];rfl⟩
 have HB:Box (Below w.heap.size w w1/\w.heap.size=S):=⟨hb1,hS⟩
 have hs2:(w.alloc (.cells AK 23)).heap.size=S+1:=by simp [hS]
 rw [hAK,hSA]
 clear C hK hs h1 hfit hdn hm hb1 k1 k2 hAK hSA hS
 go_enter Tryz.func24,Tryz.ntmps24
 go_upto_region 1 with fail
 (try rw [hs2])
 (try simp only [HB.out.2])
 (try simp only [hw1])
 clear hw1 hs2
 go_wp2_with (first
  | (refine atLoad 23 ?_;refine q0c rfl 23 _ _ rfl Tryz.underlying23 rfl S 0 rfl (K.map (Value.int .u8)) HR.out.2.2.1 HR.out.1 ?_;rw [HR.out.2.2.2.2.1])
  | (refine atLoad 27 ?_;refine q0c rfl 27 _ _ rfl Tryz.underlying27 rfl (S+1) 0 rfl (scs s) HR.out.2.2.2.1 HR.out.2.1 ?_;rw [HR.out.2.2.2.2.2])
  | (go_at_call 8;refine HJN.out.mono ?_;rintro e x1 ⟨rfl,hb⟩;have H1:Box (Below w1.heap.size w1 x1):=⟨hb⟩;clear hb))
 go_ret2
 exact ⟨rfl,q0a HB.out.1 H1.out⟩
set_option maxHeartbeats 8000000 in
theorem rload_no {k:Nat} {d:Disk.Dk} {r:Disk.Rd} (hJ:Disk.J k d r) (K:List Int) (hK:K.length=32/\Byt K) (f n:Nat) (s:Jst) (hs:OkS s) (h1:1<=n) (hfit:f+n<=d.n) (hdn:d.n<=4096) (hm:may n s=false) (w:World) (v:Value) (hv:Disk.Rv w v r):
  Calls Tryz.prog 25 #[v,.agg (u8s K),.int .i64 (f:Int),.int .i64 (n:Int),.agg (sa s)] w fun e w'=>Below w.heap.size w w'/\∃V':List Value,(V'.length=6/\V'.toArray.all (·.oneCell')=true)/\e=.returned (.tuple #[.agg V'.toArray,.slice none 0 0,.int .i64 1]):=by
 obtain ⟨S,hS⟩:=nm w.heap.size
 have hrn:=hJ.n
 have HV:Box (Disk.Rv w v r):=⟨hv⟩
 obtain ⟨vd,vw,vo,rfl,-,-,-⟩:=hv
 obtain ⟨V0,hV0⟩:=nm (Disk.rv r.n vd vw r.left r.down vo)
 have hc00:V0.toArray[0]?=some (.int .i64 (d.n:Int)):=by rw [<-hV0,<-hrn];rfl
 rw [hV0] at HV ⊢
 have hl6:V0.length=6:=by rw [<-hV0];rfl
 obtain ⟨w1,hw1⟩:=nm ((((w.alloc (.cells V0.toArray 36)).alloc (.cells (u8s K) 23)).alloc (.cells (sa s) 42)).alloc (.cells zD.toArray 36))
 have hb1:Below w.heap.size w w1:=by rw [<-hw1];exact ((((Below.refl _ _).alloc (Nat.le_refl _) _).alloc (by simp) _).alloc (by simp;omega) _).alloc (by simp;omega) _
 have H1:Box (Lz w w1 S V0 K s):=⟨by rw [<-hw1];exact q0i (q0i (q0i (q0g hS))),by rw [<-hw1];exact q0i (q0i (q0g (by simp [hS]))),by rw [<-hw1];exact q0i (q0g (by simp [hS])),by rw [<-hw1];exact q0g (by simp [hS]),hb1,hS⟩
 have c0:w1.cell? ⟨S,0,none⟩=some (.int .i64 (d.n:Int)):=by rw [cell_of_row _ _ _ _ _ _ H1.out.b0];exact hc00
 have HW:Box (w.heap.size=S/\Disk.Rv w1 (.agg V0.toArray) r/\V0.length=6):=⟨hS,HV.out.below hb1,hl6⟩
 have HKU:Box ((Tryz.prog.info? 23).map (·.size)=some (K.map (Value.int .u8)).length):=⟨by rw [List.length_map,hK.1];exact infoSum⟩
 have HSU:Box ((Tryz.prog.info? 42).map (·.size)=some (scs s).length):=⟨by rw [q0u hs];exact infoS13⟩
 have HN:Box (∀x:World,Calls Tryz.prog 9 #[.int .i64 (d.n:Int),.agg (u8s K),.int .i64 (f:Int),.int .i64 (n:Int),.agg (sa s),.int .u64 1,.int .u64 1] x fun e w'=>e=.returned (.tuple #[.agg (rq z32 0 0 zs 0 0).toArray,.int .i64 1])/\Below x.heap.size x w'):=⟨fun x=>rnew13_no d.n f n h1 hfit hdn K hK.1 s hs hm 1 1 x⟩
 have zJ:(Tryz.prog.info? 44).map (·.zero)=some (some (.agg (rq z32 0 0 zs 0 0).toArray)):=zeroRj
 have hlz:(rq z32 0 0 zs 0 0).length=70:=q1u _ _ _ _ _ _ q1l q1f
 have HRJ:Box ((Tryz.prog.info? 44).map (·.size)=some (rq z32 0 0 zs 0 0).toArray.size/\(rq z32 0 0 zs 0 0).toArray.size=(rq z32 0 0 zs 0 0).toArray.size/\(rq z32 0 0 zs 0 0).toArray.all (·.oneCell')=true):=⟨by rw [List.size_toArray,hlz];exact infoRj,rfl,q4y _ _ _ _ _ _⟩
 obtain ⟨ZJ,hZJ⟩:=nm ((rq z32 0 0 zs 0 0).toArray)
 rw [hZJ] at zJ HRJ HN
 have HV6:Box (V0.length=6/\V0.toArray.all (·.oneCell')=true):=⟨hl6,by obtain ⟨V',e,_,a⟩:=q3k HV.out;simp only [Value.agg.injEq] at e;rw [e];exact a⟩
 clear hV0 hc00 hl6 HV hb1 hS hJ hs hK hm h1 hfit hdn hrn hZJ hlz
 go_enter Tryz.func25,Tryz.ntmps25
 go_upto_region 1 with (refine atAlloc _ ?_;refine q0b rfl _ _ (q0e 36 rfl _ Disk.zeroD) ?_)
 (try simp only [Nat.add_assoc,Nat.reduceAdd])
 rw [HW.out.1]
 change Code.wp _ _ _ _ ((((w.alloc (.cells V0.toArray 36)).alloc (.cells (u8s K) 23)).alloc (.cells (sa s) 42)).alloc (.cells zD.toArray 36))
 (try simp only [hw1])
 clear hw1
 go_upto_region 2 with (first
  | (refine q0o w2 ZJ ZJ HRJ.out.1 rfl HRJ.out.2.2 rfl _ _ rfl rfl rfl rfl ?_;intro w3 hz3 hb3;have H3:Box (Lz w w3 S V0 K s/\Disk.Rv w3 (.agg V0.toArray) r):=⟨(H1.out.below hb2).below hb3,(HW.out.2.1.below hb2).below hb3⟩;clear hz3 hb3 hb2)
  | (refine atAlloc _ ?_;refine q0b rfl _ _ (q0e 44 rfl _ zJ) ?_)
  | (refine q0c rfl 23 _ _ rfl Tryz.underlying23 rfl (S+1) 0 rfl (K.map (Value.int .u8)) HKU.out H1.out.key ?_)
  | (refine q0c rfl 42 _ _ rfl Tryz.underlying42 rfl (S+2) 0 rfl (scs s) HSU.out H1.out.cells.2.2.1 ?_)
  | (go_at_call 9;refine Calls.mono (HN.out w1) ?_;rintro e w2 ⟨rfl,hb2⟩))
 clear HN HRJ zJ H1 c0
 go_wp2_with (first
  | (refine Disk.q0v rfl _ rfl S V0 rfl H3.out.1.b0 HV6.out.1 ?_)
  | (refine wpList_store_row rfl 36 _ _ rfl (S+3) V0.toArray rfl rfl 36 _ H3.out.1.b3 (by rw [List.size_toArray,HV6.out.1];exact Disk.infoD) (by rw [List.size_toArray,List.size_toArray,HV6.out.1];rfl) HV6.out.2 ?_))
 (try simp only [Exit.inBlock,Exit.then])
 refine bodyPost_ret (Disk.q2r rfl _ _ (S+3) V0 rfl HV6.out.1 (setRow_heap _ _ _ _ _ _ H3.out.1.b3)) rfl ?_
 exact ⟨below_setRow H3.out.1.bl (by rw [H3.out.1.sz];omega) _,_,HV6.out,rfl⟩
set_option maxHeartbeats 8000000 in
theorem rload_dn {k:Nat} {d:Disk.Dk} {r:Disk.Rd} (hJ:Disk.J k d r) (K:List Int) (hK:K.length=32/\Byt K) (f n:Nat) (s:Jst) (hs:OkS s) (h1:1<=n) (hn1:n<=1000) (hfit:f+n<=d.n) (hdn:d.n<=4096) (hm:may n s=true) (hd:d.down=true) (h0:0<s.count) (w:World) (v:Value) (hv:Disk.Rv w v r):
  Calls Tryz.prog 25 #[v,.agg (u8s K),.int .i64 (f:Int),.int .i64 (n:Int),.agg (sa s)] w fun e w'=>Below w.heap.size w w'/\∃V':List Value,(V'.length=6/\V'.toArray.all (·.oneCell')=true)/\e=.returned (.tuple #[.agg V'.toArray,.slice none 0 0,.int .i64 13]):=by
 obtain ⟨hst,hct⟩:=q7f hm
 obtain ⟨S,hS⟩:=nm w.heap.size
 have hrn:=hJ.n
 obtain ⟨st,hst0⟩:=nm s.start
 obtain ⟨ct,hct0⟩:=nm s.count
 have HV:Box (Disk.Rv w v r):=⟨hv⟩
 obtain ⟨vd,vw,vo,rfl,-,-,-⟩:=hv
 obtain ⟨V0,hV0⟩:=nm (Disk.rv r.n vd vw r.left r.down vo)
 have hc00:V0.toArray[0]?=some (.int .i64 (d.n:Int)):=by rw [<-hV0,<-hrn];rfl
 rw [hV0] at HV ⊢
 have hl6:V0.length=6:=by rw [<-hV0];rfl
 obtain ⟨w1,hw1⟩:=nm ((((w.alloc (.cells V0.toArray 36)).alloc (.cells (u8s K) 23)).alloc (.cells (sa s) 42)).alloc (.cells zD.toArray 36))
 have hb1:Below w.heap.size w w1:=by rw [<-hw1];exact ((((Below.refl _ _).alloc (Nat.le_refl _) _).alloc (by simp) _).alloc (by simp;omega) _).alloc (by simp;omega) _
 have H1:Box (Lz w w1 S V0 K s):=⟨by rw [<-hw1];exact q0i (q0i (q0i (q0g hS))),by rw [<-hw1];exact q0i (q0i (q0g (by simp [hS]))),by rw [<-hw1];exact q0i (q0g (by simp [hS])),by rw [<-hw1];exact q0g (by simp [hS]),hb1,hS⟩
 have c0:w1.cell? ⟨S,0,none⟩=some (.int .i64 (d.n:Int)):=by rw [cell_of_row _ _ _ _ _ _ H1.out.b0];exact hc00
 have HW:Box (w.heap.size=S/\Disk.Rv w1 (.agg V0.toArray) r/\V0.length=6):=⟨hS,HV.out.below hb1,hl6⟩
 have HKU:Box ((Tryz.prog.info? 23).map (·.size)=some (K.map (Value.int .u8)).length):=⟨by rw [List.length_map,hK.1];exact infoSum⟩
 have HSU:Box ((Tryz.prog.info? 42).map (·.size)=some (scs s).length):=⟨by rw [q0u hs];exact infoS13⟩
 have HN:Box (∀x:World,Calls Tryz.prog 9 #[.int .i64 (d.n:Int),.agg (u8s K),.int .i64 (f:Int),.int .i64 (n:Int),.agg (sa s),.int .u64 1,.int .u64 1] x fun e w'=>e=.returned (.tuple #[.agg (rq K (f:Int) (n:Int) s 1 1).toArray,.int .i64 0])/\Below x.heap.size x w'):=⟨fun x=>q8r d.n f n h1 hfit hdn K hK.1 s hs hst hct 1 1 (by omega) (by omega) x⟩
 have zJ:(Tryz.prog.info? 44).map (·.zero)=some (some (.agg (rq z32 0 0 zs 0 0).toArray)):=zeroRj
 have HRJ:Box ((Tryz.prog.info? 44).map (·.size)=some (rq K (f:Int) (n:Int) s 1 1).toArray.size/\(rq z32 0 0 zs 0 0).toArray.size=(rq K (f:Int) (n:Int) s 1 1).toArray.size/\(rq K (f:Int) (n:Int) s 1 1).toArray.all (·.oneCell')=true):=⟨by rw [List.size_toArray,q1u _ _ _ _ _ _ hK.1 hs];exact infoRj,by rw [List.size_toArray,List.size_toArray,q1u _ _ _ _ _ _ hK.1 hs,q1u _ _ _ _ _ _ q1l q1f],q4y _ _ _ _ _ _⟩
 obtain ⟨RQ,hRQ⟩:=nm ((rq K (f:Int) (n:Int) s 1 1).toArray)
 obtain ⟨ZJ,hZJ⟩:=nm ((rq z32 0 0 zs 0 0).toArray)
 rw [hRQ] at HN HRJ
 rw [hZJ] at zJ HRJ
 have HV6:Box (V0.length=6/\V0.toArray.all (·.oneCell')=true):=⟨hl6,by obtain ⟨V',e,_,a⟩:=q3k HV.out;simp only [Value.agg.injEq] at e;rw [e];exact a⟩
 have hrd:=hJ.down
 rw [hd] at hrd
 have HRD:Box (∀(x:World) (p:Int),Disk.Rv x (.agg V0.toArray) r->Calls Tryz.prog 57 #[.agg V0.toArray,.int .i64 p] x fun e y=>e=.returned (.tuple #[.agg V0.toArray,.string ByteArray.empty,.int .i64 13])/\Below x.heap.size x y):=⟨fun x p hx=>by
  obtain ⟨vd',vw',vo',e,q1,q2,q3⟩:=hx
  rw [hrd] at e
  rw [e]
  exact Disk.z7x x r.n vd' vw' vo' r.left (Disk.q3y q1) (Disk.q3y q2) (Disk.q3y q3) p⟩
 have HSG:Box (s.start=st/\s.count=ct/\st<n/\0<ct/\ct<=n/\n<=1000/\f<=4096/\1<=n):=⟨hst0,hct0,by omega,by omega,by omega,hn1,by omega,h1⟩
 clear hRQ hZJ hV0 hc00 hl6 HV hb1 hS hJ hs hK hm hst hct hrn hst0 hct0 hd hrd
 go_enter Tryz.func25,Tryz.ntmps25
 go_upto_region 1 with (refine atAlloc _ ?_;refine q0b rfl _ _ (q0e 36 rfl _ Disk.zeroD) ?_)
 (try simp only [Nat.add_assoc,Nat.reduceAdd])
 rw [HW.out.1]
 change Code.wp _ _ _ _ ((((w.alloc (.cells V0.toArray 36)).alloc (.cells (u8s K) 23)).alloc (.cells (sa s) 42)).alloc (.cells zD.toArray 36))
 (try simp only [hw1])
 clear hw1
 go_upto_region 2 with (first
  | (refine q0o w2 ZJ RQ HRJ.out.1 HRJ.out.2.1 HRJ.out.2.2 rfl _ _ rfl rfl rfl rfl ?_;intro w3 hz3 hb3;have H3:Box (Lz w w3 S V0 K s/\Disk.Rv w3 (.agg V0.toArray) r):=⟨(H1.out.below hb2).below hb3,(HW.out.2.1.below hb2).below hb3⟩;clear hz3 hb3 hb2)
  | (refine atAlloc _ ?_;refine q0b rfl _ _ (q0e 44 rfl _ zJ) ?_)
  | (refine q0c rfl 23 _ _ rfl Tryz.underlying23 rfl (S+1) 0 rfl (K.map (Value.int .u8)) HKU.out H1.out.key ?_)
  | (refine q0c rfl 42 _ _ rfl Tryz.underlying42 rfl (S+2) 0 rfl (scs s) HSU.out H1.out.cells.2.2.1 ?_)
  | (go_at_call 9;refine Calls.mono (HN.out w1) ?_;rintro e w2 ⟨rfl,hb2⟩))
 clear HN HRJ zJ H1 c0
 go_upto_region 5 with fail
 obtain ⟨T,hT⟩:=nm w3.heap.size
 have H4:Box (Lz w (w3.alloc (.cells (u8s z32) 23)) S V0 K s/\Disk.Rv (w3.alloc (.cells (u8s z32) 23)) (.agg V0.toArray) r):=⟨by
  have hb:=Below.alloc (Below.refl w3.heap.size w3) (Nat.le_refl _) (.cells (u8s z32) 23)
  exact ⟨H3.out.1.below hb,H3.out.2.below hb⟩⟩
 go_upto_region 6 with (refine atAlloc _ ?_;refine q0b rfl _ _ (q0e 23 rfl _ zeroSum) ?_)
 (try simp only [hT])
 clear H3 hT
 generalize w3.alloc (.cells (u8s z32) 23)=w4 at H4 ⊢
 go_wp2
 go_loopw [14,15,17] (fun e0 v i wr=>e0=.int .i64 0/\v=.slice none 0 0/\i=.int .u64 0/\Box (Lz w wr S V0 K s/\Disk.Rv wr (.agg V0.toArray) r)) (fun _ _ i _=>0)
 case atStart=>exact ⟨rfl,rfl,rfl,H4⟩
 case round=>
  clear H4
  obtain ⟨rfl,rfl,rfl,HL⟩:=hrel
  obtain ⟨c0,c1,-,-⟩:=HL.out.1.cells
  rw [HSG.out.1] at c0
  rw [HSG.out.2.1] at c1
  have hg:=HSG.out
  have g1:(0:Int)<(ct:Int):=by omega
  have bst:st<1000:=by omega
  have bn:n<=1000:=by omega
  have bf:f<=4096:=by omega
  obtain ⟨p,hp⟩:=nm (f+st)
  have hp2:(f:Int)+(st:Int)=(p:Int):=by omega
  have ht1:((st:Int)).tmod (n:Int)=(st:Int):=by rw [Int.tmod_eq_of_lt (by omega) (by omega)]
  have ht2:((st:Int))%(n:Int)=(st:Int):=by rw [Int.emod_eq_of_lt (by omega) (by omega)]
  have hn0:((n:Int)==0)=false:=by simp;omega
  clear hg hp
  go_upto_region 11 with fail
  have HR2:Box _:=⟨HRD.out wr (p:Int) HL.out.2⟩
  clear ht1 ht2 hn0 hp2 c0 c1 g1
  go_upto_region 12 with (first
   | (refine Disk.q0v rfl _ rfl S V0 rfl HL.out.1.b0 HV6.out.1 ?_)
   | (go_at_call 57;refine Calls.mono HR2.out ?_;rintro e x1 ⟨rfl,hb2⟩;have HX1:Box (Lz w x1 S V0 K s):=⟨HL.out.1.below hb2⟩;clear hb2)
   | (refine wpList_store_row rfl 36 _ _ rfl S V0.toArray rfl rfl 36 V0.toArray HX1.out.b0 (by rw [List.size_toArray,HV6.out.1];exact Disk.infoD) rfl HV6.out.2 ?_))
  have H5:Box (Lz w (x1.setRow S V0.toArray) S V0 K s):=⟨HX1.out.set0 (q0s _ _ _) (setRow_heap _ _ _ _ _ _ HX1.out.b0)⟩
  clear HX1 HR2
  generalize x1.setRow S V0.toArray=w5 at H5 ⊢
  go_wp2_with (first
   | (refine Disk.q0v rfl _ rfl S V0 rfl H5.out.b0 HV6.out.1 ?_)
   | (refine wpList_store_row rfl 36 _ _ rfl (S+3) V0.toArray rfl rfl 36 _ H5.out.b3 (by rw [List.size_toArray,HV6.out.1];exact Disk.infoD) (by rw [List.size_toArray,List.size_toArray,HV6.out.1];rfl) HV6.out.2 ?_))
  (try simp only [Exit.inBlock,Exit.then])
  refine bodyPost_ret (Disk.q2r rfl _ _ (S+3) V0 rfl HV6.out.1 (setRow_heap _ _ _ _ _ _ H5.out.b3)) rfl ?_
  exact ⟨below_setRow H5.out.bl (by rw [H5.out.sz];omega) _,_,HV6.out,rfl⟩
end Go.Proofs.YtjejnlebpcjidaaGreatDoor
namespace Go.Proofs.YtjejnlebpcjidaaGreatDoor
open Go.RowKit Plain
attribute [local go_sem] Oper.semAt_some
theorem read_dn {w0 w:World} {D:Nat} {fp:Nat->Prop} {d:Disk.Dk} (C:Disk.Cx w0 w D fp d) (f n:Nat) (s:Jst) (h1:1<=n) (hfit:f+n<=d.n) (hdn:d.n<=4096) (hm:may n s=true) (hd:d.down=true) (h0:0<s.count):
  Calls Tryz.prog 53 #[.pointer (some ⟨D,0,none⟩),.int .u64 (f:Int),.int .u64 (n:Int),.agg (sa s)] w fun e w'=>e=.returned (.tuple #[.slice none 0 0,.int .i64 13])/\Below w.heap.size w w':=by
 obtain ⟨st,ct,tg⟩:=s
 obtain ⟨hst,hct⟩:=q7f hm
 dsimp only at hst hct h0 ⊢
 obtain ⟨SA,HSA⟩:∃SA,Box (sa ⟨st,ct,tg⟩=SA/\SA[0]?=some (.int .u64 (st:Int))/\SA[1]?=some (.int .u64 (ct:Int))):=⟨_,⟨rfl,rfl,rfl⟩⟩
 rw [HSA.out.1]
 obtain ⟨S,hS⟩:=nm w.heap.size
 obtain ⟨w1,hw1⟩:=nm (w.alloc (.cells (SA) 27))
 have hb1:Below w.heap.size w w1:=by rw [<-hw1];exact (Below.refl _ _).alloc (Nat.le_refl _) _
 have k1:w1.heap[S]?=some (.cells (SA) 27 (0,0)):=by rw [<-hw1];exact q0g hS
 have c0:w1.cell? ⟨S,0,none⟩=some (.int .u64 (st:Int)):=by rw [cell_of_row _ _ _ _ _ _ k1];exact HSA.out.2.1
 have c1:w1.cell? ⟨S,1,none⟩=some (.int .u64 (ct:Int)):=by rw [cell_of_row _ _ _ _ _ _ k1];exact HSA.out.2.2
 have HRD:Box (∀p:Int,Calls Tryz.prog 16 #[.pointer (some ⟨D,0,none⟩),.int .i64 p] w1 fun e w'=>e=.returned (.tuple #[.slice none 0 0,.int .i64 13])/\w1=w'):=⟨fun p=>Disk.read_down w1 D fp d (C.step hb1).is p hd⟩
 have HN:Box (1<=n/\f+n<=4096/\st<n/\ct<=n/\0<ct):=⟨h1,by omega,hst,hct,h0⟩
 have HSS:Box (w.heap.size=S/\Below w.heap.size w w1):=⟨hS,hb1⟩
 have hc01:Box (w1.cell? ⟨S,0,none⟩=some (.int .u64 (st:Int))/\w1.cell? ⟨S,1,none⟩=some (.int .u64 (ct:Int))):=⟨c0,c1⟩
 clear C h1 hfit hdn hm hd hb1 k1 hS hst hct h0
 go_enter Tryz.func53,Tryz.ntmps53
 go_upto_region 2 with fail
 (try simp only [HSS.out.1])
 (try simp only [hw1])
 clear hw1
 go_wp2
 go_loopw [10,17] (fun v i wr=>v=.slice none 0 0/\i=.int .u64 0/\Box (wr=w1)) (fun _ i _=>0)
 case atStart=>exact ⟨rfl,rfl,⟨rfl⟩⟩
 case round=>
  clear c0 c1
  obtain ⟨rfl,rfl,HG⟩:=hrel
  obtain rfl:=HG.out
  obtain ⟨c0,c1⟩:=hc01.out
  have hg:=HN.out
  have hlt1:(0:Int)<(ct:Int):=by omega
  obtain ⟨p,hp⟩:=nm (f+st)
  have hne:(n:Int)≠0:=by omega
  have hw1:IntKind.u64.wrap (st:Int)=(st:Int):=by rw [IntKind.wrap_u64];omega
  have ht:((st:Int)).tmod (n:Int)=(st:Int):=by rw [Int.tmod_eq_of_lt (by omega) (by omega)]
  have ht2:((st:Int))%(n:Int)=(st:Int):=by rw [Int.emod_eq_of_lt (by omega) (by omega)]
  have hw2:IntKind.u64.wrap ((f:Int)+(st:Int))=(p:Int):=by rw [IntKind.wrap_u64];omega
  have hw3:IntKind.i64.wrap (p:Int)=(p:Int):=by rw [IntKind.wrap_i64];omega
  clear hg hp
  go_wp2_with (go_at_call 16;refine (HRD.out _).mono ?_;rintro e x1 ⟨rfl,rfl⟩)
  go_ret2
  exact ⟨rfl,HSS.out.2⟩
theorem load_dn {w0 w:World} {D:Nat} {fp:Nat->Prop} {d:Disk.Dk} (C:Disk.Cx w0 w D fp d) (K:List Int) (hK:K.length=32/\Byt K) (f n:Nat) (s:Jst) (hs:OkS s) (h1:1<=n) (hfit:f+n<=d.n) (hdn:d.n<=4096) (hm:may n s=true) (hd:d.down=true) (h0:0<s.count) (hT:Dig.Tabs w0) (hT2:Seal.Tab w0):
  Calls Tryz.prog 24 #[.pointer (some ⟨D,0,none⟩),.agg (u8s K),.int .i64 (f:Int),.int .i64 (n:Int),.agg (sa s)] w fun e w'=>e=.returned (.tuple #[.slice none 0 0,.int .i64 13])/\Below w.heap.size w w':=by
 obtain ⟨S,hS⟩:=nm w.heap.size
 obtain ⟨AK,hAK⟩:=nm (u8s K)
 obtain ⟨SA,hSA⟩:=nm (sa s)
 obtain ⟨w1,hw1⟩:=nm ((w.alloc (.cells AK 23)).alloc (.cells SA 27))
 have hb1:Below w.heap.size w w1:=by rw [<-hw1];exact ((Below.refl _ _).alloc (Nat.le_refl _) _).alloc (by simp) _
 have k1:w1.heap[S]?=some (.cells AK 23 (0,0)):=by rw [<-hw1];exact q0i (q0g hS)
 have k2:w1.heap[S+1]?=some (.cells SA 27 (0,0)):=by rw [<-hw1];exact q0g (by simp [hS])
 have C1:=C.step hb1
 have HJN:Box (Calls Tryz.prog 8 #[.pointer (some ⟨D,0,none⟩),.agg AK,.int .i64 (f:Int),.int .i64 (n:Int),.agg SA,.int .u64 1,.int .u64 1] w1 fun e w'=>∃J,e=.returned (.tuple #[.pointer (some ⟨J,0,none⟩),.int .i64 0])/\Below w1.heap.size w1 w'):=⟨by
  have:=z0x C1 K hK f n h1 hfit hdn s hs hm 1 1 ⟨by omega,by omega⟩ ⟨by omega,by omega⟩ hT hT2
  rw [hAK,hSA] at this
  refine this.mono ?_
  rintro e w' ⟨J,q1,_,q3,_⟩
  exact ⟨J,q1,q3⟩⟩
 have HRD:Box (∀y,Below w1.heap.size w1 y->Calls Tryz.prog 53 #[.pointer (some ⟨D,0,none⟩),.int .u64 (f:Int),.int .u64 (n:Int),.agg SA] y fun e w'=>e=.returned (.tuple #[.slice none 0 0,.int .i64 13])/\Below y.heap.size y w'):=⟨fun y hy=>by
  have:=read_dn (C1.step hy) f n s h1 hfit hdn hm hd h0
  rw [hSA] at this
  exact this⟩
 have HR:Box (w1.rangeAt S 0 (K.map (Value.int .u8))/\(∀y,Below w1.heap.size w1 y->y.rangeAt (S+1) 0 (scs s))/\(Tryz.prog.info? 23).map (·.size)=some (K.map (Value.int .u8)).length/\(Tryz.prog.info? 27).map (·.size)=some (scs s).length/\(K.map (Value.int .u8)).toArray=AK/\(scs s).toArray=SA):=⟨q2x (by rw [hAK];exact k1),fun y hy=>q3q (by rw [hSA];exact (hy.block _ (gE k2)).trans k2),by rw [List.length_map,hK.1];exact infoSum,by rw [q0u hs];exact infoSt,by rw [<-hAK];rfl,by rw [<-hSA];rfl⟩
 have HR1:Box (w1.rangeAt (S+1) 0 (scs s)):=⟨HR.out.2.1 w1 (Below.refl _ _)⟩
 have HB:Box (Below w.heap.size w w1/\w.heap.size=S):=⟨hb1,hS⟩
 have hwf:IntKind.u64.wrap (f:Int)=(f:Int):=by rw [IntKind.wrap_u64];omega
 have hwn:IntKind.u64.wrap (n:Int)=(n:Int):=by rw [IntKind.wrap_u64];omega
 have hs2:(w.alloc (.cells AK 23)).heap.size=S+1:=by simp [hS]
 rw [hAK,hSA]
 clear C C1 hK hs h1 hfit hdn hm hd h0 hb1 k1 k2 hAK hSA hS hT hT2
 go_enter Tryz.func24,Tryz.ntmps24
 go_upto_region 1 with fail
 (try rw [hs2])
 (try simp only [HB.out.2])
 (try simp only [hw1])
 clear hw1 hs2
 go_upto_region 4 with (first
  | (refine atLoad 23 ?_;refine q0c rfl 23 _ _ rfl Tryz.underlying23 rfl S 0 rfl (K.map (Value.int .u8)) HR.out.2.2.1 HR.out.1 ?_;rw [HR.out.2.2.2.2.1])
  | (refine atLoad 27 ?_;refine q0c rfl 27 _ _ rfl Tryz.underlying27 rfl (S+1) 0 rfl (scs s) HR.out.2.2.2.1 HR1.out ?_;rw [HR.out.2.2.2.2.2])
  | (go_at_call 8;refine HJN.out.mono ?_;rintro e x1 ⟨J,rfl,hb⟩;have H1:Box (Below w1.heap.size w1 x1):=⟨hb⟩;clear hb))
 have HR2:Box (x1.rangeAt (S+1) 0 (scs s)):=⟨HR.out.2.1 x1 H1.out⟩
 have HRDx:Box _:=⟨HRD.out x1 H1.out⟩
 clear HRD HJN HR1
 go_wp2_with (first
  | (refine atLoad 27 ?_;refine q0c rfl 27 _ _ rfl Tryz.underlying27 rfl (S+1) 0 rfl (scs s) HR.out.2.2.2.1 HR2.out ?_;rw [HR.out.2.2.2.2.2])
  | (go_at_call 53;refine HRDx.out.mono ?_;rintro e x2 ⟨rfl,hb⟩;have H2:Box (Below x1.heap.size x1 x2):=⟨hb⟩;clear hb))
 go_ret2
 exact ⟨rfl,q0a HB.out.1 (q0a H1.out H2.out)⟩
end Go.Proofs.YtjejnlebpcjidaaGreatDoor
namespace Go.Proofs.YtjejnlebpcjidaaGreatDoor
open Go.RowKit Plain
theorem chS_few (L:List ((Int × List Int) × Bool)):(chS L).1.length<=L.length/\(∀c∈(chS L).1,c.length<=L.length)/\(chS L).2.length<=L.length:=by
 induction L using Disk.z6j with
 | nil=>exact ⟨Nat.le_refl _,fun c hc=>by simp [chS] at hc,Nat.le_refl _⟩
 | snoc L x ih=>
  rw [z6b]
  obtain ⟨h1,h2,h3⟩:=ih
  unfold chSt
  cases x.2
  ·refine ⟨?_,?_,?_⟩
   ·simp;omega
   ·intro c hc
    have:=h2 c (by simpa using hc)
    simp;omega
   ·simp;omega
  ·refine ⟨?_,?_,?_⟩
   ·simp;omega
   ·intro c hc
    simp only [if_true,List.mem_append,List.mem_singleton] at hc
    rcases hc with hc | rfl
    ·have:=h2 c hc
     simp;omega
    ·simp;omega
   ·simp
theorem ld_both {k:Nat} {d:Disk.Dk} {r:Disk.Rd} (x0:World) (hJ:Disk.J k d r) (hk:k<800000) (hlat:∀p,p<d.n->(Disk.lat d p).length=192/\Byt (Disk.lat d p)) (K:List Int) (hK:K.length=32/\Byt K) (f n:Nat) (s:Jst) (hs:OkS s) (h1:1<=n) (hn1:n<=1000) (hfit:f+n<=d.n) (hdn:d.n<=4096) (hu:d.uw.length<900000) (hT:Dig.Tabs x0) (hT2:Seal.Tab x0):
  ∃(e0:Int) (PL:List (List (Int × List Int))),(PL.length<=1000/\∀c∈PL,c.length<=1000) /\
   (∀(y:World) (D:Nat) (O:List (Int × Int)),O.length<900000->Disk.Cm x0 y D ({d with ops:=O}:Disk.Dk)->Calls Tryz.prog 24 #[.pointer (some ⟨D,0,none⟩),.agg (u8s K),.int .i64 (f:Int),.int .i64 (n:Int),.agg (sa s)] y fun e z=>∃ua uc X,e=.returned (.tuple #[.slice ua X.length uc,.int .i64 e0])/\Igss z ua X/\plC X=PL/\(∃d4,Disk.Cm x0 z D d4)/\Disk.Fr y z) /\
   (∀(x:World) (v:Value),Disk.Rv x v r->Calls Tryz.prog 25 #[v,.agg (u8s K),.int .i64 (f:Int),.int .i64 (n:Int),.agg (sa s)] x fun e z=>Below x.heap.size x z/\∃(V3:List Value) (u2a:Option Addr) (u2c:Nat) (Wn:List Wx),(V3.length=6/\V3.toArray.all (·.oneCell')=true)/\e=.returned (.tuple #[.agg V3.toArray,.slice u2a Wn.length u2c,.int .i64 e0])/\Wnt z x.heap.size (.slice u2a Wn.length u2c) Wn/\Wn.map (·.P)=PL):=by
 have hnil:∀z:World,Igss z none []:=fun z=>⟨fun h=>by simp at h,fun x hx=>by simp at hx⟩
 by_cases hm:may n s=true
 ·by_cases hdc:d.down=true/\0<s.count
  ·refine ⟨13,[],⟨Nat.zero_le _,fun c hc=>by simp at hc⟩,fun y D O hO hC=>?_,fun x v hv=>?_⟩
   ·obtain ⟨fp,c,hf⟩:=Disk.Cm.foot hC
    refine (load_dn c K hK f n s hs h1 hfit hdn hm hdc.1 hdc.2 hT hT2).mono ?_
    rintro e z ⟨rfl,hb⟩
    exact ⟨none,0,[],rfl,hnil z,rfl,⟨_,hC.step hb⟩,Disk.Fr.below hb⟩
   ·refine (rload_dn hJ K hK f n s hs h1 hn1 hfit hdn hm hdc.1 hdc.2 x v hv).mono ?_
    rintro e z ⟨hb,V3,h3,rfl⟩
    exact ⟨hb,V3,none,0,[],h3,rfl,z0o _ _,rfl⟩
  ·have hd:0<s.count->d.down=false:=fun h=>by
    by_cases hq:d.down=true
    ·exact absurd ⟨hq,h⟩ hdc
    ·simpa using hq
   have hll:((lds d f n s).map (opR K)).length<=1000:=by
    have:=(q7f hm).2
    simp [lds,pcs];omega
   have hbd:=chS_few ((lds d f n s).map (opR K))
   have hcode:∀(y:World) (D:Nat) (O:List (Int × Int)),O.length<900000->Disk.Cm x0 y D ({d with ops:=O}:Disk.Dk)->Calls Tryz.prog 24 #[.pointer (some ⟨D,0,none⟩),.agg (u8s K),.int .i64 (f:Int),.int .i64 (n:Int),.agg (sa s)] y fun e z=>((∃d4,Disk.Cm x0 z D d4)/\Disk.Fr y z)/\((¬LGood d K f n s/\e=.returned (.tuple #[.slice none 0 0,.int .i64 14]))∨(LGood d K f n s/\∃ua uc X,e=.returned (.tuple #[.slice ua X.length uc,.int .i64 0])/\Igss z ua X/\plC X=ldC d K f n s)):=fun y D O hO hC=>by
    obtain ⟨fp,c,hf⟩:=Disk.Cm.foot hC
    refine (z6r c K hK f n s hs h1 hn1 hfit hdn hm hd hO hu hT hT2).mono ?_
    rintro e z ⟨fp',c',fo,hr⟩
    refine ⟨⟨⟨_,fp',c'⟩,Disk.z5o hf fo⟩,?_⟩
    rcases hr with ⟨h1,h2⟩ | ⟨h1,u,X,B,h2,h3,_,_,h4⟩
    ·exact .inl ⟨h1,h2⟩
    ·obtain ⟨ua,uc,rfl⟩:=q0l h3.row
     have h5:plC X=ldC d K f n s:=h4
     refine .inr ⟨h1,ua,uc,X,h2,h3.igss (fun x hx=>?_),h5⟩
     have h6:x.M.map pl∈plC X:=List.mem_map_of_mem (f:=fun c:Sx=>c.M.map pl) hx
     rw [h5] at h6
     have h7:=hbd.2.1 _ h6
     have h8:=(h3.im x hx).1
     rw [List.length_map] at h7
     unfold maxLen
     omega
   have href:=fun (x:World) (v:Value) (hv:Disk.Rv x v r)=>rload_v hJ K hK f n s hs h1 hn1 hfit hdn hm hd hk hlat x v hv
   by_cases hG:LGood d K f n s
   ·refine ⟨0,ldC d K f n s,⟨Nat.le_trans hbd.1 hll,fun c hc=>Nat.le_trans (hbd.2.1 c hc) hll⟩,fun y D O hO hF=>(hcode y D O hO hF).mono ?_,fun x v hv=>(href x v hv).mono ?_⟩
    ·rintro e z ⟨⟨h1,h1b⟩,⟨h2,_⟩ | ⟨_,ua,uc,X,h3,h4,h5⟩⟩
     ·exact absurd hG h2
     ·exact ⟨ua,uc,X,h3,h4,h5,h1,h1b⟩
    ·rintro e z ⟨hb,⟨h2,_⟩ | ⟨_,V3,u,Wn,h3,h4,h5,h6,h7⟩⟩
     ·exact absurd hG h2
     ·obtain ⟨u2a,u2c,rfl⟩:=q0l h5
      exact ⟨hb,V3,u2a,u2c,Wn,h3,h4,⟨h5,h6⟩,h7⟩
   ·refine ⟨14,[],⟨Nat.zero_le _,fun c hc=>by simp at hc⟩,fun y D O hO hF=>(hcode y D O hO hF).mono ?_,fun x v hv=>(href x v hv).mono ?_⟩
    ·rintro e z ⟨⟨h1,h1b⟩,⟨_,h2⟩ | ⟨h2,_⟩⟩
     ·exact ⟨none,0,[],h2,hnil z,rfl,h1,h1b⟩
     ·exact absurd h2 hG
    ·rintro e z ⟨hb,⟨_,V3,h3,h4⟩ | ⟨h2,_⟩⟩
     ·exact ⟨hb,V3,none,0,[],h3,h4,z0o _ _,rfl⟩
     ·exact absurd h2 hG
 ·have hm':may n s=false:=by simpa using hm
  refine ⟨1,[],⟨Nat.zero_le _,fun c hc=>by simp at hc⟩,fun y D O hO hC=>?_,fun x v hv=>?_⟩
  ·obtain ⟨fp,c,hf⟩:=Disk.Cm.foot hC
   refine (load_no c K hK f n s hs h1 hfit hdn hm').mono ?_
   rintro e z ⟨rfl,hb⟩
   exact ⟨none,0,[],rfl,hnil z,rfl,⟨_,hC.step hb⟩,Disk.Fr.below hb⟩
  ·refine (rload_no hJ K hK f n s hs h1 hfit hdn hm' x v hv).mono ?_
   rintro e z ⟨hb,V3,h3,rfl⟩
   exact ⟨hb,V3,none,0,[],h3,rfl,z0o _ _,rfl⟩
def sb0:List Int:=[230,31,16,2,208,104,160,50,139,113,218,67,230,116,236,215,205,132,85,43,0,221,211,1,189,29,21,61,12,128,157,220,77,249,189,197,50,155,143,187,71,192,234,251,222,142,90,118,134,7,73,101,215,103,28,111,116,170,5,110,210,73,254,107]
def sb1:List Int:=[22,86,16,69,241,125,142,220,69,116,96,55,51,30,92,115,252,191,134,132,255,28,234,13,191,75,165,12,3,129,135,220,59,251,157,149,124,219,118,9,115,95,16,120,206,100,14,182,152,81,213,207,179,2,120,30,23,46,174,83,170,138,18,54]
def sb2:List Int:=[231,16,77,196,103,183,39,175,169,138,2,175,8,81,117,161,30,4,234,40,233,216,54,31,77,172,170,223,77,150,21,213,222,41,172,54,3,245,221,154,226,206,196,86,252,59,213,2,53,49,198,153,58,221,92,121,22,168,36,150,89,198,56,151]
theorem blk_0:Seal.Plain.blk k1 0 (Seal.Plain.non 0 1)=sb0:=by decide +kernel
theorem blk_1:Seal.Plain.blk k1 1 (Seal.Plain.non 0 1)=sb1:=by decide +kernel
theorem blk_2:Seal.Plain.blk k1 2 (Seal.Plain.non 0 1)=sb2:=by decide +kernel
def sbb:List Int:=sb0++(sb1++sb2)
theorem stm_k1 (i:Nat) (h:i<192):Seal.Plain.stm k1 0 (Seal.Plain.non 0 1) i=sbb.getD i 0:=by
 unfold Seal.Plain.stm
 have l0:sb0.length=64:=rfl
 have l1:sb1.length=64:=rfl
 have hd:i / 64=0∨i / 64=1∨i / 64=2:=by omega
 rcases hd with hd | hd | hd
 ·rw [hd,show ((0:Int)+((0:Nat):Int))%4294967296=0 by decide,blk_0,show i%64=i by omega]
  unfold sbb
  rw [q2b _ _ _ (by omega)]
 ·rw [hd,show ((0:Int)+((1:Nat):Int))%4294967296=1 by decide,blk_1]
  unfold sbb
  rw [q2o,if_neg (by omega),q2b _ _ _ (by omega)]
  congr 1
  omega
 ·rw [hd,show ((0:Int)+((2:Nat):Int))%4294967296=2 by decide,blk_2]
  unfold sbb
  rw [q2o,if_neg (by omega),q2o,if_neg (by omega)]
  congr 1
  omega
theorem cr_k1 (B:List Int):∀n,n<=192->Seal.Plain.cr k1 0 (Seal.Plain.non 0 1) B n=(List.range n).map (fun i=>Seal.Plain.xr (B.getD i 0) (sbb.getD i 0))
 | 0,_=>rfl
 | n+1,h=>by
  rw [Seal.Plain.cr,cr_k1 B n (by omega),stm_k1 n (by omega),List.range_succ,List.map_append]
  rfl
def tb1:List Int:=padTo (bytesOf 1 8++(List.range 176).map (fun i=>Seal.Plain.xr ((putP ((3,z160),true)).getD i 0) (sbb.getD i 0))) 192
theorem slt_k1:slt k1 0 1 ((3,z160),true)=tb1:=by
 unfold slt Seal.sl
 rw [q8e ((3,z160),true) q6b,cr_k1 _ 176 (by omega)]
 rfl
theorem link_tb:lnk z32 0 tb1≠z32:=by decide +kernel
theorem link_one:lnk z32 0 (slt k1 0 1 ((3,z160),true))≠z32:=by
 rw [slt_k1]
 exact link_tb
end Go.Proofs.YtjejnlebpcjidaaGreatDoor
