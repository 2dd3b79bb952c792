/-
 What Latest of package replay answers: the walk. And what follows it.
-/
import Derived.Test.YtjejnlebpcjidaaGreatDoorQ39
import Derived.Test.YtjejnlebpcjidaaGreatDoorQ38
import Derived.Test.YtjejnlebpcjidaaGreatDoorQ31
import Derived.Test.YtjejnlebpcjidaaGreatDoorQ18
set_option linter.unusedVariables false
set_option maxRecDepth 100000
set_option maxRecDepth 100000
namespace Go.Proofs.YtjejnlebpcjidaaGreatDoor
open Go.RowKit Plain
attribute [local go_sem] Oper.semAt_some
theorem infoSlz:(Tryz.prog.info? 47).map (·.size)=some 1:=by kernel_rfl
set_option maxHeartbeats 8000000 in
theorem latest_v (a:Option Addr) (cap:Nat) (C:List Sx) (w:World) (h:Igss w a C) (hl:C.length<=1000) (hc:∀c∈C,c.l<=1000) (hbl:∀m∈allM C,m.bl<1000000):
  Calls Tryz.prog 30 #[.slice a C.length cap] w fun e w'=>∃v Y,e=.returned v/\OImgs w' w.heap.size v Y/\Y.map pl=latP ((allM C).map pl)/\Below w.heap.size w w':=by
 obtain ⟨i0,hi,hz0,hz1,hz2⟩:=info_parts infIm
 obtain ⟨n,hn⟩:=nm C.length
 rw [hn] at hl ⊢
 obtain ⟨g,hg⟩:=nm w.heap.size
 obtain ⟨w1,hw1⟩:=nm (w.alloc (.map #[] 0))
 have hb1:Below w.heap.size w w1:=by rw [<-hw1];exact (Below.refl _ _).alloc (Nat.le_refl _) _
 have H0:Box (LtK w w1 g (allM (C.take 0))):=⟨⟨by rw [<-hw1,<-hg];exact mp_new w,hb1⟩⟩
 have HI:Box (∀wr,Below w.heap.size w wr->Igss wr a C):=⟨fun wr hb=>h.below hb⟩
 have HN:Box (C.length=n/\n<=1000/\∀c∈C,c.l<=1000):=⟨hn,hl,hc⟩
 have HL:Box (∀k (hk:k<C.length),allM (C.take (k+1))=allM (C.take k)++C[k].M):=⟨fun k hk=>allM_take C k hk⟩
 have HGG:Box (w.heap.size=g):=⟨hg⟩
 have HLM:Box ((allM C).length<=1000000):=⟨by
  have key:∀L:List Sx,(∀c∈L,c.M.length<=1000)->(allM L).length<=1000*L.length:=by
   intro L
   induction L with
   | nil=>intro _;simp [allM]
   | cons c L ih=>
    intro hh
    have h1:=ih (fun c hc=>hh c (by simp [hc]))
    have h2:=hh c (by simp)
    have e:allM (c::L)=c.M++allM L:=by simp [allM]
    rw [e,List.length_append,List.length_cons]
    omega
  have:=key C (fun c hcm=>by rw [(h.im c hcm).1];exact hc c hcm)
  omega⟩
 have HBY:Box (∀m∈allM C,Bytes w m.ba m.bl m.bs/\N64 m.blk/\m.bl<1000000):=⟨fun m hm=>by
  obtain ⟨l,hl1,hl2⟩:=List.mem_flatten.1 hm
  obtain ⟨c,hcm,rfl⟩:=List.mem_map.1 hl1
  have:=(h.im c hcm).2.1.byt m hl2
  exact ⟨this.1,this.2.1,hbl m hm⟩⟩
 clear h hl hc hn hg hb1 hbl
 go_enter Tryz.func30,Tryz.ntmps30
 have hmm:=@run_makeMap Tryz.prog
 go_upto_region 2 with fail
 (try simp only [HGG.out])
 clear hw1 hmm
 go_wp2
 go_loopw [14] (fun i wr=>∃k:Nat,k<=n/\i=.int .i64 (k:Int)/\Box (LtK w wr g (allM (C.take k)))) (fun i _=>n-(intOf i).toNat)
 case atStart=>exact ⟨0,Nat.zero_le _,rfl,H0⟩
 case round=>
  clear H0
  obtain ⟨k,hk,rfl,HG⟩:=hrel
  obtain ⟨wo,rfl⟩:∃wo,wo=wr:=⟨_,rfl⟩
  by_cases hlt:k<n
  ·have hlt1:decide ((k:Int)<(n:Int))=true:=by simp;omega
   have hkC:k<C.length:=by rw [HN.out.1];exact hlt
   have HK:Box (k<n):=⟨hlt⟩
   have HIo:=HI.out wo HG.out.bel
   obtain ⟨b,o,hae,hbl,hr⟩:=HIo.tb (by omega)
   subst hae
   have hrk:=hr k hkC
   obtain ⟨hcl,hcI,hcm⟩:=HIo.im C[k] (List.getElem_mem hkC)
   have hc10:=HN.out.2.2 C[k] (List.getElem_mem hkC)
   obtain ⟨⟨ca,cl,cc,CM⟩,hx⟩:∃c,C[k]=c:=⟨_,rfl⟩
   rw [hx] at hrk hcl hcI hcm hc10
   dsimp only at hcl hcI hcm hc10
   have c0:wo.cell? ⟨b,o+k,none⟩=some (.slice ca cl cc):=by have:=hrk 0 _ rfl;rwa [Nat.mul_one,Nat.add_zero] at this
   have HCI:Box (∀wr,Below w.heap.size w wr->Imgs wr ca CM):=⟨fun wr hb=>by have:=((HI.out wr hb).im C[k] (List.getElem_mem hkC)).2.1;rw [hx] at this;exact this⟩
   have HAL:Box (allM (C.take (k+1))=allM (C.take k)++CM):=⟨by rw [HL.out k hkC,hx]⟩
   have HCM:Box (CM.length=cl/\cl<=1000):=⟨hcl,hc10⟩
   obtain ⟨A,hA⟩:=nm (allM (C.take k))
   rw [hA] at HG HAL
   have HG0:Box (LtK w wo g (A++CM.take 0)):=⟨by simpa using HG.out⟩
   clear hx hrk hcl hcI hA HIo hr hbl hcm
   go_upto_region 5 with (refine atIdx 24 ?_;refine q0b rfl _ _ (q0p 24 47 Tryz.underlying24 1 infoSlz _ _ rfl b o n cap k rfl rfl HK.out) ?_;(try rw [Nat.mul_one]))
   go_wp2
   go_loopw [20] (fun j wr=>∃q:Nat,q<=cl/\j=.int .i64 (q:Int)/\Box (LtK w wr g (A++CM.take q))) (fun j _=>cl-(intOf j).toNat)
   case atStart=>exact ⟨0,Nat.zero_le _,rfl,HG0⟩
   case round=>
    clear HG0
    obtain ⟨q,hq,rfl,HQ⟩:=hrel
    by_cases hql:q<cl
    ·have hq1:decide ((q:Int)<(cl:Int))=true:=by simp;omega
     have hqM:q<CM.length:=by rw [HCM.out.1];exact hql
     have HQL:Box (q<cl):=⟨hql⟩
     obtain ⟨b2,o2,hae,hbl,hr2⟩:=(HCI.out wr HQ.out.bel).tb (by omega)
     subst hae
     have hrq:=hr2 q hqM
     obtain ⟨⟨blk,ba,bl,bc,bs⟩,hx⟩:∃m,CM[q]=m:=⟨_,rfl⟩
     rw [hx] at hrq
     simp only [imc] at hrq
     have HR:Box (wr.rangeAt b2 (o2+q*2) [.int .u64 blk,.slice ba bl bc]):=⟨hrq⟩
     obtain ⟨G,hG⟩:=nm wr.heap.size
     have HHG:Box (wr.heap.size=G):=⟨hG⟩
     have HST:Box (∀x w',Below wr.heap.size wr x->Mp w' g (mput (mF (A++CM.take q)) blk ⟨blk,ba,bl,bc,bs⟩)->But g x w'->LtK w w' g (A++CM.take (q+1))):=⟨fun x w' h1 h2 h3=>by
      have:=HQ.out.step h1 ⟨blk,ba,bl,bc,bs⟩ h2 h3 (by have:=HGG.out;omega)
      rw [List.take_succ_eq_append_getElem hqM,hx,<-List.append_assoc]
      exact this⟩
     have HMP:Box (∀x,Below wr.heap.size wr x->Mp x g (mF (A++CM.take q))):=⟨fun x hx'=>HQ.out.mp.same (hx'.block g HQ.out.mp.lt)⟩
     clear hx hrq hr2 hG hbl
     go_upto_region 8 with (first
      | (refine atIdx 47 ?_;refine q0b rfl _ _ (q0p 47 79 Tryz.underlying47 2 infoIm _ _ rfl b2 o2 cl cc q rfl rfl HQL.out) ?_)
      | (refine atLoad 79 ?_;refine q0c rfl 79 _ _ rfl Tryz.underlying79 rfl b2 (o2+q*2) rfl [.int .u64 blk,.slice ba bl bc] infoIm HR.out ?_)
      | (refine atAlloc _ ?_;refine q0b rfl _ _ (q0e 79 rfl _ zeroIm) ?_)
      | (refine atStore _ ?_;refine q0o wr #[.int .u64 0,.slice none 0 0] #[.int .u64 blk,.slice ba bl bc] infoIm rfl (by simp [Value.oneCell']) rfl _ _ rfl rfl rfl rfl ?_;intro x1 h1 hb1;have H1:Box (x1.heap[wr.heap.size]?=some (.cells #[.int .u64 blk,.slice ba bl bc] 79 (0,0))/\Below wr.heap.size wr x1):=⟨h1,hb1⟩;clear h1 hb1))
     (try simp only [HHG.out])
     have HRS:Box (x1.rangeAt G 0 [.int .u64 blk,.slice ba bl bc]):=⟨by
      have:=H1.out.1
      rw [HHG.out] at this
      exact q2a this _ (fun j v hv=>by simpa using hv)⟩
     have c1:x1.cell? ⟨G,0,none⟩=some (.int .u64 blk):=HRS.out 0 _ rfl
     have HM1:Box _:=⟨HMP.out x1 H1.out.2⟩
     have hw5:IntKind.i64.wrap ((q:Int)+1)=((q+1:Nat):Int):=by have:=HCM.out.2;rw [IntKind.wrap_i64];omega
     go_wp2_with (first
      | (refine atLoad 79 ?_;refine q0c rfl 79 _ _ rfl Tryz.underlying79 rfl G 0 rfl [.int .u64 blk,.slice ba bl bc] infoIm HRS.out ?_)
      | (at_mapUpdate;refine z4w rfl 143 25 79 Tryz.underlying143 Tryz.underlying25 _ _ _ rfl g _ blk ⟨blk,ba,bl,bc,bs⟩ rfl rfl rfl HM1.out ?_;intro x2 h2 h3;have H2:Box (LtK w x2 g (A++CM.take (q+1))):=⟨HST.out x1 x2 H1.out.2 h2 h3⟩;clear h2 h3))
     go_roundw
     case rel=>exact ⟨q+1,by omega,by go_num,H2⟩
     case measure=>simp [intOf];omega
    ·have hq1:decide ((q:Int)<(cl:Int))=false:=by simp;omega
     obtain rfl:q=cl:=by omega
     have HE:Box (LtK w wr g (allM (C.take (k+1)))):=⟨by
      rw [HAL.out]
      have:=HQ.out
      rwa [List.take_of_length_le (Nat.le_of_eq HCM.out.1)] at this⟩
     clear HQ
     have hwk:IntKind.i64.wrap ((k:Int)+1)=((k+1:Nat):Int):=by have:=HK.out;have:=HN.out.2.1;rw [IntKind.wrap_i64];omega
     go_wp2
     go_roundw
     case rel=>exact ⟨k+1,by have:=HK.out;omega,by go_num,HE⟩
     case measure=>have:=HK.out;simp [intOf];omega
  ·have hlt1:decide ((k:Int)<(n:Int))=false:=by simp;omega
   obtain rfl:k=n:=by omega
   have HE:Box (LtK w wo g (allM C)):=⟨by have:=HG.out;rwa [List.take_of_length_le (Nat.le_of_eq HN.out.1)] at this⟩
   clear HG HL
   obtain ⟨mm,hmm⟩:=nm (mF (allM C))
   have HMM:Box (mF (allM C)=mm/\mm.length<=1000000):=⟨hmm,by rw [<-hmm];exact Nat.le_trans (len_mF _) HLM.out⟩
   have HMP:Box (Mp wo g mm):=⟨by rw [<-hmm];exact HE.out.mp⟩
   have HMK:Box (i0.bytes*mm.length<=281474976710656/\mm.length<=maxLen/\w.heap.size<=wo.heap.size):=⟨by have:=HMM.out.2;rw [hz2];omega,by have:=HMM.out.2;unfold maxLen;omega,HE.out.bel.size⟩
   clear hmm
   go_upto_region 12 with (first
    | (at_len;refine z4m rfl 143 25 79 Tryz.underlying143 _ rfl g mm rfl HMP.out ?_)
    | (at_make;refine wpList_make_own _ rfl _ _ 47 rfl wo.heap.size 79 i0 _ 2 Tryz.underlying47 hi hz0 hz1 _ _ _ mm.length rfl rfl rfl HMK.out.1 HMK.out.2.1 (Nat.le_refl _) ?_;intro x1 a1 a2;have H1:Box (x1.ownsRow wo.heap.size 79 2 (.slice (some ⟨wo.heap.size,0,none⟩) 0 mm.length) 0 []/\wo.grownBy x1 none):=⟨a1,a2⟩;clear a1 a2))
   have HB1:Box (Below wo.heap.size wo x1/\Mp x1 g mm):=⟨(Below.refl _ _).grown H1.out.2 (Nat.le_refl _) (fun j hj=>by cases hj),HMP.out.same (H1.out.2.block g HMP.out.lt (by simp))⟩
   obtain ⟨r,hr⟩:=nm x1.heap.size
   obtain ⟨B0,hB0⟩:=nm wo.heap.size
   (try simp only [hB0])
   rw [hB0] at H1
   have HB0:Box (wo.heap.size=B0/\x1.heap.size=r):=⟨hB0,hr⟩
   clear hB0
   go_wp2_with (at_range;refine z1k rfl 143 25 79 Tryz.underlying143 _ rfl g mm rfl HB1.out.2 ?_;intro x2 a1 a2;have H2:Box (Rg x2 g x1.heap.size mm []/\Below x1.heap.size x1 x2):=⟨a1,a2⟩;clear a1 a2)
   (try simp only [hr])
   (try go_frame)
   have HST0:Box (LrK w wo x2 g r mm [] (.slice (some ⟨B0,0,none⟩) 0 mm.length) []):=⟨by
    have hrg:=H2.out.1
    rw [hr] at hrg
    have o1:=q2v H1.out.1 H2.out.2
    have z1:=HB1.out.1.size
    have z2:=H2.out.2.size
    have z3:=HE.out.bel.size
    have z4:=HMP.out.lt
    rw [<-HB0.out.1] at o1 ⊢
    exact ⟨hrg,⟨o1,fun m hm=>by simp at hm⟩,rfl,fun p hp=>(by simp at hp),fun e=>(by cases e),q0a HE.out.bel (q0a HB1.out.1 H2.out.2),⟨z3,by omega,by omega,by have:=HGG.out;omega,z4⟩⟩⟩
   clear hr H1
   go_loopw [8] (fun v wr=>∃(dn:List (Int × Im)) (Y:List Im),Box (LrK w wo wr g r mm dn v Y)) (fun _ wr=>wr.rangeLeft g r)
   case atStart=>exact ⟨[],[],HST0⟩
   case round=>
    clear HST0 H2 HB1
    obtain ⟨dn,Y,HR⟩:=hrel
    rcases HR.out.rg.next2 (P:=Tryz.prog) with ⟨hperm,hrun⟩ | ⟨p,x3,hp,hrun,hrg,hbt,hsz,hen,hlft⟩
    ·have HP:Box ((dn.map kv).Perm (mm.map kv)):=⟨hperm⟩
     have HSO:Box (Calls Tryz.prog 65 #[u8,.func (.func 66) #[] #[]] wr fun e w'=>e=.returned (.tuple #[])/\∃Y',Y'.Perm Y/\Y'.Pairwise (fun a b=>a.blk<=b.blk)/\OImgs w' wo.heap.size u8 Y'/\wr.grownBy w' u8.ownBlock):=⟨sortIm_v HR.out.im HR.out.nn (by
      have h1:=congrArg List.length HR.out.pls
      have h2:=hperm.length_eq
      have h3:=HMM.out.2
      simp at h1 h2
      omega)⟩
     clear hperm
     go_wp2_with (go_at_call 65;refine HSO.out.mono ?_;rintro e x3 ⟨rfl,Y',q1,q2,q3,q4⟩;have H3:Box (Y'.Perm Y/\Y'.Pairwise (fun a b=>a.blk<=b.blk)/\OImgs x3 wo.heap.size u8 Y'/\wr.grownBy x3 u8.ownBlock):=⟨q1,q2,q3,q4⟩;clear q1 q2 q3 q4)
     go_ret
     have hR:=HR.out
     rw [<-HMM.out.1] at hR
     have hP:=HP.out
     rw [<-HMM.out.1] at hP
     have hlo:=hR.lo
     refine ⟨u8,Y',rfl,⟨q2u H3.out.2.2.1.row hlo.1,fun m hm=>(H3.out.2.2.1.byt m hm).low hlo.1⟩,hR.fin hP H3.out.1 H3.out.2.1,hR.bel.grown H3.out.2.2.2 hR.bel.size (fun j hj=>?_)⟩
     have:=(q1j hR.im.row j hj).1
     omega
    ·have hpm:p.2∈allM C:=mem_mF (allM C) p (by rw [HMM.out.1];exact hp)
     have hpk:p.1=p.2.blk:=(mr_mF (allM C)).key p (by rw [HMM.out.1];exact hp)
     have hby:=HBY.out p.2 hpm
     obtain ⟨pk,pi⟩:=p
     obtain ⟨blk,ba,bl,bc,bs⟩:=pi
     dsimp only at hrun hrg hen hpm hpk hby
     simp only [imc] at hrun hen
     have hbw:Below w.heap.size w x3:=(HR.out.mid hbt).2
     have HCL:Box (∀y,Below x3.heap.size x3 y->Calls Tryz.prog 64 #[.slice ba bl bc] y fun e w'=>∃a' c',e=.returned (.slice a' bl c')/\w'.ownsRow y.heap.size 5 1 (.slice a' bl c') bl (bs.map (Value.int .u8))/\Below y.heap.size y w'):=⟨fun y hy=>z1s ba bl bc bs y (hby.1.below (q0a hbw hy)) hby.2.2⟩
     have HST:Box (∀(y w':World) (a':Option Addr) (c':Nat) (v':Value),Below x3.heap.size x3 y->y.ownsRow x3.heap.size 5 1 (.slice a' bl c') bl (bs.map (Value.int .u8))->w'.ownsRow wo.heap.size 79 2 v' (Y.length+1) ((Y.map imc).flatten++[.int .u64 pk,.slice a' bl c'])->y.grownBy w' u8.ownBlock->w'.rangeLeft g r<wr.rangeLeft g r/\∃dn' Y',LrK w wo w' g r mm dn' v' Y'):=⟨fun y w' a' c' v' h1 h2 h3 h4=>by
      have hst:=HR.out.step hbt (pk,⟨blk,ba,bl,bc,bs⟩) hp hrg h1 a' c' bl rfl h2 hby.1.2.1 (by rw [hpk];exact hby.2.1) h3 h4 (app_nn h3)
      refine ⟨?_,_,_,hst⟩
      obtain ⟨m1,_⟩:=HR.out.mid hbt
      have hry:=hrg.same (h1.block g hrg.lt.1) (h1.block r hrg.lt.2.1)
      have hne:=hry.ne (m1.to h1).row
      have e1:w'.rangeLeft g r=x3.rangeLeft g r:=by
       unfold World.rangeLeft
       rw [h4.block g hry.lt.1 hne.1,h4.block r hry.lt.2.1 hne.2,h1.block g hrg.lt.1,h1.block r hrg.lt.2.1]
      rw [e1]
      exact hlft⟩
     have HOW:Box (∀y,Below x3.heap.size x3 y->y.ownsRow wo.heap.size 79 2 u8 Y.length (Y.map imc).flatten/\wo.heap.size<=y.heap.size):=⟨fun y hy=>⟨q2v (HR.out.mid hbt).1.row hy,by have:=HR.out.lo;have:=hbt.size;have:=hy.size;omega⟩⟩
     have HYL:Box (Y.length<=1000000):=⟨by
      have h1:=congrArg List.length HR.out.pls
      have h3:=HMM.out.2
      have h4:dn.length<=mm.length:=by
       obtain ⟨es,clock,since,seen,c0,de,r1,r2,r3,r4,r5,r6,r7,r8,r9,r10⟩:=HR.out.rg
       have e1:de.length=dn.length:=by simpa using congrArg List.length r10
       have e2:es.toList.length=mm.length:=by simpa using congrArg List.length r2.kv
       have hsub:de ⊆ es.toList:=r7
       have:=List.Nodup.length_le_of_subset (q3a _ r9) hsub
       omega
      simp at h1
      omega⟩
     obtain ⟨G,hG⟩:=nm x3.heap.size
     have HHG:Box (x3.heap.size=G):=⟨hG⟩
     clear hby hpm hpk hp hrg hbt hlft hbw hG HBY hsz
     go_upto_region 15 with (first
      | (refine atAlloc _ ?_;refine q0b rfl _ _ (q0e 79 rfl _ zeroIm) ?_)
      | (refine atStore _ ?_;refine q0o x3 #[.int .u64 0,.slice none 0 0] #[.int .u64 blk,.slice ba bl bc] infoIm rfl (by simp [Value.oneCell']) rfl _ _ rfl rfl rfl rfl ?_;intro x4 h1 hb1;have H4:Box (x4.heap[x3.heap.size]?=some (.cells #[.int .u64 blk,.slice ba bl bc] 79 (0,0))/\Below x3.heap.size x3 x4):=⟨h1,hb1⟩;clear h1 hb1))
     (try simp only [HHG.out])
     have c1:x4.cell? ⟨G,1,none⟩=some (.slice ba bl bc):=by have:=H4.out.1;rw [HHG.out] at this;rw [cell_of_row _ _ _ _ _ _ this];rfl
     have HC4:Box _:=⟨HCL.out x4 H4.out.2⟩
     clear hrun hen HCL
     go_wp2_with (first
      | (go_at_call 64;refine HC4.out.mono ?_;rintro e x5 ⟨a',c',rfl,q1,q2⟩;have H5:Box (x5.ownsRow x3.heap.size 5 1 (.slice a' bl c') bl (bs.map (Value.int .u8))/\Below x3.heap.size x3 x5):=⟨q2u q1 H4.out.2.size,q0a H4.out.2 q2⟩;have HO5:Box _:=⟨HOW.out x5 H5.out.2⟩;clear q1 q2)
      | (refine atBuild 79 ?_;refine q0b rfl _ _ (q0n 79 [(0,.tmp 41),(1,.tmp 44)] rfl [(0,.int .u64 pk),(1,.slice a' bl c')] rfl _ (q3r _ _ _ _)) ?_)
      | (at_builtin;refine q1s 47 79 Tryz.underlying47 2 32 _ infIm rfl (by decide) rfl (.tmp 40) (.tmp 46) rfl wo.heap.size Y.length u8 (Y.map imc).flatten [.int .u64 pk,.slice a' bl c'] x5 rfl rfl rfl HO5.out.1 rfl (by simp [Value.oneCell']) HYL.out (by decide) (by decide) HO5.out.2 ?_;intro v6 x6 a1 a2;have H6:Box (x6.rangeLeft g r<wr.rangeLeft g r/\∃dn' Y',LrK w wo x6 g r mm dn' v6 Y'):=⟨HST.out x5 x6 a' c' v6 H5.out.2 H5.out.1 a1 a2⟩;clear a1 a2))
     go_roundw
     case rel=>
      obtain ⟨_,dn',Y',h⟩:=H6.out
      exact ⟨dn',Y',⟨h⟩⟩
     case measure=>exact H6.out.1
end Go.Proofs.YtjejnlebpcjidaaGreatDoor
namespace Go.Proofs.YtjejnlebpcjidaaGreatDoor
open Go.RowKit Plain
attribute [local go_sem] Oper.semAt_some
def j0:Jt:=⟨k1,0,4,zs,1,100⟩
theorem ok_j0:j0.Ok:=⟨z3k,z1n,by decide,by decide,q1f,by decide,by decide,by decide,by decide⟩
def s01:Jst:=⟨0,1,z32⟩
theorem okS_s01:OkS s01:=⟨q1l,z0w,by decide,by decide⟩
theorem z7b:Tryz.prog.built 27 [(1,.int .u64 1)]=some (sa s01):=by kernel_rfl
theorem aw_img1 {w y:World} {g N:Nat} (hg:w.heap[g]?=some (.cells (u8s z160) 5 (0,0))) (hb:Below w.heap.size w y) (hr:y.heap[N]?=some (.cells #[.int .u64 3,.slice (some ⟨g,0,none⟩) 160 160] 79 (0,0))):Imgs y (some ⟨N,0,none⟩) [⟨3,some ⟨g,0,none⟩,160,160,z160⟩]:=by
 refine z3o (M:=[⟨3,some ⟨g,0,none⟩,160,160,z160⟩]) (by rw [hr];rfl) fun m hm=>?_
 simp only [List.mem_cons,List.not_mem_nil,or_false] at hm
 subst hm
 have hgy:y.heap[g]?=some (.cells (u8s z160) 5 (0,0)):=(hb.block g (gE hg)).trans hg
 refine ⟨?_,⟨by show (0:Int)<=3;decide,by show (3:Int)<=_;decide⟩,by show 160<=160;omega,by show 160<=maxLen;unfold maxLen;omega⟩
 have:=q1c z5e hgy
 rwa [q6b] at this
theorem aw_app (d:Disk.Dk) (hd:Up d):∃d1 s1,appM j0 d [x3]=(d1,2,0,s1)/\s1.start=0/\s1.count=1/\OkS s1/\Up d1/\d1.n=d.n/\d1.ops.length=d.ops.length+1/\d1.uw.length=d.uw.length+1/\LGood d1 k1 0 4 s1/\ldC d1 k1 0 4 s1=[[x3]]/\¬LGood d1 k1 0 4 s01:=by
 have hb:bad [x3]=false:=by simp [bad,x3,q6b]
 have hu:=appM_up j0 ok_j0 d [x3] hd hb (by decide) (by decide)
 have hj:=jn_appM j0 ok_j0 d [x3] hd hb (by decide) (by decide) (fun x hx=>by
  simp only [List.mem_cons,List.not_mem_nil,or_false] at hx
  subst hx
  exact ⟨q6b,z5e,by decide,by decide⟩) (jn_nil d k1 0 4 0)
 have ho:=ap_one j0 d x3 q6b (by decide) (by decide) hd.1 hd.2
 have hj2:Jn (appM j0 d [x3]).1 k1 0 4 (appM j0 d [x3]).2.2.2 (([[x3]].map ofP).flatten):=by
  rw [List.nil_append] at hj
  have e:([[x3]].map ofP).flatten=ofP [x3]:=by simp
  rw [e]
  exact hj
 obtain ⟨g1,g2⟩:=jn_load hj2 (by simp)
 refine ⟨(appM j0 d [x3]).1,(appM j0 d [x3]).2.2.2,?_,hu.st,hu.ct,hu.okS (by decide) (by decide),hu.up,hu.nn,by rw [hu.ops];simp [pls],?_,g1,g2,fun h=>?_⟩
 ·have e1:=hu.nx
  have e2:=hu.er
  generalize appM j0 d [x3]=y at e1 e2 ⊢
  obtain ⟨y1,y2,y3,y4⟩:=y
  simp only at e1 e2
  subst e2
  rw [e1]
  rfl
 ·obtain ⟨W,hW,hW2⟩:=hu.uw
  have:=congrArg List.length hW2
  rw [hW]
  simp [pls] at this ⊢
  omega
 ·have h1:=h.1
  rw [ho] at h1
  have e:lds (Disk.wrOk d (plc j0 (j0.st.start+j0.st.count)) (slt j0.key (plc j0 (j0.st.start+j0.st.count):Int) j0.nx (x3,true))) 0 4 s01=[(0,slt k1 0 1 (x3,true))]:=by
   show (pcs 0 4 0 1).map _=_
   have e2:pcs 0 4 0 1=[0]:=by decide
   rw [e2]
   show [(0,Disk.lat (Disk.wrOk d 0 (slt k1 ((0:Nat):Int) 1 (x3,true))) 0)]=_
   rw [Disk.lat_wr,if_pos rfl]
   rfl
  have h2:chn [(0,slt k1 0 1 (x3,true))]=z32:=by rw [<-e];exact h1
  exact link_one h2
end Go.Proofs.YtjejnlebpcjidaaGreatDoor
namespace Go.Proofs.YtjejnlebpcjidaaGreatDoor
open Go.RowKit Plain
attribute [local go_sem] Oper.semAt_some
set_option maxHeartbeats 8000000 in
theorem z3e (w:World) (hT:Dig.Tabs w) (hT2:Seal.Tab w):Calls Tryz.prog 5 #[] w fun e w'=>e=.returned (.bool true)/\Below w.heap.size w w':=by
 obtain ⟨D,hD⟩:=nm (w.heap.size+1)
 have HD:Box (Calls Tryz.prog 6 #[.int .i64 4] w fun e w'=>e=.returned (.tuple #[.pointer (some ⟨D,0,none⟩),.int .i64 0])/\∃fp,Disk.Cx w w' D fp (Disk.dk0 4)):=⟨by have:=Disk.new_cx w 4 ⟨by omega,by omega⟩;rw [hD] at this;exact this⟩
 obtain ⟨d0,hd0⟩:=nm (Disk.dk0 4)
 rw [hd0] at HD
 have HD0:Box (Up d0/\d0.n=4/\d0.ops.length=0/\d0.uw.length=0/\(0<=d0.left/\d0.left<=9223372036854775807)):=⟨by rw [<-hd0];exact ⟨⟨rfl,rfl⟩,rfl,rfl,rfl,by decide,by decide⟩⟩
 have HT:Box (Dig.Tabs w/\Seal.Tab w):=⟨hT,hT2⟩
 obtain ⟨AK,HAK⟩:∃A,Box (u8s k1=A):=⟨_,⟨rfl⟩⟩
 obtain ⟨SZ,HSZ⟩:∃A,Box (sa zs=A):=⟨_,⟨rfl⟩⟩
 obtain ⟨SO,HSO⟩:∃A,Box (sa s01=A):=⟨_,⟨rfl⟩⟩
 obtain ⟨d1,s1,hs1⟩:=aw_app d0 HD0.out.1
 have HS1:Box _:=⟨hs1⟩
 clear hs1
 obtain ⟨SA,HSA⟩:∃A,Box (sa s1=A):=⟨_,⟨rfl⟩⟩
 have HIS:Box ((Tryz.prog.info? 27).map (·.size)=some SA.size/\(sa zs).size=SA.size/\SA.all (·.oneCell')=true/\(Tryz.prog.info? 27).map (·.size)=some (scs s1).length/\(scs s1).toArray=SA):=⟨by rw [<-HSA.out,q1b HS1.out.2.2.2.1];exact infoSt,by rw [<-HSA.out,q1b HS1.out.2.2.2.1,q1b q1f],by rw [<-HSA.out];exact q3z s1,by rw [q0u HS1.out.2.2.2.1];exact infoSt,by rw [<-HSA.out];rfl⟩
 clear hT hT2 hD hd0
 go_enter Tryz.func5,Tryz.ntmps5
 go_upto_region 2 with (go_at_call 6;refine HD.out.mono ?_;rintro e x1 ⟨rfl,fp1,hc⟩;have H1:Box (Disk.Cx w x1 D fp1 d0):=⟨hc⟩;clear hc)
 have HJN:Box (Calls Tryz.prog 8 #[.pointer (some ⟨D,0,none⟩),.agg AK,.int .i64 0,.int .i64 4,.agg SZ,.int .u64 1,.int .u64 100] x1 fun e w'=>∃J,e=.returned (.tuple #[.pointer (some ⟨J,0,none⟩),.int .i64 0])/\JC w w' J D fp1 j0 d0):=⟨by
  have:=z0x H1.out k1 ⟨z3k,z1n⟩ 0 4 (by omega) (by rw [HD0.out.2.1];omega) (by rw [HD0.out.2.1];omega) zs q1f (by decide) 1 100 ⟨by omega,by omega⟩ ⟨by omega,by omega⟩ HT.out.1 HT.out.2
  rw [HAK.out,HSZ.out] at this
  exact this.mono fun e w' ⟨J,h1,h2,_⟩=>⟨J,h1,h2⟩⟩
 go_upto_region 3 with (first
  | (refine atBuild 23 ?_;refine q0b rfl _ _ (q0n 23 [(0,.const (.int .u8 1))] rfl [(0,.int .u8 1)] rfl AK (by rw [<-HAK.out];exact z0p)) ?_)
  | (refine atBuild 27 ?_;refine q0b rfl _ _ (q0n 27 [] rfl [] rfl SZ (by rw [<-HSZ.out];exact q5g)) ?_)
  | (go_at_call 8;refine HJN.out.mono ?_;rintro e x2 ⟨J,rfl,hc⟩;have H2:Box (JC w x2 J D fp1 j0 d0):=⟨hc⟩;clear hc))
 clear HJN HD
 go_upto_region 5 with fail
 have HL1:Box (Calls Tryz.prog 24 #[.pointer (some ⟨D,0,none⟩),.agg AK,.int .i64 0,.int .i64 4,.agg SZ] x2 fun e w'=>∃fp' a c,JC w w' J D fp' j0 d0/\e=.returned (.tuple #[.slice a 0 c,.int .i64 0])):=⟨by
  have:=z6r H2.out.cx k1 ⟨z3k,z1n⟩ 0 4 zs q1f (by omega) (by omega) (by rw [HD0.out.2.1];omega) (by rw [HD0.out.2.1];omega) (by decide) (fun _=>HD0.out.1.1) (by have:=HD0.out;omega) (by have:=HD0.out;omega) HT.out.1 HT.out.2
  rw [HAK.out,HSZ.out] at this
  refine this.mono ?_
  rintro e w' ⟨fp',q1,q2,q3⟩
  obtain ⟨g1,g2⟩:=jn_load (X:=[]) (jn_nil d0 k1 0 4 0) (by simp)
  rcases q3 with ⟨q3,_⟩ | ⟨_,u,X,B,q4,q5,_,_,q6⟩
  ·exact absurd g1 q3
  ·have eX:X=[]:=by rw [show ldC d0 k1 0 4 zs=[] from g2] at q6;simpa using q6
   subst eX
   obtain ⟨a,c,rfl⟩:=q0l q5.row
   have e0:rdD d0 (pcs 0 4 zs.start zs.count)=d0:=z4s d0
   rw [e0] at q1
   exact ⟨fp',a,c,H2.out.fol q1 q2 rfl,q4⟩⟩
 go_upto_region 6 with (first
  | (refine atBuild 23 ?_;refine q0b rfl _ _ (q0n 23 [(0,.const (.int .u8 1))] rfl [(0,.int .u8 1)] rfl AK (by rw [<-HAK.out];exact z0p)) ?_)
  | (refine atBuild 27 ?_;refine q0b rfl _ _ (q0n 27 [] rfl [] rfl SZ (by rw [<-HSZ.out];exact q5g)) ?_)
  | (go_at_call 24;refine HL1.out.mono ?_;rintro e y3 ⟨fp3,a3,c3,hc,rfl⟩;have H3:Box (JC w y3 J D fp3 j0 d0):=⟨hc⟩;clear hc))
 clear HL1
 obtain ⟨g,hg⟩:=nm y3.heap.size
 obtain ⟨x4,hx4⟩:=nm (y3.alloc (.cells (u8s z160) 5))
 have hr4:x4.heap[g]?=some (.cells (u8s z160) 5 (0,0)):=by rw [<-hx4];exact q0g hg
 have hb4:Below y3.heap.size y3 x4:=by rw [<-hx4];exact (Below.refl _ _).alloc (Nat.le_refl _) _
 have H4:Box (x4.heap[g]?=some (.cells (u8s z160) 5 (0,0))/\Below y3.heap.size y3 x4):=⟨hr4,hb4⟩
 have HA1:Box (Calls Tryz.prog 11 #[.pointer (some ⟨J,0,none⟩),.slice (some ⟨x4.heap.size,0,none⟩) 1 1] (x4.alloc (.cells #[.int .u64 3,.slice (some ⟨g,0,none⟩) 160 160] 79)) fun e w'=>e=.returned (.tuple #[.agg SA,.int .i64 0])/\∃fp',JC w w' J D fp' {j0 with nx:=2} d1):=⟨by
  obtain ⟨y,hy⟩:=nm (x4.alloc (.cells #[.int .u64 3,.slice (some ⟨g,0,none⟩) 160 160] 79))
  rw [hy]
  have hb:Below x4.heap.size x4 y:=by rw [<-hy];exact (Below.refl _ _).alloc (Nat.le_refl _) _
  have hM:=aw_img1 H4.out.1 hb (by rw [<-hy];exact q0g rfl)
  have:=z6a (H3.out.below (q0a H4.out.2 hb)) _ 1 _ hM (by simp) (fun m hm=>by simp only [List.mem_cons,List.not_mem_nil,or_false] at hm;rw [hm];show 160<=_;omega) HD0.out.2.2.2.2 (by have:=HD0.out;omega) (by have:=HD0.out;omega)
  have e3:appM j0 d0 ([(⟨3,some ⟨g,0,none⟩,160,160,z160⟩:Im)].map pl)=(d1,2,0,s1):=HS1.out.1
  rw [e3] at this
  refine this.mono ?_
  rintro e w' ⟨fp',q1,q2,q3⟩
  exact ⟨by rw [q1,HSA.out],fp',q2⟩⟩
 clear hr4 hb4
 go_upto_region 7 with (first
  | (at_make;refine q0b rfl _ _ (z1p _ _ rfl rfl rfl) ?_;(try simp only [hg,hx4]))
  | (refine atBuild 79 ?_;refine q0b rfl _ _ (q0n 79 [(0,.const (.int .u64 3)),(1,.tmp 43)] rfl [(0,.int .u64 3),(1,.slice (some ⟨g,0,none⟩) 160 160)] rfl _ (q3r _ _ _ _)) ?_)
  | (go_at_call 11;refine HA1.out.mono ?_;rintro e x5 ⟨rfl,fp5,hc⟩;have H5:Box (JC w x5 J D fp5 {j0 with nx:=2} d1):=⟨hc⟩;clear hc)
  | (refine atAlloc _ ?_;refine q0b rfl _ _ (q0e 27 rfl _ zeroSt) ?_)
  | (refine atStore _ ?_;refine q0o x5 (sa zs) SA HIS.out.1 HIS.out.2.1 HIS.out.2.2.1 rfl _ _ rfl rfl rfl rfl ?_;intro x6 h6 hb6;have H6:Box (x6.heap[x5.heap.size]?=some (.cells SA 27 (0,0))/\Below x5.heap.size x5 x6):=⟨h6,hb6⟩;clear h6 hb6))
 clear HA1
 obtain ⟨S5,hS5⟩:=nm x5.heap.size
 (try simp only [hS5])
 have HR6:Box (x6.rangeAt S5 0 (scs s1)/\JC w x6 J D fp5 {j0 with nx:=2} d1):=⟨fun i v hv=>by
  have:=H6.out.1
  rw [hS5] at this
  rw [cell_of_row _ _ _ _ _ _ this,Nat.zero_add,<-HIS.out.2.2.2.2]
  simpa using hv,H5.out.below H6.out.2⟩
 clear hS5 hg hx4
 have HL2:Box (Calls Tryz.prog 24 #[.pointer (some ⟨D,0,none⟩),.agg AK,.int .i64 0,.int .i64 4,.agg SA] x6 fun e w'=>∃fp' a c C B,Disk.Cx w w' D fp' (rdD d1 (pcs 0 4 s1.start s1.count))/\e=.returned (.tuple #[.slice a 1 c,.int .i64 0])/\Chs w' B (.slice a 1 c) C/\(∀k,fp' k->k<B)/\C.map (fun c=>c.M.map pl)=[[x3]]):=⟨by
  have hq:=HS1.out
  have:=z6r HR6.out.2.cx k1 ⟨z3k,z1n⟩ 0 4 s1 hq.2.2.2.1 (by omega) (by omega) (by rw [hq.2.2.2.2.2.1,HD0.out.2.1];omega) (by rw [hq.2.2.2.2.2.1,HD0.out.2.1];omega) (by simp [may,hq.2.1,hq.2.2.1]) (fun _=>hq.2.2.2.2.1.1) (by have:=HD0.out;have:=hq.2.2.2.2.2.2.1;omega) (by have:=HD0.out;have:=hq.2.2.2.2.2.2.2.1;omega) HT.out.1 HT.out.2
  rw [HAK.out,HSA.out] at this
  refine this.mono ?_
  rintro e w' ⟨fp',q1,q2,q3⟩
  rcases q3 with ⟨q3,_⟩ | ⟨_,u,X,B,q4,q5,q6,q7,q8⟩
  ·exact absurd hq.2.2.2.2.2.2.2.2.1 q3
  ·rw [hq.2.2.2.2.2.2.2.2.2.1] at q8
   have hl:X.length=1:=by have:=congrArg List.length q8;simpa using this
   obtain ⟨a,c,rfl⟩:=q0l q5.row
   rw [hl] at q4 q5
   exact ⟨fp',a,c,X,B,q1,q4,q5,q7,q8⟩⟩
 go_upto_region 8 with (first
  | (refine atBuild 23 ?_;refine q0b rfl _ _ (q0n 23 [(0,.const (.int .u8 1))] rfl [(0,.int .u8 1)] rfl AK (by rw [<-HAK.out];exact z0p)) ?_)
  | (refine atLoad 27 ?_;refine q0c rfl 27 _ _ rfl Tryz.underlying27 rfl S5 0 rfl (scs s1) HIS.out.2.2.2.1 HR6.out.1 ?_;rw [HIS.out.2.2.2.2])
  | (go_at_call 24;refine HL2.out.mono ?_;rintro e x7 ⟨fp7,a7,c7,C,B,q1,rfl,q2,q3,q4⟩;have H7:Box (Disk.Cx w x7 D fp7 (rdD d1 (pcs 0 4 s1.start s1.count))/\Chs x7 B (.slice a7 1 c7) C/\(∀k,fp7 k->k<B)/\C.map (fun c=>c.M.map pl)=[[x3]]):=⟨q1,q2,q3,q4⟩;clear q1 q2 q3 q4))
 clear HL2 HR6 H6 H5 H4 H3 H2 H1
 have HL3:Box (Calls Tryz.prog 24 #[.pointer (some ⟨D,0,none⟩),.agg AK,.int .i64 0,.int .i64 4,.agg SO] x7 fun e w'=>e=.returned (.tuple #[.slice none 0 0,.int .i64 14])/\Chs w' B (.slice a7 1 c7) C/\Below w.heap.size w w'):=⟨by
  have hq:=HS1.out
  have hlo:(rdD d1 (pcs 0 4 s1.start s1.count)).ops.length<900000:=by
   show (d1.ops++_).length<900000
   have:=HD0.out
   have:=hq.2.2.2.2.2.2.1
   have:=hq.2.2.1
   simp [pcs]
   omega
  have:=z6r H7.out.1 k1 ⟨z3k,z1n⟩ 0 4 s01 okS_s01 (by omega) (by omega) (by show 0+4<=d1.n;rw [hq.2.2.2.2.2.1,HD0.out.2.1];omega) (by show d1.n<=4096;rw [hq.2.2.2.2.2.1,HD0.out.2.1];omega) (by decide) (fun _=>hq.2.2.2.2.1.1) hlo (by show d1.uw.length<900000;have:=HD0.out;have:=hq.2.2.2.2.2.2.2.1;omega) HT.out.1 HT.out.2
  rw [HAK.out,HSO.out] at this
  refine this.mono ?_
  rintro e w' ⟨fp',q1,q2,q3⟩
  rcases q3 with ⟨_,q3⟩ | ⟨q3,_⟩
  ·refine ⟨q3,H7.out.2.1.same (fun k hk hl=>q2.t.block k hl (fun hf=>by have:=H7.out.2.2.1 k hf;omega)) q2.t.size,q1.bel⟩
  ·exact absurd q3 hq.2.2.2.2.2.2.2.2.2.2⟩
 go_upto_region 9 with (first
  | (refine atBuild 23 ?_;refine q0b rfl _ _ (q0n 23 [(0,.const (.int .u8 1))] rfl [(0,.int .u8 1)] rfl AK (by rw [<-HAK.out];exact z0p)) ?_)
  | (refine atBuild 27 ?_;refine q0b rfl _ _ (q0n 27 [(1,.const (.int .u64 1))] rfl [(1,.int .u64 1)] rfl SO (by rw [<-HSO.out];exact z7b)) ?_)
  | (go_at_call 24;refine HL3.out.mono ?_;rintro e x8 ⟨rfl,q1,q2⟩;have H8:Box (Chs x8 B (.slice a7 1 c7) C/\Below w.heap.size w x8):=⟨q1,q2⟩;clear q1 q2))
 clear HL3
 obtain ⟨cx,hC⟩:∃cx,C=[cx]:=by
  have hl:C.length=1:=by have:=congrArg List.length H7.out.2.2.2;simpa using this
  match C,hl with
  | [c],_=>exact ⟨c,rfl⟩
 subst hC
 obtain ⟨m,hM⟩:∃m,cx.M=[m]:=by
  have h1:cx.M.map pl=[x3]:=by have:=H7.out.2.2.2;simpa using this
  have hl:cx.M.length=1:=by have:=congrArg List.length h1;simpa using this
  match hq:cx.M,hl with
  | [c],_=>exact ⟨c,rfl⟩
 have hpm:pl m=x3:=by have:=H7.out.2.2.2;rw [List.map_cons,List.map_nil,hM] at this;simpa using this
 obtain ⟨ca,cl,cc,CM⟩:=cx
 dsimp only at hM
 subst hM
 obtain ⟨hcl,⟨cg,co,hcg,hcg2,rfl,hcr⟩,hcb⟩:=H8.out.1.im _ (List.mem_singleton.2 rfl)
 dsimp only at hcl hcr hcb
 obtain ⟨b7,o7,he7,hb7,hr7⟩:=q6f (f:=slc) (M:=[⟨some ⟨cg,co,none⟩,cl,cc,[m]⟩]) (fun _=>rfl) H8.out.1.row rfl (by simp)
 simp only [List.length_cons,List.length_nil,Nat.zero_add] at hcl hcr
 subst hcl
 have c0:x8.cell? ⟨b7,o7,none⟩=some (.slice (some ⟨cg,co,none⟩) 1 cc):=by have:=hr7 0 (by simp) 0 _ rfl;simpa using this
 have c1:x8.cell? ⟨cg,co,none⟩=some (.int .u64 3):=by
  have:=hcr 0 (by omega) 0 _ rfl
  have e:m.blk=3:=by have:=congrArg Prod.fst hpm;exact this
  simpa [e] using this
 subst he7
 have HLT:Box (Calls Tryz.prog 30 #[.slice (some ⟨b7,o7,none⟩) 1 c7] x8 fun e w'=>∃a' c',e=.returned (.slice a' 1 c')/\Below x8.heap.size x8 w'):=⟨by
  have hig:Igss x8 (some ⟨b7,o7,none⟩) [⟨some ⟨cg,co,none⟩,1,cc,[m]⟩]:=H8.out.1.igss (fun x hx=>by
   simp only [List.mem_cons,List.not_mem_nil,or_false] at hx
   rw [hx]
   show 1<=maxLen
   unfold maxLen
   omega)
  have hbl:m.bl=160:=by
   have h1:=(hcb m (by simp)).byi.1.1
   have h2:m.bs=z160:=by have:=congrArg Prod.snd hpm;exact this
   rw [h2,q6b] at h1
   exact h1.symm
  have:=latest_v (some ⟨b7,o7,none⟩) c7 [⟨some ⟨cg,co,none⟩,1,cc,[m]⟩] x8 hig (by simp) (fun c hc=>by
   simp only [List.mem_cons,List.not_mem_nil,or_false] at hc
   rw [hc]
   show 1<=1000
   omega) (fun y hy=>by
   simp only [allM,List.map_cons,List.map_nil,List.flatten_cons,List.flatten_nil,List.append_nil,List.mem_cons,List.not_mem_nil,or_false] at hy
   rw [hy,hbl]
   omega)
  refine this.mono ?_
  rintro e w' ⟨v,Y,rfl,q1,q2,q3⟩
  have hl:Y.length=1:=by
   have:=congrArg List.length q2
   simpa [allM,latP,insP] using this
  obtain ⟨a',c',rfl⟩:=q0l q1.row
  rw [hl]
  exact ⟨a',c',rfl,q3⟩⟩
 clear hr7 hcr hcb hpm hb7 hcg hcg2
 have HB8:Box (Below w.heap.size w x8):=⟨H8.out.2⟩
 clear H8 H7
 go_wp2_with (go_at_call 30;refine HLT.out.mono ?_;rintro e x9 ⟨a9,c9,rfl,q1⟩;have H9:Box (Below x8.heap.size x8 x9):=⟨q1⟩;clear q1)
 go_ret
 exact ⟨rfl,q0a HB8.out H9.out⟩
end Go.Proofs.YtjejnlebpcjidaaGreatDoor
namespace Go.Proofs.YtjejnlebpcjidaaGreatDoor
open Go.RowKit Plain
theorem sealOk:SealOk:=fun K B p v y hK hKb hB hl hp hv=>Seal.rseal_ok K B p v 176 y hK hKb hB hl ⟨hp.1,by omega⟩ (by omega) (by omega) ⟨by omega,by omega⟩ (.inr rfl)
theorem q5r {x y:World} {J:Nat} {fp fp':Nat->Prop} {cs0:Array Value} (hJ:x.heap[J]?=some (.cells cs0 88 (0,0))) (hf:∀(k:Nat) (cs:Array Value) (t:TypeId) (fr:Nat × Nat),x.heap[k]?=some (.cells cs t fr)->¬Disk.Own4 t->¬fp k) (h:Fw (fun k=>k=J) x y fp fp') {k:Nat} {cs:Array Value} {t:TypeId} {fr:Nat × Nat} (hk:x.heap[k]?=some (.cells cs t fr)) (ht:¬Disk.Own4 t) (hj:t≠88):y.heap[k]?=x.heap[k]?:=
 h.block (gE hk) (hf k cs t fr hk ht) (fun e=>by
  have e2:k=J:=e
  rw [e2,hJ] at hk
  simp only [Option.some.injEq,Obj.cells.injEq] at hk
  exact hj hk.2.1.symm)
theorem q5l {x y:World} {J base n:Nat} {fp fp':Nat->Prop} {cs0:Array Value} {e:TypeId} {sz:Nat} {v:Value} {xs:List Value} (hJ:x.heap[J]?=some (.cells cs0 88 (0,0))) (hf:∀(k:Nat) (cs:Array Value) (t:TypeId) (fr:Nat × Nat),x.heap[k]?=some (.cells cs t fr)->¬Disk.Own4 t->¬fp k) (h:Fw (fun k=>k=J) x y fp fp') (ho:x.ownsRow base e sz v n xs) (ht:¬Disk.Own4 e) (hj:e≠88):y.ownsRow base e sz v n xs:=
 q0j ho (fun q hq=>by
  rcases ho.2 with ⟨rfl,_⟩ | ⟨g,cap,cur,rfl,_,hg,_⟩
  ·simp [Value.ownBlock] at hq
  ·simp only [Value.ownBlock,Option.some.injEq] at hq
   rw [<-hq]
   exact q5r hJ hf h hg ht hj)
theorem rv_typed {x y:World} {J:Nat} {fp fp':Nat->Prop} {cs0:Array Value} {v:Value} {r:Disk.Rd} (hJ:x.heap[J]?=some (.cells cs0 88 (0,0))) (hf:∀(k:Nat) (cs:Array Value) (t:TypeId) (fr:Nat × Nat),x.heap[k]?=some (.cells cs t fr)->¬Disk.Own4 t->¬fp k) (h:Fw (fun k=>k=J) x y fp fp') (hr:Disk.Rv x v r):Disk.Rv y v r:=by
 obtain ⟨vd,vw,vo,rfl,h1,h2,h3⟩:=hr
 exact ⟨vd,vw,vo,rfl,q5l hJ hf h h1 (by unfold Disk.Own4;decide) (by decide),q5l hJ hf h h2 (by unfold Disk.Own4;decide) (by decide),q5l hJ hf h h3 (by unfold Disk.Own4;decide) (by decide)⟩
theorem z7d {x y:World} {J B c:Nat} {fp fp':Nat->Prop} {cs0:Array Value} {a:Option Addr} {X:List Im} (hJ:x.heap[J]?=some (.cells cs0 88 (0,0))) (hf:∀(k:Nat) (cs:Array Value) (t:TypeId) (fr:Nat × Nat),x.heap[k]?=some (.cells cs t fr)->¬Disk.Own4 t->¬fp k) (h:Fw (fun k=>k=J) x y fp fp') (hi:OImgs x B (.slice a X.length c) X):OImgs y B (.slice a X.length c) X:=
 ⟨q5l hJ hf h hi.row (by unfold Disk.Own4;decide) (by decide),fun m hm=>⟨q5l hJ hf h (hi.byt m hm).own (by unfold Disk.Own4;decide) (by decide),(hi.byt m hm).byt,(hi.byt m hm).num⟩⟩
def A2 (y:World) (d:Disk.Dk) (k:Nat) (V2 J2:List Value):Prop:=∃r2,Disk.Rv y (.agg V2.toArray) r2/\Disk.J k d r2/\J2.length=70/\J2.toArray.all (·.oneCell')=true/\V2.length=6/\V2.toArray.all (·.oneCell')=true
def Nb (y:World) (b:Nat) (Z:Array Value) (t:TypeId):Prop:=y.heap[b]?=some (.cells Z t (0,0))
theorem Nb.below {y z:World} {b:Nat} {Z:Array Value} {t:TypeId} (h:Nb y b Z t) (hb:Below y.heap.size y z):Nb z b Z t:=(hb.block _ (gE h)).trans h
theorem q5n (y:World) (Z:Array Value) (t:TypeId):Nb (y.alloc (.cells Z t)) y.heap.size Z t/\Below y.heap.size y (y.alloc (.cells Z t)):=⟨q0g rfl,(Below.refl _ _).alloc (Nat.le_refl _) _⟩
structure ApF (j:Jt) (d:Disk.Dk) (n:Nat) (Y:Ast):Prop where
 up:Up Y.1
 dn:Y.1.n=d.n
 ops:Y.1.ops.length<=d.ops.length+n
 uw:Y.1.uw.length<=d.uw.length+n
 left:(0<=d.left/\d.left<=9223372036854775807)->(0<=Y.1.left/\Y.1.left<=9223372036854775807)
 nx:j.nx<=Y.2.1/\Y.2.1<=j.nx+(n:Int)
 okS:OkS Y.2.2.2
 st:Y.2.2.1=0->Y.2.2.2.start=j.st.start/\Y.2.2.2.count<=j.size
theorem ap_both (hSeal:SealOk) {kk:Nat} {d:Disk.Dk} {r:Disk.Rd} (hJ:Disk.J kk d r) (j:Jt) (ok:j.Ok) (hup:Up d) (hfit:j.first+j.size<=d.n) (P:List (Int × List Int)) (hP:P.length<=1000) (hall:∀x∈P,x.2.length=160/\Byt x.2/\N64 x.1) (hk:kk+P.length<900000) (hlim:j.nx+(P.length:Int)<=j.lim):
  ∃Y:Ast,appM j d P=Y/\ApF j d P.length Y/\∀(x:World) (v:Value) (a:Option Addr) (cap:Nat),Disk.Rv x v r->Tb x a 2 ic P->
   Calls Tryz.prog 12 #[v,.agg (rq j.key (j.first:Int) (j.size:Int) j.st j.nx j.lim).toArray,.slice a P.length cap] x fun e z=>∃v' r',e=.returned (.tuple #[v',.agg (rq j.key (j.first:Int) (j.size:Int) j.st Y.2.1 j.lim).toArray,.agg (sa Y.2.2.2),.int .i64 Y.2.2.1])/\Disk.Rv z v' r'/\Disk.J (kk+P.length) Y.1 r'/\Below x.heap.size x z:=by
 have jon:∀m,Disk.J (kk+m) d r:=fun m=>⟨hJ.n,hJ.pl,hJ.way,hJ.down,hJ.st,hJ.no,hJ.lo,hJ.ops,by have:=hJ.l1;omega,by have:=hJ.l2;omega⟩
 by_cases h0:P.length=0
 ·have hP0:P=[]:=List.eq_nil_of_length_eq_zero h0
  subst hP0
  refine ⟨(d,j.nx,1,zs),rfl,⟨hup,rfl,Nat.le_add_right _ _,Nat.le_add_right _ _,fun h=>h,⟨Int.le_refl _,by simp⟩,q1f,fun h=>by simp at h⟩,fun x v a cap hv hT=>?_⟩
  refine (z1u d r j ok x v hv a cap).mono ?_
  rintro e z ⟨rfl,hb⟩
  exact ⟨v,r,rfl,hv.below hb,jon _,hb⟩
 ·have hb:bad P=false:=by
   simp only [bad,Bool.or_eq_false_iff,List.isEmpty_eq_false_iff,List.any_eq_false,decide_eq_true_eq]
   exact ⟨fun e=>h0 (by rw [e];rfl),fun x hx hne=>hne (hall x hx).1⟩
  by_cases hf:j.size-j.st.count<P.length
  ·have e:appM j d P=(d,j.nx,17,zs):=by
    unfold appM
    have ht:tke j P.length=17:=by unfold tke;rw [if_pos hf]
    rw [if_neg (by rw [hb];simp),ht,if_pos (by decide)]
   refine ⟨(d,j.nx,17,zs),e,⟨hup,rfl,Nat.le_add_right _ _,Nat.le_add_right _ _,fun h=>h,⟨Int.le_refl _,by show j.nx<=_;omega⟩,q1f,fun h=>by simp at h⟩,fun x v a cap hv hT=>?_⟩
   refine (z1q d r j ok P (by omega) hP (fun x hx=>(hall x hx).1) hf x v hv a cap hT).mono ?_
   rintro e z ⟨rfl,hb⟩
   exact ⟨v,r,rfl,hv.below hb,jon _,hb⟩
  ·have h1:j.st.count+P.length<=j.size:=by have:=ok.cl;omega
   have hu:=appM_up j ok d P hup hb h1 hlim
   have e:appM j d P=apL j (d,j.nx,0,j.st) (ofP P):=by
    have ht:tke j P.length=0:=by unfold tke;rw [if_neg hf,if_neg (by omega)]
    have hl:=q9t j (ofP P) d j.nx j.st hup ⟨ok.st.lt,ok.st.bt⟩
    unfold appM
    rw [if_neg (by rw [hb];simp),ht,if_neg (by simp),if_neg (by rw [hl.er];simp)]
   have hr:=fun (x:World) (v:Value) (a:Option Addr) (cap:Nat) (hv:Disk.Rv x v r) (hT:Tb x a 2 ic P)=>z7g hSeal kk d r hJ j ok hup hfit P hk (by omega) hP hall h1 hlim x v hv a cap hT
   rw [<-e] at hr
   have hs64:=ok.sl
   have hhi:=ok.hi
   obtain ⟨W,w1,w2⟩:=hu.uw
   have hlp:∀q,(pls j q P.length).length=P.length:=fun q=>by simp [pls]
   refine ⟨_,rfl,⟨hu.up,hu.nn,?_,?_,fun h=>by rw [hu.left];exact h,by rw [hu.nx];omega,hu.okS (by omega) (by omega),fun _=>⟨hu.st,by rw [hu.ct];exact h1⟩⟩,fun x v a cap hv hT=>?_⟩
   ·have:=congrArg List.length hu.ops
    simp only [List.length_append,List.length_map,hlp] at this
    omega
   ·have q1:=congrArg List.length w1
    have q2:=congrArg List.length w2
    simp only [List.length_append,List.length_map,hlp] at q1 q2
    omega
   ·rw [hu.er]
    refine (hr x v a cap hv hT).mono ?_
    rintro e z ⟨v',r',rfl,q1,q2,q3⟩
    exact ⟨v',r',rfl,q1,q2,q3⟩
end Go.Proofs.YtjejnlebpcjidaaGreatDoor
