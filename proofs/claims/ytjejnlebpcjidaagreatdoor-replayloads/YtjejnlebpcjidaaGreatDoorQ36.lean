/-
 Rows of the reference's images: allOf of the law, Same and SameAll of the reference. And what follows it.
-/
import Derived.Test.YtjejnlebpcjidaaGreatDoorQ01
import Derived.Test.YtjejnlebpcjidaaGreatDoorQ29
import Derived.Test.YtjejnlebpcjidaaGreatDoorQ35
import Derived.Test.YtjejnlebpcjidaaGreatDoorQ27
import Derived.Test.YtjejnlebpcjidaaGreatDoorQ33
import Derived.Test.YtjejnlebpcjidaaGreatDoorQ34
import Derived.Test.YtjejnlebpcjidaaGreatDoorQ19
import Derived.Test.YtjejnlebpcjidaaGreatDoorQ30
import Derived.Test.YtjejnlebpcjidaaGreatDoorQ31
set_option linter.unusedVariables false
set_option maxRecDepth 100000
set_option maxRecDepth 100000
namespace Go.Proofs.YtjejnlebpcjidaaGreatDoor
open Go.RowKit Plain
attribute [local go_sem] Oper.semAt_some
set_option maxHeartbeats 1000000 in
theorem rsame_any (a b:Option Addr) (ca cb:Nat) (P:List (Int × List Int)) (w:World) (ha:Tb w a 2 ic P) (hb:Tb w b 2 ic P) (hl:P.length<=1000):
  Calls Tryz.prog 61 #[.slice a P.length ca,.slice b P.length cb] w fun e w'=>e=.returned (.bool true)/\Below w.heap.size w w':=by
 have HA:Box (∀x,Below w.heap.size w x->Tb x a 2 ic P/\Tb x b 2 ic P):=⟨fun x hx=>⟨ha.below hx,hb.below hx⟩⟩
 clear ha hb
 go_enter Tryz.func61,Tryz.ntmps61
 go_wp2
 go_loopw [5] (fun i wr=>∃k:Nat,k<=P.length/\i=.int .i64 (k:Int)/\Box (Below w.heap.size w wr)) (fun i _=>P.length-(intOf i).toNat)
 case atStart=>exact ⟨0,Nat.zero_le _,rfl,⟨Below.refl _ _⟩⟩
 case round=>
  obtain ⟨k,hk,rfl,HG⟩:=hrel
  by_cases hlt:k<P.length
  ·have hlt1:decide ((k:Int)<(P.length:Int))=true:=by simp;omega
   have hT:=HA.out wr HG.out
   obtain ⟨b1,o1,e1,hbl1,hr1⟩:=hT.1 (by omega)
   obtain ⟨b2,o2,e2,hbl2,hr2⟩:=hT.2 (by omega)
   subst e1
   subst e2
   have HML:Box (k<P.length):=⟨hlt⟩
   have h1:=hr1 k hlt
   have h2:=hr2 k hlt
   obtain ⟨⟨blk,L⟩,hmm⟩:∃m,P[k]=m:=⟨_,rfl⟩
   rw [hmm] at h1 h2
   obtain ⟨s,hs⟩:=nm (strOfNums L)
   have HR:Box (∀x,Below wr.heap.size wr x->x.rangeAt b1 (o1+k*2) [.int .u64 blk,.string s]/\x.rangeAt b2 (o2+k*2) [.int .u64 blk,.string s]):=⟨fun x hx=>⟨hs▸q2n hx h1 hbl1,hs▸q2n hx h2 hbl2⟩⟩
   have hw4:IntKind.i64.wrap ((k:Int)+1)=((k+1:Nat):Int):=by rw [IntKind.wrap_i64];omega
   clear hr1 hr2 h1 h2 hmm hs hT
   go_upto_region 6 with fail
   refine Seq.q1t (by kernel_rfl) (fun wd hd=>?_)
   have hbd:Below wr.heap.size wr wd:=hd.mono (Nat.le_refl _)
   refine Seq.take_ly (i:=0) rfl ?_
   try simp only [Act.put,pC,pD,pE,pF,pG]
   refine Seq.take_ly (i:=1) rfl ?_
   try simp only [Act.put,pC,pD,pE,pF,pG,pH]
   refine Seq.take_lx (i:=2) (v:=.pointer (some ⟨b1,o1+k*2,none⟩)) rfl (fun w' hLat=>q0p 53 105 Tryz.underlying53 2 infoI _ _ rfl b1 o1 P.length ca k rfl rfl HML.out) ?_
   try simp only [Act.put,pC,pD,pE,pF,pG,pH]
   refine Seq.take_lx (i:=3) (v:=.agg #[.int .u64 blk,.string s]) rfl (fun w' hLat=>q0k 105 _ _ rfl Tryz.underlying105 rfl b1 (o1+k*2) rfl [.int .u64 blk,.string s] infoI (HR.out w' (q0a hbd hLat)).1) ?_
   try simp only [Act.put,pC,pD,pE,pF,pG,pH]
   refine Seq.take_ly (i:=4) rfl ?_
   try simp only [Act.put,pC,pD,pE,pF,pG,pH]
   refine Seq.take_ly (i:=5) rfl ?_
   try simp only [Act.put,pC,pD,pE,pF,pG,pH]
   refine Seq.take_lx (i:=6) (v:=.pointer (some ⟨b2,o2+k*2,none⟩)) rfl (fun w' hLat=>q0p 53 105 Tryz.underlying53 2 infoI _ _ rfl b2 o2 P.length cb k rfl rfl HML.out) ?_
   try simp only [Act.put,pC,pD,pE,pF,pG,pH]
   refine Seq.take_lx (i:=7) (v:=.agg #[.int .u64 blk,.string s]) rfl (fun w' hLat=>q0k 105 _ _ rfl Tryz.underlying105 rfl b2 (o2+k*2) rfl [.int .u64 blk,.string s] infoI (HR.out w' (q0a hbd hLat)).2) ?_
   try simp only [Act.put,pC,pD,pE,pF,pG,pH]
   refine Seq.take_lx (i:=8) (v:=.bool false) rfl (fun w' hLat=>exec_neI _ _ _ rfl blk s rfl rfl) ?_
   try simp only [Act.put,pC,pD,pE,pF,pG,pH]
   refine wpAnyH_done (by kernel_rfl) ?_ _
   have HD:Box (Below w.heap.size w wd):=⟨q0a HG.out hbd⟩
   clear hd hbd
   go_wp2
   go_roundw
   case rel=>exact ⟨k+1,HML.out,by go_num,HD⟩
   case measure=>simp [intOf];have:=HML.out;omega
  ·obtain rfl:k=P.length:=by omega
   have hlt1:decide ((P.length:Int)<(P.length:Int))=false:=by simp
   go_wp2
   go_ret
   exact ⟨rfl,HG.out⟩
structure Wx where
 a:Option Addr
 l:Nat
 c:Nat
 P:List (Int × List Int)
def wsl (x:Wx):List Value:=[.slice x.a x.l x.c]
theorem q5c {w w':World} {B B' n n':Nat} {e e':TypeId} {sz sz':Nat} {v v':Value} {xs xs':List Value} (h:w.ownsRow B e sz v n xs) (hv:w.ownsRow B' e' sz' v' n' xs') (he:e'≠e) (hg:w.grownBy w' v'.ownBlock):w'.ownsRow B e sz v n xs:=
 q0j h (fun k hk=>hg.block k (h.lt k hk).2 (fun e2=>own_ne hv h he k e2.symm hk))
theorem infSlI:(Tryz.prog.info? 53).map (fun i=>(i.zero,i.size,i.bytes))=some (some (.slice none 0 0),1,24):=by kernel_rfl
theorem infoSlIz:(Tryz.prog.info? 53).map (·.size)=some 1:=by kernel_rfl
theorem infoSlz2:(Tryz.prog.info? 47).map (·.size)=some 1:=by kernel_rfl
structure Wnt (w:World) (B:Nat) (u:Value) (Wn:List Wx):Prop where
 row:w.ownsRow B 53 1 u Wn.length (Wn.map wsl).flatten
 im:∀x∈Wn,x.P.length=x.l/\w.ownsRow B 105 2 (.slice x.a x.l x.c) x.l (x.P.map ic).flatten
theorem Wnt.to {w w':World} {B:Nat} {u:Value} {Wn:List Wx} (h:Wnt w B u Wn) (hb:Below w.heap.size w w'):Wnt w' B u Wn:=⟨q2v h.row hb,fun x hx=>⟨(h.im x hx).1,q2v (h.im x hx).2 hb⟩⟩
theorem z0o (w:World) (B:Nat):Wnt w B (.slice none 0 0) []:=⟨World.ownsRow_nil _ _ _ _,fun x hx=>by simp at hx⟩
theorem Wnt.app {w w':World} {B:Nat} {u u':Value} {Wn:List Wx} (h:Wnt w B u Wn) (a:Option Addr) (l c:Nat) (P:List (Int × List Int)) (hl:P.length=l) (hm:w.ownsRow B 105 2 (.slice a l c) l (P.map ic).flatten) (ho:w'.ownsRow B 53 1 u' (Wn.length+1) ((Wn.map wsl).flatten++[.slice a l c])) (hg:w.grownBy w' u.ownBlock):Wnt w' B u' (Wn++[⟨a,l,c,P⟩]):=by
 refine ⟨?_,fun x hx=>?_⟩
 ·rw [List.length_append,List.map_append,List.flatten_append]
  simpa [wsl] using ho
 ·rcases List.mem_append.1 hx with hx | hx
  ·exact ⟨(h.im x hx).1,q5c (h.im x hx).2 h.row (by decide) hg⟩
  ·simp only [List.mem_cons,List.not_mem_nil,or_false] at hx
   subst hx
   exact ⟨hl,q5c hm h.row (by decide) hg⟩
def plC (C:List Sx):List (List (Int × List Int)):=C.map fun c=>c.M.map pl
structure AoK (w wr:World) (C:List Sx) (k:Nat) (u:Value) (Wn:List Wx):Prop where
 wn:Wnt wr w.heap.size u Wn
 eq:Wn.map (·.P)=(plC C).take k
 bel:Below w.heap.size w wr
theorem AoK.step {w wr x w':World} {C:List Sx} {k:Nat} {u u':Value} {Wn:List Wx} (h:AoK w wr C k u Wn) (hk:k<C.length) (hb:Below wr.heap.size wr x) (a:Option Addr) (l c:Nat) (hl:C[k].M.length=l) (hm:x.ownsRow wr.heap.size 105 2 (.slice a l c) l ((C[k].M.map pl).map ic).flatten) (ho:w'.ownsRow w.heap.size 53 1 u' (Wn.length+1) ((Wn.map wsl).flatten++[.slice a l c])) (hg:x.grownBy w' u.ownBlock):AoK w w' C (k+1) u' (Wn++[⟨a,l,c,C[k].M.map pl⟩]):=by
 have h2:=h.wn.to hb
 have hk2:k<(plC C).length:=by simpa [plC] using hk
 refine ⟨h2.app a l c _ (by simpa using hl) (q2u hm h.bel.size) ho hg,?_,(q0a h.bel hb).grown hg (q0a h.bel hb).size (fun j hj=>(q1j h2.row j hj).1)⟩
 rw [List.map_append,h.eq,List.take_succ_eq_append_getElem hk2]
 simp [plC]
theorem AoK.len {w wr:World} {C:List Sx} {k:Nat} {u:Value} {Wn:List Wx} (h:AoK w wr C k u Wn) (hk:k<=C.length):Wn.length=k:=by
 have:=congrArg List.length h.eq
 simp [plC] at this
 omega
set_option maxHeartbeats 2000000 in
theorem allOf_any (a:Option Addr) (cap:Nat) (C:List Sx) (w:World) (h:Igss w a C) (hl:C.length<=1000) (hc:∀c∈C,c.l<=1000):
  Calls Tryz.prog 28 #[.slice a C.length cap] w fun e w'=>∃v Wn,e=.returned v/\AoK w w' C C.length v Wn:=by
 obtain ⟨n,hn⟩:=nm C.length
 have HI:Box (∀wr,Below w.heap.size w wr->Igss wr a C):=⟨fun wr hb=>h.below hb⟩
 have HN:Box (C.length=n/\n<=1000/\∀c∈C,c.l<=1000):=⟨hn,by omega,hc⟩
 rw [hn]
 clear h hl hc hn
 go_enter Tryz.func28,Tryz.ntmps28
 go_wp2
 go_loopw [3,4] (fun v i wr=>∃(k:Nat) (Wn:List Wx),k<=n/\i=.int .i64 (k:Int)/\Box (AoK w wr C k v Wn)) (fun _ i _=>n-(intOf i).toNat)
 case atStart=>exact ⟨0,[],Nat.zero_le _,rfl,⟨⟨z0o _ _,rfl,Below.refl _ _⟩⟩⟩
 case round=>
  obtain ⟨k,Wn,hk,rfl,HG⟩:=hrel
  by_cases hlt:k<n
  ·have hlt1:decide ((k:Int)<(n:Int))=true:=by simp;omega
   have hkC:k<C.length:=by rw [HN.out.1];exact hlt
   have HK:Box (k<n):=⟨hlt⟩
   have HIo:=HI.out wr HG.out.bel
   obtain ⟨b,o,hae,hbl,hr⟩:=HIo.tb (by omega)
   subst hae
   have hrk:=hr k hkC
   obtain ⟨hcl,hcI,hcm⟩:=HIo.im C[k] (List.getElem_mem hkC)
   have hc10:=HN.out.2.2 C[k] (List.getElem_mem hkC)
   have HST:Box (∀(x w':World) (a':Option Addr) (c':Nat) (u':Value),Below wr.heap.size wr x->x.ownsRow wr.heap.size 105 2 (.slice a' C[k].l c') C[k].l ((C[k].M.map pl).map ic).flatten->w'.ownsRow w.heap.size 53 1 u' (Wn.length+1) ((Wn.map wsl).flatten++[.slice a' C[k].l c'])->x.grownBy w' u3.ownBlock->∃Wn',AoK w w' C (k+1) u' Wn'):=⟨fun x w' a' c' u' h1 h2 h3 h4=>⟨_,HG.out.step hkC h1 a' _ c' hcl h2 h3 h4⟩⟩
   have HMO:Box (Calls Tryz.prog 13 #[.slice C[k].a C[k].l C[k].c] wr fun e w'=>∃a' c',e=.returned (.slice a' C[k].l c')/\w'.ownsRow wr.heap.size 105 2 (.slice a' C[k].l c') C[k].l ((C[k].M.map pl).map ic).flatten/\Below wr.heap.size wr w'):=⟨by
    have:=q8p C[k].a C[k].c C[k].M wr hcI (by omega)
    rw [hcl] at this
    refine this.mono ?_
    rintro e w' ⟨v,rfl,hm⟩
    have hrow:=hm.row
    rw [List.take_of_length_le (by simp;omega)] at hrow
    obtain ⟨a',c',rfl⟩:=q0l hrow
    exact ⟨a',c',rfl,hrow,hm.bel⟩⟩
   have HOW:Box (∀x,Below wr.heap.size wr x->x.ownsRow w.heap.size 53 1 u3 Wn.length (Wn.map wsl).flatten/\w.heap.size<=x.heap.size):=⟨fun x hx=>⟨q2v HG.out.wn.row hx,Nat.le_trans HG.out.bel.size hx.size⟩⟩
   have HWL:Box (Wn.length<=1000000):=⟨by have:=HG.out.len (by rw [HN.out.1];exact hk);have:=HN.out.2.1;omega⟩
   obtain ⟨⟨ca,cl,cc,CM⟩,hx⟩:∃c,C[k]=c:=⟨_,rfl⟩
   rw [hx] at hrk HST HMO
   dsimp only at HST HMO
   have c0:wr.cell? ⟨b,o+k,none⟩=some (.slice ca cl cc):=by have:=hrk 0 _ rfl;rwa [Nat.mul_one,Nat.add_zero] at this
   have hw4:IntKind.i64.wrap ((k:Int)+1)=((k+1:Nat):Int):=by have:=HN.out.2.1;rw [IntKind.wrap_i64];omega
   clear hx hrk hcl hcI hcm hc10 HIo hr hbl
   go_wp2_with (first
    | (refine atIdx 24 ?_;refine q0b rfl _ _ (q0p 24 47 Tryz.underlying24 1 infoSlz2 _ _ rfl b o n cap k rfl rfl HK.out) ?_;(try rw [Nat.mul_one]))
    | (go_at_call 13;refine HMO.out.mono ?_;rintro e x1 ⟨a1,c1,rfl,q1,q2⟩;have H1:Box (x1.ownsRow wr.heap.size 105 2 (.slice a1 cl c1) cl ((CM.map pl).map ic).flatten/\Below wr.heap.size wr x1):=⟨q1,q2⟩;have HO1:Box _:=⟨HOW.out x1 q2⟩;clear q1 q2)
    | (at_builtin;refine q1s 68 53 Tryz.underlying68 1 24 _ infSlI rfl (by decide) rfl (.tmp 11) (.tmp 17) rfl w.heap.size Wn.length u3 (Wn.map wsl).flatten [.slice a1 cl c1] x1 rfl rfl rfl HO1.out.1 rfl (by simp [Value.oneCell']) HWL.out (by decide) (by decide) HO1.out.2 ?_;intro v2 x2 q1 q2;have H2:Box (∃Wn',AoK w x2 C (k+1) v2 Wn'):=⟨HST.out x1 x2 a1 c1 v2 H1.out.2 H1.out.1 q1 q2⟩;clear q1 q2))
   go_roundw
   case rel=>
    obtain ⟨Wn',h⟩:=H2.out
    exact ⟨k+1,Wn',by omega,by go_num,⟨h⟩⟩
   case measure=>simp [intOf];omega
  ·have hlt1:decide ((k:Int)<(n:Int))=false:=by simp;omega
   obtain rfl:k=n:=by omega
   go_wp2
   go_ret
   exact ⟨_,Wn,rfl,HG.out⟩
structure Rws (w:World) (a:Option Addr) (A:List Wx):Prop where
 tb:Tb w a 1 wsl A
 im:∀x∈A,x.P.length=x.l/\Tb w x.a 2 ic x.P
theorem Rws.below {w w':World} {a:Option Addr} {A:List Wx} (h:Rws w a A) (hb:Below w.heap.size w w'):Rws w' a A:=⟨h.tb.below hb,fun x hx=>⟨(h.im x hx).1,(h.im x hx).2.below hb⟩⟩
theorem Wnt.rws {w:World} {B c:Nat} {a:Option Addr} {A:List Wx} (h:Wnt w B (.slice a A.length c) A):Rws w a A:=
 ⟨q6f (fun _=>rfl) h.row rfl,fun x hx=>⟨(h.im x hx).1,q6f (fun _=>rfl) (h.im x hx).2 (h.im x hx).1⟩⟩
set_option maxHeartbeats 2000000 in
theorem z3q (a b:Option Addr) (ca cb n:Nat) (A B:List Wx) (w:World) (ha:Rws w a A) (hb:Rws w b B) (hA:A.length=n) (hB:B.length=n) (he:A.map (·.P)=B.map (·.P)) (hl:n<=1000) (hp:∀x∈A,x.l<=1000):
  Calls Tryz.prog 27 #[.slice a n ca,.slice b n cb] w fun e w'=>e=.returned (.bool true)/\Below w.heap.size w w':=by
 have HR0:Box (∀x,Below w.heap.size w x->Rws x a A/\Rws x b B):=⟨fun x hx=>⟨ha.below hx,hb.below hx⟩⟩
 have HN:Box (A.length=n/\B.length=n/\(∀i (h1:i<A.length) (h2:i<B.length),A[i].P=B[i].P)/\∀x∈A,x.l<=1000):=⟨hA,hB,fun i h1 h2=>by
  have:=congrArg (fun L=>L[i]?) he
  simpa [h1,h2] using this,hp⟩
 clear ha hb hA hB he hp
 go_enter Tryz.func27,Tryz.ntmps27
 go_wp2
 go_loopw [5] (fun i wr=>∃k:Nat,k<=n/\i=.int .i64 (k:Int)/\Box (Below w.heap.size w wr)) (fun i _=>n-(intOf i).toNat)
 case atStart=>exact ⟨0,Nat.zero_le _,rfl,⟨Below.refl _ _⟩⟩
 case round=>
  obtain ⟨k,hk,rfl,HG⟩:=hrel
  by_cases hlt:k<n
  ·have hlt1:decide ((k:Int)<(n:Int))=true:=by simp;omega
   have hkA:k<A.length:=by rw [HN.out.1];exact hlt
   have hkB:k<B.length:=by rw [HN.out.2.1];exact hlt
   obtain ⟨hTa,hTb⟩:=HR0.out wr HG.out
   obtain ⟨b1,o1,e1,hbl1,hr1⟩:=hTa.tb (by omega)
   obtain ⟨b2,o2,e2,hbl2,hr2⟩:=hTb.tb (by omega)
   subst e1
   subst e2
   have HML:Box (k<n):=⟨hlt⟩
   have h1:=hr1 k hkA
   have h2:=hr2 k hkB
   have i1:=hTa.im A[k] (List.getElem_mem hkA)
   have i2:=hTb.im B[k] (List.getElem_mem hkB)
   have hpe:=HN.out.2.2.1 k hkA hkB
   have hl10:=HN.out.2.2.2 A[k] (List.getElem_mem hkA)
   obtain ⟨⟨xa,l,xc,XP⟩,hx⟩:∃x,A[k]=x:=⟨_,rfl⟩
   obtain ⟨⟨ya,l2,yc,YP⟩,hy⟩:∃x,B[k]=x:=⟨_,rfl⟩
   rw [hx] at h1 i1 hpe hl10
   rw [hy] at h2 i2 hpe
   dsimp only at i1 i2 hpe hl10
   subst hpe
   obtain rfl:l=l2:=by rw [<-i1.1,<-i2.1]
   have HR:Box (∀x,Below wr.heap.size wr x->x.cell? ⟨b1,o1+k*1,none⟩=some (.slice xa l xc)/\x.cell? ⟨b2,o2+k*1,none⟩=some (.slice ya l yc)):=⟨fun x hx=>⟨(hx.cell hbl1).trans (h1 0 _ rfl),(hx.cell hbl2).trans (h2 0 _ rfl)⟩⟩
   have HSM:Box (∀x,Below wr.heap.size wr x->Calls Tryz.prog 61 #[.slice xa l xc,.slice ya l yc] x fun e w'=>e=.returned (.bool true)/\Below x.heap.size x w'):=⟨fun x hx=>by
    have:=rsame_any xa ya xc yc XP x (i1.2.below hx) (i2.2.below hx) (by omega)
    rw [i1.1] at this
    exact this⟩
   have hw4:IntKind.i64.wrap ((k:Int)+1)=((k+1:Nat):Int):=by rw [IntKind.wrap_i64];omega
   clear hr1 hr2 h1 h2 hx hy hTa hTb i1 i2 hl10
   go_upto_region 6 with fail
   refine Seq.q1t (by kernel_rfl) (fun wd hd=>?_)
   have hbd:Below wr.heap.size wr wd:=hd.mono (Nat.le_refl _)
   refine Seq.take_ly (i:=0) rfl ?_
   try simp only [Act.put,pC,pD,pE,pF,pG]
   refine Seq.take_ly (i:=1) rfl ?_
   try simp only [Act.put,pC,pD,pE,pF,pG,pH]
   refine Seq.take_lx (i:=2) (v:=.pointer (some ⟨b1,o1+k*1,none⟩)) rfl (fun w' hLat=>q0p 68 53 Tryz.underlying68 1 infoSlIz _ _ rfl b1 o1 n ca k rfl rfl HML.out) ?_
   try simp only [Act.put,pC,pD,pE,pF,pG,pH]
   refine Seq.take_lx (i:=3) (v:=.slice xa l xc) rfl (fun w' hLat=>q0w 53 _ _ rfl Tryz.underlying53 rfl ⟨b1,o1+k*1,none⟩ rfl _ ((HR.out w' (q0a hbd hLat)).1)) ?_
   try simp only [Act.put,pC,pD,pE,pF,pG,pH]
   refine Seq.take_ly (i:=4) rfl ?_
   try simp only [Act.put,pC,pD,pE,pF,pG,pH]
   refine Seq.take_ly (i:=5) rfl ?_
   try simp only [Act.put,pC,pD,pE,pF,pG,pH]
   refine Seq.take_lx (i:=6) (v:=.pointer (some ⟨b2,o2+k*1,none⟩)) rfl (fun w' hLat=>q0p 68 53 Tryz.underlying68 1 infoSlIz _ _ rfl b2 o2 n cb k rfl rfl HML.out) ?_
   try simp only [Act.put,pC,pD,pE,pF,pG,pH]
   refine Seq.take_lx (i:=7) (v:=.slice ya l yc) rfl (fun w' hLat=>q0w 53 _ _ rfl Tryz.underlying53 rfl ⟨b2,o2+k*1,none⟩ rfl _ ((HR.out w' (q0a hbd hLat)).2)) ?_
   try simp only [Act.put,pC,pD,pE,pF,pG,pH]
   refine Seq.q1k (i:=8) rfl (by kernel_rfl) (fun KK hK=>?_)
   rw [if_pos (by rfl)]
   go_simp
   refine Calls.mono (HSM.out wd hbd) ?_
   rintro e w2 ⟨rfl,hb2⟩
   have H2:Box (Below w.heap.size w w2):=⟨q0a HG.out (q0a hbd hb2)⟩
   refine hK.out _ _ hb2 ?_
   clear hb2
   clear hK KK
   try simp only [Act.put,pC,pD,pE,pF,pG,pH]
   refine Seq.take_ly (i:=9) rfl ?_
   try simp only [Act.put,pC,pD,pE,pF,pG,pH]
   refine wpAnyH_done (by kernel_rfl) ?_ _
   go_wp2
   go_roundw
   case rel=>exact ⟨k+1,by omega,by go_num,H2⟩
   case measure=>simp [intOf];omega
  ·have hlt1:decide ((k:Int)<(n:Int))=false:=by simp;omega
   obtain rfl:k=n:=by omega
   go_wp2
   go_ret
   exact ⟨rfl,HG.out⟩
end Go.Proofs.YtjejnlebpcjidaaGreatDoor
namespace Go.Proofs.YtjejnlebpcjidaaGreatDoor
open Go.RowKit Plain
theorem infSlJ:(Tryz.prog.info? 53).map (fun i=>(i.zero,i.size,i.bytes))=some (some (.slice none 0 0),1,24):=by kernel_rfl
structure RcK (w wr:World) (L:List ((Int × List Int) × Bool)) (k:Nat) (v nv:Value) (Wn:List Wx) (nw:List (Int × List Int)):Prop where
 out:wr.ownsRow w.heap.size 53 1 v Wn.length (Wn.map wsl).flatten
 wim:∀x∈Wn,x.P.length=x.l/\wr.ownsRow w.heap.size 105 2 (.slice x.a x.l x.c) x.l (x.P.map ic).flatten
 now:wr.ownsRow w.heap.size 105 2 nv nw.length (nw.map ic).flatten
 ap:∀x∈Wn,∀k,(Value.slice x.a x.l x.c).ownBlock=some k->nv.ownBlock≠some k
 c1:Wn.map (·.P)=(chS (L.take k)).1
 c2:nw=(chS (L.take k)).2
 bel:Below w.heap.size w wr
structure RcH (w wr:World) (L:List ((Int × List Int) × Bool)) (k:Nat) (v nv:Value) (Wn:List Wx) (nw:List (Int × List Int)) (x:Int × List Int):Prop where
 out:wr.ownsRow w.heap.size 53 1 v Wn.length (Wn.map wsl).flatten
 wim:∀x∈Wn,x.P.length=x.l/\wr.ownsRow w.heap.size 105 2 (.slice x.a x.l x.c) x.l (x.P.map ic).flatten
 now:wr.ownsRow w.heap.size 105 2 nv (nw.length+1) ((nw++[x]).map ic).flatten
 ap:∀x∈Wn,∀k,(Value.slice x.a x.l x.c).ownBlock=some k->nv.ownBlock≠some k
 c1:Wn.map (·.P)=(chS (L.take k)).1
 c2:nw=(chS (L.take k)).2
 bel:Below w.heap.size w wr
theorem RcK.more {w wr w':World} {L:List ((Int × List Int) × Bool)} {k:Nat} {v nv nv':Value} {Wn:List Wx} {nw:List (Int × List Int)} (h:RcK w wr L k v nv Wn nw) (x:Int × List Int) (ho:w'.ownsRow w.heap.size 105 2 nv' (nw.length+1) ((nw.map ic).flatten++ic x)) (hg:wr.grownBy w' nv.ownBlock) (hb:∀k,nv'.ownBlock=some k->nv.ownBlock=some k∨wr.heap.size<=k):RcH w w' L k v nv' Wn nw x:=by
 refine ⟨q5c h.out h.now (by decide) hg,fun y hy=>⟨(h.wim y hy).1,q0j (h.wim y hy).2 (fun j hj=>hg.block j ((h.wim y hy).2.lt j hj).2 (fun e=>h.ap y hy j hj e.symm))⟩,?_,fun y hy j hj e=>?_,h.c1,h.c2,h.bel.grown hg h.bel.size (fun j hj=>(q1j h.now j hj).1)⟩
 ·simp only [List.map_append,List.map_cons,List.map_nil,List.flatten_append,List.flatten_cons,List.flatten_nil,List.append_nil]
  exact ho
 ·rcases hb j e with h1 | h1
  ·exact h.ap y hy j hj h1
  ·have:=((h.wim y hy).2.lt j hj).2
   omega
theorem RcH.go {w wr:World} {L:List ((Int × List Int) × Bool)} {k:Nat} {v nv:Value} {Wn:List Wx} {nw:List (Int × List Int)} {x:Int × List Int} (h:RcH w wr L k v nv Wn nw x) (hk:k<L.length) (hx:L[k]=(x,false)):RcK w wr L (k+1) v nv Wn (nw++[x]):=by
 have hch:=q8h L k hk
 rw [hx] at hch
 refine ⟨h.out,h.wim,by rw [List.length_append];exact h.now,h.ap,?_,?_,h.bel⟩
 ·rw [hch,h.c1];simp [chSt]
 ·rw [hch,h.c2];simp [chSt]
theorem RcH.ends {w wr w':World} {L:List ((Int × List Int) × Bool)} {k:Nat} {v v':Value} {a:Option Addr} {c:Nat} {Wn:List Wx} {nw:List (Int × List Int)} {x:Int × List Int} (h:RcH w wr L k v (.slice a (nw.length+1) c) Wn nw x) (hk:k<L.length) (hx:L[k]=(x,true)) (ho:w'.ownsRow w.heap.size 53 1 v' (Wn.length+1) ((Wn.map wsl).flatten++[.slice a (nw.length+1) c])) (hg:wr.grownBy w' v.ownBlock):RcK w w' L (k+1) v' (.slice none 0 0) (Wn++[⟨a,nw.length+1,c,nw++[x]⟩]) []:=by
 have hch:=q8h L k hk
 rw [hx] at hch
 refine ⟨?_,fun y hy=>?_,World.ownsRow_nil _ _ _ _,fun y hy j hj e=>by simp [Value.ownBlock] at e,?_,?_,h.bel.grown hg h.bel.size (fun j hj=>(q1j h.out j hj).1)⟩
 ·rw [List.length_append,List.map_append,List.flatten_append]
  simpa [wsl] using ho
 ·rcases List.mem_append.1 hy with hy | hy
  ·exact ⟨(h.wim y hy).1,q5c (h.wim y hy).2 h.out (by decide) hg⟩
  ·simp only [List.mem_cons,List.not_mem_nil,or_false] at hy
   subst hy
   exact ⟨by simp,q5c h.now h.out (by decide) hg⟩
 ·rw [hch,List.map_append,h.c1,h.c2];simp [chSt]
 ·rw [hch];simp [chSt]
set_option maxRecDepth 20000 in
set_option maxHeartbeats 2000000 in
theorem rch_any (a:Option Addr) (cap:Nat) (L:List ((Int × List Int) × Bool)) (w:World) (h:Tb w a 3 rrc L) (hl:L.length<=1000):
  Calls Tryz.prog 60 #[.slice a L.length cap] w fun e w'=>Below w.heap.size w w'/\(((chS L).2≠[]/\e=.returned (.tuple #[.slice none 0 0,.int .i64 11]))∨((chS L).2=[]/\∃(v:Value) (Wn:List Wx),e=.returned (.tuple #[v,.int .i64 0])/\w'.ownsRow w.heap.size 53 1 v Wn.length (Wn.map wsl).flatten/\(∀x∈Wn,x.P.length=x.l/\w'.ownsRow w.heap.size 105 2 (.slice x.a x.l x.c) x.l (x.P.map ic).flatten)/\Wn.map (·.P)=(chS L).1)):=by
 obtain ⟨n,hn⟩:=nm L.length
 rw [hn] at hl ⊢
 have HN:Box (L.length=n):=⟨hn⟩
 have HR:Box (∀x,Below w.heap.size w x->Tb x a 3 rrc L):=⟨fun x hx=>h.below hx⟩
 clear h hn
 go_enter Tryz.func60,Tryz.ntmps60
 go_wp2
 go_loopw [4,5,6] (fun v nv i wr=>∃(k:Nat) (Wn:List Wx) (nw:List (Int × List Int)),k<=n/\i=.int .i64 (k:Int)/\Box (RcK w wr L k v nv Wn nw/\Wn.length<=k/\nw.length<=k)) (fun _ _ i _=>n-(intOf i).toNat)
 case atStart=>exact ⟨0,[],[],Nat.zero_le _,rfl,⟨⟨World.ownsRow_nil _ _ _ _,fun x hx=>by simp at hx,World.ownsRow_nil _ _ _ _,fun x hx=>by simp at hx,by simp [chS],by simp [chS],Below.refl _ _⟩,by simp,by simp⟩⟩
 case round=>
  obtain ⟨k,Wn,nw,hk,rfl,HK⟩:=hrel
  by_cases hlt:k<n
  ·have hlt1:decide ((k:Int)<(n:Int))=true:=by simp;omega
   have hkL:k<L.length:=by have:=HN.out;omega
   obtain ⟨b,o,hae,hbl,hr⟩:=HR.out w (Below.refl _ _) (by omega)
   subst hae
   have hrk:=hr k hkL
   obtain ⟨⟨⟨blk,bs⟩,lst⟩,hLk⟩:∃x,L[k]=x:=⟨_,rfl⟩
   rw [hLk] at hrk
   obtain ⟨s,hs⟩:=nm (strOfNums bs)
   have HRg:Box (∀x,Below w.heap.size w x->x.rangeAt b (o+k*3) [.int .u64 blk,.string s]/\x.cell? ⟨b,o+k*3+2,none⟩=some (.bool lst)):=⟨fun x hx=>by
    have hx2:=q2n hx hrk hbl
    refine ⟨fun j u hu=>?_,hx2 2 _ rfl⟩
    rw [<-hs] at hu
    match j,hu with
    | 0,hu=>exact hx2 0 u hu
    | 1,hu=>exact hx2 1 u hu
    | j+2,hu=>simp at hu⟩
   have HMO:Box (∀w' nv',w'.ownsRow w.heap.size 105 2 nv' (nw.length+1) ((nw.map ic).flatten++[.int .u64 blk,.string s])->wr.grownBy w' u5.ownBlock->(∀k,nv'.ownBlock=some k->u5.ownBlock=some k∨wr.heap.size<=k)->RcH w w' L k u4 nv' Wn nw (blk,bs)):=⟨fun w' nv' h1 h2 h3=>HK.out.1.more (blk,bs) (by rw [<-hs] at h1;exact h1) h2 h3⟩
   have HGO:Box (∀w' nv',RcH w w' L k u4 nv' Wn nw (blk,bs)->lst=false->RcK w w' L (k+1) u4 nv' Wn (nw++[(blk,bs)])):=⟨fun w' nv' h1 h2=>h1.go hkL (by rw [hLk,h2])⟩
   have HEN:Box (∀wy w' a' c' v',RcH w wy L k u4 (.slice a' (nw.length+1) c') Wn nw (blk,bs)->lst=true->w'.ownsRow w.heap.size 53 1 v' (Wn.length+1) ((Wn.map wsl).flatten++[.slice a' (nw.length+1) c'])->wy.grownBy w' u4.ownBlock->RcK w w' L (k+1) v' (.slice none 0 0) (Wn++[⟨a',nw.length+1,c',nw++[(blk,bs)]⟩]) []):=⟨fun wy w' a' c' v' h1 h2 h3 h4=>h1.ends hkL (by rw [hLk,h2]) h3 h4⟩
   have HR1:Box (wr.rangeAt b (o+k*3) [.int .u64 blk,.string s]):=⟨(HRg.out wr HK.out.1.bel).1⟩
   have HLT:Box (k<n):=⟨hlt⟩
   have HOW:Box (wr.ownsRow w.heap.size 105 2 u5 nw.length (nw.map ic).flatten/\w.heap.size<=wr.heap.size/\nw.length<=1000000/\Wn.length<=1000000/\Wn.length<=k/\nw.length<=k):=⟨HK.out.1.now,HK.out.1.bel.size,by have:=HK.out.2.2;omega,by have:=HK.out.2.1;omega,HK.out.2⟩
   have hw4:IntKind.i64.wrap ((k:Int)+1)=((k+1:Nat):Int):=by rw [IntKind.wrap_i64];omega
   clear hr hrk hLk hs hkL
   go_upto_region 7 with (first
    | (refine atIdx 99 ?_;refine q0b rfl _ _ (q0p 99 107 Tryz.underlying99 3 infoRr _ _ rfl b o n cap k rfl rfl HLT.out) ?_)
    | (refine atLoad 105 ?_;refine q0c rfl 105 _ _ rfl Tryz.underlying105 rfl b (o+k*3) rfl [.int .u64 blk,.string s] infoI HR1.out ?_)
    | (at_builtin;refine q9h 53 105 Tryz.underlying53 2 24 _ infI rfl (by decide) rfl (.tmp 13) (.tmp 19) rfl w.heap.size nw.length u5 (nw.map ic).flatten [.int .u64 blk,.string s] wr rfl rfl rfl HOW.out.1 rfl (by simp [Value.oneCell']) HOW.out.2.2.1 (by decide) HOW.out.2.1 ?_;intro nv3 x3 hown hgr hblk;have H3:Box (RcH w x3 L k u4 nv3 Wn nw (blk,bs)):=⟨HMO.out x3 nv3 hown hgr hblk⟩;clear hown hgr hblk))
   have hc2:=(HRg.out x3 H3.out.bel).2
   obtain ⟨na,nc,rfl⟩:=q0l H3.out.now
   cases lst
   ·have HK2:Box _:=⟨HGO.out x3 _ H3.out rfl⟩
    go_wp2_with (refine atIdx 99 ?_;refine q0b rfl _ _ (q0p 99 107 Tryz.underlying99 3 infoRr _ _ rfl b o n cap k rfl rfl HLT.out) ?_)
    go_roundw
    case rel=>exact ⟨k+1,Wn,nw++[(blk,bs)],HLT.out,by go_num,⟨HK2.out,by have:=HOW.out.2.2.2.2.1;omega,by have:=HOW.out.2.2.2.2.2;simp;omega⟩⟩
    case measure=>simp [intOf];have:=HLT.out;omega
   ·have HO3:Box (x3.ownsRow w.heap.size 53 1 u4 Wn.length (Wn.map wsl).flatten/\w.heap.size<=x3.heap.size):=⟨H3.out.out,H3.out.bel.size⟩
    obtain ⟨nl,hnl⟩:=nm (nw.length+1)
    rw [hnl] at H3 HEN ⊢
    go_wp2_with (first
     | (refine atIdx 99 ?_;refine q0b rfl _ _ (q0p 99 107 Tryz.underlying99 3 infoRr _ _ rfl b o n cap k rfl rfl HLT.out) ?_)
     | (at_builtin;refine q1s 68 53 Tryz.underlying68 1 24 _ infSlJ rfl (by decide) rfl (.tmp 26) (.tmp 28) rfl w.heap.size Wn.length u4 (Wn.map wsl).flatten [.slice na nl nc] x3 rfl rfl rfl HO3.out.1 rfl (by simp [Value.oneCell']) HOW.out.2.2.2.1 (by decide) (by decide) HO3.out.2 ?_;intro v5 x5 hown hgr;have H5:Box (RcK w x5 L (k+1) v5 (.slice none 0 0) (Wn++[⟨na,nl,nc,nw++[(blk,bs)]⟩]) []):=⟨HEN.out x3 x5 na nc v5 H3.out rfl hown hgr⟩;clear hown hgr))
    go_roundw
    case rel=>exact ⟨k+1,_,[],HLT.out,by go_num,⟨H5.out,by have:=HOW.out.2.2.2.2.1;simp;omega,by simp⟩⟩
    case measure=>simp [intOf];have:=HLT.out;omega
  ·obtain rfl:k=n:=by omega
   have hlt1:decide ((k:Int)<(k:Int))=false:=by simp
   have HT:Box (L.take k=L):=⟨List.take_of_length_le (by rw [HN.out];exact Nat.le_refl _)⟩
   have HC:Box (nw=(chS L).2/\Wn.map (·.P)=(chS L).1):=⟨by have:=HK.out.1.c2;rwa [HT.out] at this,by have:=HK.out.1.c1;rwa [HT.out] at this⟩
   obtain ⟨na,nc,rfl⟩:=q0l HK.out.1.now
   by_cases h0:0<nw.length
   ·have hgt:(0:Int)<(nw.length:Int):=by omega
    go_wp2
    go_ret2
    exact ⟨HK.out.1.bel,.inl ⟨fun e=>by rw [<-HC.out.1] at e;subst e;simp at h0,rfl⟩⟩
   ·have hgt:¬(0:Int)<(nw.length:Int):=by omega
    go_wp2
    go_ret2
    refine ⟨HK.out.1.bel,Or.inr ⟨?_,_,rfl,Wn,HK.out.1.out,HK.out.1.wim,HC.out.2⟩⟩
    rw [<-HC.out.1]
    exact List.eq_nil_of_length_eq_zero (by omega)
theorem z6b (L:List ((Int × List Int) × Bool)) (x:(Int × List Int) × Bool):chS (L++[x])=chSt (chS L) x:=by simp [chS]
theorem z6e (L:List ((Int × List Int) × Bool)):(chS L).2=[] ↔ lastOk L:=by
 rcases List.eq_nil_or_concat L with rfl | ⟨L',x,rfl⟩
 ·exact ⟨fun _ h=>by simp at h,fun _=>rfl⟩
 ·rw [List.concat_eq_append,z6b]
  have e:lastOk (L'++[x]) ↔ x.2=true:=by
   unfold lastOk
   simp
  rw [e]
  unfold chSt
  cases x.2<;>simp
def zD:List Value:=Disk.rv 0 (.slice none 0 0) (.slice none 0 0) 0 false (.slice none 0 0)
structure Lz (w y:World) (S:Nat) (V:List Value) (K:List Int) (s:Jst):Prop where
 b0:y.heap[S]?=some (.cells V.toArray 36 (0,0))
 b1:y.heap[S+1]?=some (.cells (u8s K) 23 (0,0))
 b2:y.heap[S+2]?=some (.cells (sa s) 42 (0,0))
 b3:y.heap[S+3]?=some (.cells zD.toArray 36 (0,0))
 bl:Below w.heap.size w y
 sz:w.heap.size=S
theorem Lz.lt {w y:World} {S:Nat} {V:List Value} {K:List Int} {s:Jst} (h:Lz w y S V K s):S+4<=y.heap.size:=by
 have:=(gE h.b3)
 omega
theorem Lz.but {w y z:World} {S B:Nat} {V:List Value} {K:List Int} {s:Jst} (h:Lz w y S V K s) (hb:But B y z) (hB:S+4<=B):Lz w z S V K s:=by
 have hl:=h.lt
 have e:∀k,k<S+4->z.heap[k]?=y.heap[k]?:=fun k hk=>hb.block k (by omega) (by omega)
 exact ⟨(e S (by omega)).trans h.b0,(e _ (by omega)).trans h.b1,(e _ (by omega)).trans h.b2,(e _ (by omega)).trans h.b3,h.bl.trans (hb.below (by rw [h.sz];omega) h.bl.size),h.sz⟩
theorem Lz.below {w y z:World} {S:Nat} {V:List Value} {K:List Int} {s:Jst} (h:Lz w y S V K s) (hb:Below y.heap.size y z):Lz w z S V K s:=h.but (B:=y.heap.size) (But.of_below hb) h.lt
theorem Lz.set0 {w y z:World} {S:Nat} {V V':List Value} {K:List Int} {s:Jst} (h:Lz w y S V K s) (hb:But S y z) (h1:z.heap[S]?=some (.cells V'.toArray 36 (0,0))):Lz w z S V' K s:=by
 have hl:=h.lt
 have e:∀k,k<S+4->k≠S->z.heap[k]?=y.heap[k]?:=fun k hk hn=>hb.block k (by omega) hn
 exact ⟨h1,(e _ (by omega) (by omega)).trans h.b1,(e _ (by omega) (by omega)).trans h.b2,(e _ (by omega) (by omega)).trans h.b3,h.bl.trans (hb.below (by rw [h.sz];omega) h.bl.size),h.sz⟩
theorem Lz.key {w y:World} {S:Nat} {V:List Value} {K:List Int} {s:Jst} (h:Lz w y S V K s):y.rangeAt (S+1) 0 (K.map (Value.int .u8)):=q2x h.b1
theorem Lz.cells {w y:World} {S:Nat} {V:List Value} {K:List Int} {s:Jst} (h:Lz w y S V K s):y.cell? ⟨S+2,0,none⟩=some (.int .u64 (s.start:Int))/\y.cell? ⟨S+2,1,none⟩=some (.int .u64 (s.count:Int))/\y.rangeAt (S+2) 0 (scs s)/\y.rangeAt (S+2) 2 (s.tag.map (Value.int .u8)):=by
 have hr:y.rangeAt (S+2) 0 (scs s):=q2a h.b2 _ (fun j v hv=>by rw [Nat.zero_add];simpa [sa] using hv)
 refine ⟨?_,?_,hr,fun j v hv=>?_⟩
 ·rw [cell_of_row _ _ _ _ _ _ h.b2];rfl
 ·rw [cell_of_row _ _ _ _ _ _ h.b2];rfl
 ·have:=hr (2+j) v (by unfold scs;rw [show 2+j=j+2 by omega];simpa using hv)
  rwa [Nat.zero_add] at this
def strs (X:List (List Int)):List Value:=X.map fun B=>.string (strOfNums B)
theorem z0a {ops:Array Oper} {rest:List Oper} {o:Oper} {act:Act} {w:World} {Q:Exit->Act->World->Prop} (hgd:o.guard=none) (t e:TypeId) (ht:Tryz.prog.underlying t=some (.slice e)) (sz bytes:Nat) (z:Value) (hi:(Tryz.prog.info? e).map (fun i=>(i.zero,i.size,i.bytes))=some (some z,sz,bytes)) (hzs:z.cells.size=sz) (hsz:0<sz) (s x:Operand)
  (ho:o.op=.call {callee:=.builtin .append,args:=#[s,x],argTypes:=#[t,t]}) (B n:Nat) (v:Value) (xs cs:List Value) (wn:World) (hs:act.eval s=v) (hx:act.eval x=.slice (some ⟨wn.heap.size,0,none⟩) 1 1) (hw:w=wn.alloc (.cells cs.toArray e)) (hown:wn.ownsRow B e sz v n xs) (hcs:cs.length=sz) (h1:∀u∈cs,u.oneCell'=true) (hn:n<=1000000) (hby:bytes<=1000) (hB:B<=wn.heap.size)
  (h:∀v' w',w'.ownsRow B e sz v' (n+1) (xs++cs)->wn.grownBy w' v.ownBlock->wpList Tryz.prog ops Q rest (act.put o.dst v') w'):wpList Tryz.prog ops Q (o::rest) act w:=
 wpList_plain hgd fun _ hK=>wp_appR t e ht sz bytes z hi hzs hsz s x ho B n v xs cs wn hs hx hw hown hcs h1 hn hby hB fun v' w' a b=>hK _ _ (h v' w' a b)
theorem infStr:(Tryz.prog.info? 9).map (fun i=>(i.zero,i.size,i.bytes))=some (some (.string ByteArray.empty),1,16):=by kernel_rfl
theorem infR3:(Tryz.prog.info? 107).map (fun i=>(i.zero,i.size,i.bytes))=some (some (.agg #[.int .u64 0,.string ByteArray.empty,.bool false]),3,32):=by kernel_rfl
def ldk (d:Disk.Dk) (f n st i:Nat):List (Nat × List Int):=(pcs f n st i).map fun p=>(p,Disk.lat d p)
theorem z6h (d:Disk.Dk) (f n st i:Nat):ldk d f n st (i+1)=ldk d f n st i++[(f+(st+i)%n,Disk.lat d (f+(st+i)%n))]:=by simp [ldk,q6y]
def lts (d:Disk.Dk) (f n st i:Nat):List (List Int):=(pcs f n st i).map (Disk.lat d)
theorem lts_succ (d:Disk.Dk) (f n st i:Nat):lts d f n st (i+1)=lts d f n st i++[Disk.lat d (f+(st+i)%n)]:=by simp [lts,q6y]
theorem z7a (d:Disk.Dk) (f n st i:Nat):(lts d f n st i).length=i:=by simp [lts,pcs]
theorem z0s {w:World} {b1 b2 n1 n2 s1 s2:Nat} {e1 e2:TypeId} {v1 v2:Value} {x1 x2:List Value} (h:w.ownsRow b1 e1 s1 v1 n1 x1) (k:w.ownsRow b2 e2 s2 v2 n2 x2) (he:e2≠e1) (q:Nat) (h1:v1.ownBlock=some q) (h2:v2.ownBlock=some q):False:=by
 rcases k.2 with ⟨rfl,_⟩ | ⟨g,cap,cur,rfl,_,hg,_⟩
 ·simp [Value.ownBlock] at h2
 ·simp only [Value.ownBlock,Option.some.injEq] at h2
  subst h2
  exact q1v h h1 hg he rfl
theorem rv_grown {y z:World} {v u:Value} {r:Disk.Rd} {B n sz:Nat} {e:TypeId} {xs:List Value} (h:Disk.Rv y v r) (ho:y.ownsRow B e sz u n xs) (hg:y.grownBy z u.ownBlock) (h1:e≠123) (h2:e≠166):Disk.Rv z v r:=by
 obtain ⟨vd,vw,vo,rfl,k1,k2,k3⟩:=h
 exact ⟨vd,vw,vo,rfl,q0j k1 (fun q hq=>hg.block q (k1.lt q hq).2 (fun e=>z0s k1 ho h1 q hq e.symm)),q0j k2 (fun q hq=>hg.block q (k2.lt q hq).2 (fun e=>z0s k2 ho h1 q hq e.symm)),q0j k3 (fun q hq=>hg.block q (k3.lt q hq).2 (fun e=>z0s k3 ho h2 q hq e.symm))⟩
structure L1 (w wr:World) (S T:Nat) (K:List Int) (s:Jst) (d:Disk.Dk) (k f n i:Nat) (v:Value) (r:Disk.Rd) (V:List Value):Prop where
 lz:Lz w wr S V K s
 l6:V.length=6
 rv:Disk.Rv wr (.agg V.toArray) r
 j:Disk.J (k+i) (rdD d (pcs f n s.start i)) r
 tg:wr.heap[T]?=some (.cells (u8s (chn (ldk d f n s.start i))) 23 (0,0))
 hT:S+4<=T
 row:wr.ownsRow w.heap.size 9 1 v i (strs (lts d f n s.start i))
theorem L1.below {w wr y:World} {S T:Nat} {K:List Int} {s:Jst} {d:Disk.Dk} {k f n i:Nat} {v:Value} {r:Disk.Rd} {V:List Value} (h:L1 w wr S T K s d k f n i v r V) (hb:Below wr.heap.size wr y):L1 w y S T K s d k f n i v r V:=
 ⟨h.lz.below hb,h.l6,h.rv.below hb,h.j,(hb.block T (gE h.tg)).trans h.tg,h.hT,q0j h.row (fun q hq=>hb.block q (h.row.lt q hq).2)⟩
structure L1r (w wr:World) (S T:Nat) (K:List Int) (s:Jst) (d:Disk.Dk) (k f n i:Nat) (v:Value) (r:Disk.Rd) (V:List Value) (tag:List Int):Prop where
 lz:Lz w wr S V K s
 l6:V.length=6
 rv:Disk.Rv wr (.agg V.toArray) r
 j:Disk.J (k+i+1) (rdD d (pcs f n s.start (i+1))) r
 tg:wr.heap[T]?=some (.cells (u8s tag) 23 (0,0))
 hT:S+4<=T
 row:wr.ownsRow w.heap.size 9 1 v i (strs (lts d f n s.start i))
theorem L1r.below {w wr y:World} {S T:Nat} {K:List Int} {s:Jst} {d:Disk.Dk} {k f n i:Nat} {v:Value} {r:Disk.Rd} {V:List Value} {tag:List Int} (h:L1r w wr S T K s d k f n i v r V tag) (hb:Below wr.heap.size wr y):L1r w y S T K s d k f n i v r V tag:=
 ⟨h.lz.below hb,h.l6,h.rv.below hb,h.j,(hb.block T (gE h.tg)).trans h.tg,h.hT,q0j h.row (fun q hq=>hb.block q (h.row.lt q hq).2)⟩
theorem L1.read {w wr x y:World} {S T:Nat} {K:List Int} {s:Jst} {d:Disk.Dk} {k f n i p:Nat} {v:Value} {r r':Disk.Rd} {V V':List Value} (h:L1 w wr S T K s d k f n i v r V) (hp:f+(s.start+i)%n=p) (hb:Below wr.heap.size wr x) (hv:Disk.Rv x (.agg V'.toArray) r') (hl:V'.length=6) (hj:Disk.J (k+i+1) (Disk.rdOk (rdD d (pcs f n s.start i)) (p:Int)) r') (hs:y=x.setRow S V'.toArray):
  L1r w y S T K s d k f n i v r' V' (chn (ldk d f n s.start i)):=by
 have hx:=h.below hb
 have hbut:But S x y:=by rw [hs];exact ⟨rfl,rfl,rfl,by simp,fun k _ hk=>setRow_other x S k _ hk⟩
 have hlt:=hx.lz.lt
 have hT:=hx.hT
 have hne:∀q,v.ownBlock=some q->q≠S:=fun q hq e=>q1v hx.row hq (e▸hx.lz.b0) (by decide) rfl
 refine ⟨hx.lz.set0 hbut (by rw [hs];exact setRow_heap _ _ _ _ _ _ hx.lz.b0),hl,?_,?_,(hbut.block T (gE hx.tg) (by omega)).trans hx.tg,hT,q0j hx.row (fun q hq=>hbut.block q (hx.row.lt q hq).2 (hne q hq))⟩
 ·exact q3m hv hbut hx.lz.b0 (by decide) (by decide)
 ·rw [q6y,<-z6o,hp];exact hj
theorem L1r.tagged {w wr x y:World} {S T:Nat} {K:List Int} {s:Jst} {d:Disk.Dk} {k f n i p:Nat} {v:Value} {r:Disk.Rd} {V:List Value} (h:L1r w wr S T K s d k f n i v r V (chn (ldk d f n s.start i))) (hp:f+(s.start+i)%n=p) (hb:Below wr.heap.size wr x) (X:List Int) (hX:lnk (chn (ldk d f n s.start i)) (p:Int) (Disk.lat d p)=X) (hs:y=x.setRow T (u8s X)):
  L1r w y S T K s d k f n i v r V (chn (ldk d f n s.start (i+1))):=by
 have hx:=h.below hb
 have hbut:But T x y:=by rw [hs];exact ⟨rfl,rfl,rfl,by simp,fun k _ hk=>setRow_other x T k _ hk⟩
 have hT:=hx.hT
 have hne:∀q,v.ownBlock=some q->q≠T:=fun q hq e=>q1v hx.row hq (e▸hx.tg) (by decide) rfl
 have e:chn (ldk d f n s.start (i+1))=X:=by rw [z6h,q6x,hp];exact hX
 refine ⟨hx.lz.but hbut hT,hx.l6,q3m hx.rv hbut hx.tg (by decide) (by decide),hx.j,by rw [e,hs];exact setRow_heap _ _ _ _ _ _ hx.tg,hT,q0j hx.row (fun q hq=>hbut.block q (hx.row.lt q hq).2 (hne q hq))⟩
theorem L1r.more {w wr y:World} {S T:Nat} {K:List Int} {s:Jst} {d:Disk.Dk} {k f n i p:Nat} {v v':Value} {r:Disk.Rd} {V:List Value} (h:L1r w wr S T K s d k f n i v r V (chn (ldk d f n s.start (i+1)))) (hp:f+(s.start+i)%n=p) (ho:y.ownsRow w.heap.size 9 1 v' (i+1) (strs (lts d f n s.start i)++[.string (strOfNums (Disk.lat d p))])) (hg:wr.grownBy y v.ownBlock):
  L1 w y S T K s d k f n (i+1) v' r V:=by
 have hT:=h.hT
 have hlt:=h.lz.lt
 have hgs:=hg.size
 have hn0:∀q,v.ownBlock=some q->q≠S:=fun q hq e=>q1v h.row hq (e▸h.lz.b0) (by decide) rfl
 have hn1:∀q,v.ownBlock=some q->q≠S+1:=fun q hq e=>q1v h.row hq (e▸h.lz.b1) (by decide) rfl
 have hn2:∀q,v.ownBlock=some q->q≠S+2:=fun q hq e=>q1v h.row hq (e▸h.lz.b2) (by decide) rfl
 have hn3:∀q,v.ownBlock=some q->q≠S+3:=fun q hq e=>q1v h.row hq (e▸h.lz.b3) (by decide) rfl
 have hnT:∀q,v.ownBlock=some q->q≠T:=fun q hq e=>q1v h.row hq (e▸h.tg) (by decide) rfl
 have hbk:∀q,q<wr.heap.size->(∀b,v.ownBlock=some b->b≠q)->y.heap[q]?=wr.heap[q]?:=fun q hq hn=>hg.block q hq (fun e=>hn q e.symm rfl)
 refine ⟨⟨(hbk S (by omega) hn0).trans h.lz.b0,(hbk _ (by omega) hn1).trans h.lz.b1,(hbk _ (by omega) hn2).trans h.lz.b2,(hbk _ (by omega) hn3).trans h.lz.b3,h.lz.bl.grown hg h.lz.bl.size (fun q hq=>(h.row.lt q hq).1),h.lz.sz⟩,h.l6,rv_grown h.rv h.row hg (by decide) (by decide),h.j,(hbk T (gE h.tg) hnT).trans h.tg,hT,?_⟩
 rw [lts_succ,hp]
 simpa [strs] using ho
end Go.Proofs.YtjejnlebpcjidaaGreatDoor
