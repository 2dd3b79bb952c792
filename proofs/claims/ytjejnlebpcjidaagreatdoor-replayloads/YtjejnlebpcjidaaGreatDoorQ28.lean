/-
 What Append of package journal leaves, where records may be written. And what follows it.
-/
import Derived.Test.YtjejnlebpcjidaaGreatDoorQ27
import Derived.Laws.StructEq
import Derived.ChangeKeysEq
import Derived.Test.YtjejnlebpcjidaaGreatDoorQ25
import Derived.Deep.Grids
import Derived.Deep.Slices
import Derived.Test.YtjejnlebpcjidaaGreatDoorQ21
import Derived.Test.YtjejnlebpcjidaaGreatDoorCards
import Derived.Test.YtjejnlebpcjidaaGreatDoorTie
import Derived.ProofKit
import Derived.OpenShut
import Derived.ShutString
import Derived.ChangeOld
import Derived.Below
import Derived.Deep.DeepHandedRow
import Derived.Lib.LaidTab
import Derived.Test.YtjejnlebpcjidaaGreatDoorQ00
set_option linter.unusedVariables false
set_option maxRecDepth 100000
set_option maxRecDepth 100000
namespace Go.Proofs.YtjejnlebpcjidaaGreatDoor
open Go.RowKit Plain
attribute [local go_sem] Oper.semAt_some
structure ApR (w0 x wr:World) (J D T:Nat) (fp:Nat->Prop) (j:Jt) (d:Disk.Dk) (k:Nat) (y:Ast):Prop where
 ok:y.2.2.1=0
 apk:Apk j d k y
 ex:∃fpk,JC w0 wr J D fpk {j with nx:=y.2.1} y.1/\wr.heap[T]?=some (.cells (sa y.2.2.2) 27 (0,0))/\Fw (fun i=>i=J∨i=T) x wr fp fpk
theorem tke_zero {j:Jt} {n:Nat} (h:tke j n=0):j.st.count+n<=j.size/\j.nx+(n:Int)<=j.lim∨n=0:=by
 unfold tke at h
 split at h
 ·cases h
 ·split at h
  ·cases h
  ·omega
set_option maxHeartbeats 8000000 in
theorem append_go {w0 w:World} {J D:Nat} {fp:Nat->Prop} {j:Jt} {d:Disk.Dk} (C:JC w0 w J D fp j d) (a:Option Addr) (cap:Nat) (M:List Im) (hM:Imgs w a M) (hl:M.length<=1000) (hmx:∀m∈M,m.bl<=100000) (hbad:bad (M.map pl)=false) (htk:tke j M.length=0) (hdl:0<=d.left/\d.left<=9223372036854775807) (hop:d.ops.length<900000) (hup:d.uw.length<900000)
  (Y:Ast) (hY:apL j (d,j.nx,0,j.st) (ofP (M.map pl))=Y):
  Calls Tryz.prog 11 #[.pointer (some ⟨J,0,none⟩),.slice a M.length cap] w fun e w'=>ApV w0 w J D fp j (if Y.2.2.1≠0 then (Y.1,Y.2.1,Y.2.2.1,zs) else Y) e w':=by
 obtain ⟨B,hB⟩:=nm w.heap.size
 obtain ⟨w1,hw1⟩:=nm ((w.alloc (.cells #[.pointer (some ⟨J,0,none⟩)] 39)).alloc (.cells (sa zs) 27))
 have hb1:Below w.heap.size w w1:=by rw [<-hw1];exact ((Below.refl _ _).alloc (Nat.le_refl _) _).alloc (by simp) _
 have k1:w1.heap[B]?=some (.cells #[.pointer (some ⟨J,0,none⟩)] 39 (0,0)):=by rw [<-hw1];exact q0i (q0g hB)
 have k2:w1.heap[B+1]?=some (.cells (sa zs) 27 (0,0)):=by rw [<-hw1];exact q0g (by simp [hB])
 have C1:=C.below hb1
 have HNO:Box (Calls Tryz.prog 33 #[.pointer (some ⟨J,0,none⟩)] w1 fun e w'=>e=.returned (.bool false)/\w1=w'):=⟨q7p C1.rd C.ok.lo⟩
 have HBX:Box (∀x,Below w1.heap.size w1 x->x.cell? ⟨B,0,none⟩=some (.pointer (some ⟨J,0,none⟩))/\x.heap[B+1]?=some (.cells (sa zs) 27 (0,0))):=⟨fun x hx=>⟨by rw [cell_of_row _ _ _ _ _ _ ((hx.block B (gE k1)).trans k1)];rfl,(hx.block (B+1) (gE k2)).trans k2⟩⟩
 have HIZ:Box ((Tryz.prog.info? 27).map (·.size)=some (sa zs).size):=⟨by rw [q1b q1f];exact infoSt⟩
 have HB:Box (w.heap.size=B):=⟨hB⟩
 have hs2:(w.alloc (.cells #[.pointer (some ⟨J,0,none⟩)] 39)).heap.size=B+1:=by simp [hB]
 have c1:=(HBX.out w1 (Below.refl _ _)).1
 obtain ⟨Y',hY'⟩:=nm ((if Y.2.2.1≠0 then (Y.1,Y.2.1,Y.2.2.1,zs) else Y))
 rw [hY']
 obtain ⟨n,hn⟩:=nm M.length
 have hn0:0<n:=by
  rw [<-hn]
  cases M with
  | nil=>simp [bad] at hbad
  | cons m M=>simp
 have hall:∀m∈M,m.bl=160:=fun m hm=>by
  simp only [bad,List.isEmpty_map,Bool.or_eq_false_iff,List.any_eq_false,List.mem_map,decide_eq_true_eq] at hbad
  have:=hbad.2 (pl m) ⟨m,hm,rfl⟩
  rw [<-(hM.byt m hm).1.1]
  simpa [pl] using this
 have HOF:Box (Calls Tryz.prog 34 #[.slice a n cap] w1 fun e w'=>∃g R,e=.returned (.tuple #[.slice (some ⟨g,0,none⟩) n n,.int .i64 0])/\ORecs w' w1.heap.size (.slice (some ⟨g,0,none⟩) n n) R/\R.length=n/\R.map rpl=ofP (M.map pl)/\(∀r∈R,r.m.bl=160)/\Below w1.heap.size w1 w'):=⟨by
  have:=z7w a cap M w1 (hM.below hb1) hl (by omega) hall
  rw [hn] at this
  refine this.mono ?_
  rintro e w' ⟨g,R,h1,h2,h3,h4,h5⟩
  refine ⟨g,R,h1,h2,h3,h4,fun r hr=>?_,h5⟩
  have h6:rpl r∈ofP (M.map pl):=by rw [<-h4];exact List.mem_map_of_mem hr
  obtain ⟨i,hi,e6⟩:=List.getElem_of_mem h6
  have h7:(rpl r).1∈M.map pl:=by
   rw [<-e6]
   simp only [ofP,List.getElem_mapIdx]
   exact List.getElem_mem _
  obtain ⟨m,hm,e7⟩:=List.mem_map.1 h7
  have e8:r.m.bs=m.bs:=by have:=congrArg Prod.snd e7;simpa [rpl,pl] using this.symm
  have h8:=(h2.byt r hr).byi.1.1
  rw [e8,(hM.byt m hm).1.1,hall m hm] at h8
  exact h8.symm⟩
 have HTK:Box (∀x,Below w1.heap.size w1 x->Calls Tryz.prog 35 #[.pointer (some ⟨J,0,none⟩),.int .u64 (n:Int)] x fun e w'=>e=.returned (.int .i64 0)/\Below x.heap.size x w'):=⟨fun x hx=>by
  have:=z2x (C1.below hx).row C.ok n (by omega)
  rw [<-hn,htk,hn] at this
  exact this⟩
 have htz:j.st.count+n<=j.size/\j.nx+(n:Int)<=j.lim:=by
  rcases tke_zero htk with h | h
  ·rw [hn] at h;exact h
  ·omega
 have hJl:=C.lt
 have HJS:Box (∀x,Below w1.heap.size w1 x->x.rangeAt J 35 (scs j.st)):=⟨fun x hx=>(C1.jrd hx).st⟩
 have HSZ:Box ((Tryz.prog.info? 27).map (·.size)=some (scs j.st).length/\(Tryz.prog.info? 27).map (·.size)=some (sa j.st).size/\(sa zs).size=(sa j.st).size/\(scs j.st).toArray=sa j.st):=⟨by rw [q0u C.ok.st];exact infoSt,by rw [q1b C.ok.st];exact infoSt,by rw [q1b C.ok.st,q1b q1f],rfl⟩
 -- the loop begins
 have HBE:Box (∀x x4 T,Below w1.heap.size w1 x->x.heap.size=T->Below x.heap.size x x4->x4.heap[T]?=some (.cells (sa j.st) 27 (0,0))->ApR w0 x4 x4 J D T fp j d 0 (apL j (d,j.nx,0,j.st) ((ofP (M.map pl)).take 0))):=⟨fun x x4 T hx hT hx4 ht=>by
  refine ⟨rfl,z5v j C.ok d _ 0 (Nat.zero_le _),fp,(C1.below (q0a hx hx4)),ht,Fw.refl _ _ _⟩⟩
 -- one round's call
 have HCL:Box (∀(x x4 wr y:World) (T k g:Nat) (R:List Rc) (r:Rc) (Yk:Ast),Below w1.heap.size w1 x->x.heap.size=T->Below x.heap.size x x4->T<x4.heap.size->ORecs x w1.heap.size (.slice (some ⟨g,0,none⟩) n n) R->R.length=n->R.map rpl=ofP (M.map pl)->(∀r∈R,r.m.bl=160)->ApR w0 x4 wr J D T fp j d k Yk->(hk:k<R.length)->R[k]=r->Below wr.heap.size wr y->
   Calls Tryz.prog 36 #[.agg (rcc r).toArray,.pointer (some ⟨B,0,none⟩),.pointer (some ⟨T,0,none⟩)] y fun e w'=>∃fp',e=.returned (.int .i64 (apS j Yk (rpl r)).2.2.1)/\JC w0 w' J D fp' {j with nx:=(apS j Yk (rpl r)).2.1} (apS j Yk (rpl r)).1/\w'.heap[T]?=some (.cells (sa (apS j Yk (rpl r)).2.2.2) 27 (0,0))/\Fw (fun i=>i=J∨i=T) x4 w' fp fp'):=⟨fun x x4 wr y T k g R r Yk hx hT hx4 hT4 hR hRl hRm hRa hA hk hr hy=>by
  obtain ⟨fpk,Ck,ht,hf⟩:=hA.ex
  have hz1:=hb1.size
  have hz2:=hx.size
  have hz4:=hx4.size
  have hB1:B+1<w1.heap.size:=(gE k2)
  have hfpl:∀i,fp i->i<B:=fun i hi=>by have:=C.cx.hi i hi;omega
  have old:∀i,B<=i->i<x.heap.size->y.heap[i]?=x.heap[i]?/\¬fpk i:=fun i h1 h2=>by
   have n1:¬fp i:=fun h=>by have:=hfpl i h;omega
   have n2:¬(i=J∨i=T):=by omega
   have e1:=hf.block (k:=i) (by omega) n1 n2
   have e2:=hx4.block i h2
   have e3:=hy.block i (by have:=hf.size;omega)
   exact ⟨e3.trans (e1.trans e2),hf.k i (by omega) n1⟩
  have hrm:r∈R:=by rw [<-hr];exact List.getElem_mem hk
  have hO:=hR.byt r hrm
  have hby:Bytes y r.m.ba r.m.bl r.m.bs:=by
   have ho:=hO.own
   have:=q0j (w':=y) ho (fun i hi=>(old i (by have:=(ho.lt i hi).1;omega) (ho.lt i hi).2).1)
   exact q2p this hO.byt
  have Cy:=Ck.below hy
  have hok:=C.ok
  obtain ⟨s1,s2,s3,s4,s5⟩:=hA.apk.st hA.ok
  have hgw:=hA.apk.gw
  have hkn:k<n:=by rw [<-hRl];exact hk
  have htl:T<wr.heap.size:=(gE ht)
  have hsl:=hok.sl
  have hhi:=hok.hi
  have hlm:=hok.lim
  have o1:=hgw.ops
  have o2:=hgw.uw
  have o3:=hgw.left hdl
  have nT:¬fpk T:=hf.k T hT4 (fun h=>by have:=hfpl T h;omega)
  have hw0:=C.cx.bel.size
  have he0:=hA.ok
  have hBy:=old B (Nat.le_refl _) (by omega)
  have hBr:y.heap[B]?=some (.cells #[.pointer (some ⟨J,0,none⟩)] 39 (0,0)):=hBy.1.trans ((hx.block B (by omega)).trans k1)
  have hTy:y.heap[T]?=some (.cells (sa Yk.2.2.2) 27 (0,0)):=(hy.block T htl).trans ht
  have:=clo_v Cy B T Yk.2.2.2 ⟨s4,s5,by omega,by omega⟩ (by omega) hBr hTy hBy.2 nT (by omega) (by omega) (by omega) (by omega) r hby hO.num (hRa r hrm) (by show Yk.2.1<_;omega) o3 (by omega) (by omega) (apP j Yk) rfl (apT j Yk (rpl r)) rfl _ rfl
  have e:apS j Yk (rpl r)=((dwr Yk.1 (apP j Yk) (apT j Yk (rpl r))).1,Yk.2.1+1,(dwr Yk.1 (apP j Yk) (apT j Yk (rpl r))).2,if (dwr Yk.1 (apP j Yk) (apT j Yk (rpl r))).2=0 then nxS j Yk.2.2.2 (apP j Yk) (apT j Yk (rpl r)) else Yk.2.2.2):=by unfold apS;rw [if_neg (fun h=>h he0)]
  rw [e]
  refine this.mono ?_
  rintro e w' ⟨fp',q1,q2,q3,q4⟩
  exact ⟨fp',q1,q2,q3,(hf.trans (Fw.below _ fpk hy)).trans q4⟩⟩
 -- what is loaded of the records
 have HLD:Box (∀(x x4 wr:World) (T k g:Nat) (R:List Rc) (Yk:Ast) (hk:k<R.length),Below w1.heap.size w1 x->x.heap.size=T->Below x.heap.size x x4->ORecs x w1.heap.size (.slice (some ⟨g,0,none⟩) n n) R->R.length=n->ApR w0 x4 wr J D T fp j d k Yk->wr.rangeAt g (0+k*3) (rcc R[k])):=⟨fun x x4 wr T k g R Yk hk hx hT hx4 hR hRl hA=>by
  obtain ⟨fpk,Ck,ht,hf⟩:=hA.ex
  have hz1:=hb1.size
  have hz2:=hx.size
  have hz4:=hx4.size
  have hrow:=hR.row
  rw [hRl] at hrow
  obtain ⟨b,o,e,hlt,hr⟩:=q6f (f:=rcc) (fun _=>rfl) hrow hRl (by omega)
  cases e
  have hgl:w1.heap.size<=g:=(q1j hR.row g rfl).1
  have n1:¬fp g:=fun h=>by have:=C.cx.hi g h;omega
  have e1:=hf.block (k:=g) (by omega) n1 (by omega)
  have e2:=hx4.block g hlt
  intro i v hv
  exact (World.cell?_of_block (e1.trans e2)).trans (hr k hk i v hv)⟩
 -- the end
 have HFI:Box (∀(x4 wr:World) (T:Nat) (fpk:Nat->Prop) (j':Jt) (d':Disk.Dk) (s:Jst),w1.heap.size<=T->Below w1.heap.size w1 x4->JC w0 wr J D fpk j' d'->Fw (fun i=>i=J∨i=T) x4 wr fp fpk->wr.heap[B+1]?=some (.cells (sa zs) 27 (0,0))/\JC w0 (wr.setRow (B+1) (sa s)) J D fpk j' d'/\Fw (fun i=>i=J) w (wr.setRow (B+1) (sa s)) fp fpk):=⟨fun x4 wr T fpk j' d' s hT hx4 hC hf=>by
  have hz1:=hb1.size
  have hz4:=hx4.size
  have hB1:B+1<w1.heap.size:=(gE k2)
  have hw0:=C.cx.bel.size
  have n1:¬fp (B+1):=fun h=>by have:=C.cx.hi _ h;omega
  have hbt:But (B+1) wr (wr.setRow (B+1) (sa s)):=q0s _ _ _
  refine ⟨(hf.block (k:=B+1) (by omega) n1 (by omega)).trans ((hx4.block (B+1) hB1).trans k2),hC.set (B+1) hbt (hf.k _ (by omega) n1) (by omega) (by omega),?_⟩
  have h1:Fw (fun i=>i=J∨i=T∨i=B+1) w x4 fp fp:=Fw.below _ fp (q0a hb1 hx4)
  have h2:Fw (fun i=>i=J∨i=T∨i=B+1) x4 wr fp fpk:=hf.wider (fun i _ h=>by omega)
  have h3:Fw (fun i=>i=J∨i=T∨i=B+1) wr (wr.setRow (B+1) (sa s)) fpk fpk:=Fw.of_but _ (.inr (.inr rfl)) hbt fpk
  exact ((h1.trans h2).trans h3).wider (fun i hi h=>by omega)⟩
 have HYL:Box (∀(R:List Rc) (k:Nat) (hk:k<R.length) (r:Rc),R.length=n->R.map rpl=ofP (M.map pl)->R[k]=r->apL j (d,j.nx,0,j.st) ((ofP (M.map pl)).take (k+1))=apS j (apL j (d,j.nx,0,j.st) ((ofP (M.map pl)).take k)) (rpl r)/\((apS j (apL j (d,j.nx,0,j.st) ((ofP (M.map pl)).take k)) (rpl r)).2.2.1≠0->Y=apS j (apL j (d,j.nx,0,j.st) ((ofP (M.map pl)).take k)) (rpl r))):=⟨fun R k hk r hRl hRm hr=>by
  have hk2:k<(ofP (M.map pl)).length:=by rw [<-hRm,List.length_map];exact hk
  have e1:(ofP (M.map pl))[k]=rpl r:=by simp only [<-hRm,List.getElem_map,hr]
  have e2:apL j (d,j.nx,0,j.st) ((ofP (M.map pl)).take (k+1))=apS j (apL j (d,j.nx,0,j.st) ((ofP (M.map pl)).take k)) (rpl r):=by rw [List.take_succ_eq_append_getElem hk2,z1h,e1]
  refine ⟨e2,fun h=>?_⟩
  rw [<-hY,apL_split j _ _ (k+1),e2,z5d j _ h]⟩
 have HAK:Box (∀(y:Ast) (k:Nat) (r:Rc),Apk j d k y->Apk j d (k+1) (apS j y (rpl r))):=⟨fun y k r h=>z5q h _⟩
 have HLE:Box ((ofP (M.map pl)).take n=ofP (M.map pl)/\apL j (d,j.nx,0,j.st) (ofP (M.map pl))=Y/\(Y.2.2.1=0->Y'=Y)/\(Y.2.2.1≠0->Y'=(Y.1,Y.2.1,Y.2.2.1,zs))/\n<=1000):=⟨List.take_of_length_le (by rw [q3h,List.length_map];omega),hY,fun h=>by rw [<-hY',if_neg (fun h2=>h2 h)],fun h=>by rw [<-hY',if_pos h],by omega⟩
 have hw6:IntKind.u64.wrap (n:Int)=(n:Int):=by rw [IntKind.wrap_u64];omega
 rw [hn]
 have HB1L:Box (w1.heap.size=w1.heap.size):=⟨rfl⟩
 generalize ofP (M.map pl)=OL at *
 clear C hM hl hmx hbad hb1 k1 k2 C1 hB hn htk hdl hop hup hY hY' hall htz hJl HB1L
 go_enter Tryz.func11,Tryz.ntmps11
 go_upto_region 1 with (refine atAlloc _ ?_;refine q0b rfl _ _ (q0e 27 rfl _ zeroSt) ?_)
 (try rw [hs2])
 (try simp only [HB.out])
 clear hw1 hs2
 go_upto_region 6 with (first
  | (go_at_call 33;refine HNO.out.mono ?_;rintro e x1 ⟨rfl,rfl⟩)
  | (go_at_call 34;refine HOF.out.mono ?_;rintro e x2 ⟨g,R,rfl,h1,h2,h3,h4,hb⟩;have H2:Box (Below w1.heap.size w1 x2/\ORecs x2 w1.heap.size (.slice (some ⟨g,0,none⟩) n n) R/\R.length=n/\R.map rpl=OL/\∀r∈R,r.m.bl=160):=⟨hb,h1,h2,h3,h4⟩;clear hb h1 h2 h3 h4))
 have c2:=(HBX.out x2 H2.out.1).1
 clear HOF HNO c1
 go_upto_region 9 with (go_at_call 35;refine (HTK.out x2 H2.out.1).mono ?_;rintro e x3 ⟨rfl,hb⟩;have H3:Box (Below w1.heap.size w1 x3/\ORecs x3 w1.heap.size (.slice (some ⟨g,0,none⟩) n n) R):=⟨q0a H2.out.1 hb,H2.out.2.1.to hb⟩;clear hb)
 have c3:=(HBX.out x3 H3.out.1).1
 have HRS:Box (x3.rangeAt J 35 (scs j.st)):=⟨HJS.out x3 H3.out.1⟩
 clear HTK c2 HJS
 go_upto_region 10 with (first
  | (refine atLoad 27 ?_;refine q0c rfl 27 _ _ rfl Tryz.underlying27 rfl J 35 rfl (scs j.st) HSZ.out.1 HRS.out ?_;rw [HSZ.out.2.2.2])
  | (refine atAlloc _ ?_;refine q0b rfl _ _ (q0e 27 rfl _ zeroSt) ?_)
  | (refine atStore _ ?_;refine q0o x3 (sa zs) (sa j.st) HSZ.out.2.1 HSZ.out.2.2.1 (q3z j.st) rfl _ _ rfl rfl rfl rfl ?_;intro x4 h4 hb4;have H4:Box (x4.heap[x3.heap.size]?=some (.cells (sa j.st) 27 (0,0))/\Below x3.heap.size x3 x4):=⟨h4,hb4⟩;clear h4 hb4))
 obtain ⟨T,hT⟩:=nm x3.heap.size
 (try simp only [hT])
 have HT:Box (x3.heap.size=T/\T<x4.heap.size/\w1.heap.size<=T/\Below w1.heap.size w1 x4):=⟨hT,by rw [<-hT];exact (gE H4.out.1),by rw [<-hT];exact H3.out.1.size,q0a H3.out.1 H4.out.2⟩
 have HST:Box (ApR w0 x4 x4 J D T fp j d 0 (apL j (d,j.nx,0,j.st) (OL.take 0))):=⟨HBE.out x3 x4 T H3.out.1 HT.out.1 H4.out.2 (by rw [<-HT.out.1];exact H4.out.1)⟩
 clear hT HBE HRS c3
 go_wp2
 go_loopw [42] (fun i wr=>∃k:Nat,k<=n/\i=.int .i64 (k:Int)/\Box (ApR w0 x4 wr J D T fp j d k (apL j (d,j.nx,0,j.st) (OL.take k)))) (fun i _=>n-(intOf i).toNat)
 case atStart=>exact ⟨0,Nat.zero_le _,rfl,HST⟩
 case round=>
  obtain ⟨k,hk,rfl,HK⟩:=hrel
  clear HST
  by_cases hlt:k<n
  ·have hlt1:decide (k<n)=true:=by simpa using hlt
   have hkR:k<R.length:=by rw [H2.out.2.2.1];exact hlt
   obtain ⟨r,hr⟩:=nm (R[k])
   have HRG:Box (wr.rangeAt g (0+k*3) (rcc r)):=⟨by rw [<-hr];exact HLD.out x3 x4 wr T k g R _ hkR H3.out.1 HT.out.1 H4.out.2 H3.out.2 H2.out.2.2.1 HK.out⟩
   have HY2:Box _:=⟨HYL.out R k hkR r H2.out.2.2.1 H2.out.2.2.2.1 hr⟩
   have HCY:Box (∀y,Below wr.heap.size wr y->_):=⟨fun y hy=>HCL.out x3 x4 wr y T k g R r _ H3.out.1 HT.out.1 H4.out.2 HT.out.2.1 H3.out.2 H2.out.2.2.1 H2.out.2.2.2.1 H2.out.2.2.2.2 HK.out hkR hr hy⟩
   have HAP:Box _:=⟨HAK.out _ k r HK.out.apk⟩
   have HRI:Box ((Tryz.prog.info? 95).map (·.size)=some (rcc r).length/\(Tryz.prog.info? 95).map (·.size)=some (rcc r).toArray.size/\(rcc r).toArray.all (·.oneCell')=true):=⟨infoRc,infoRc,z0l r⟩
   have HLT:Box (k<n/\k<=1000):=⟨hlt,by have:=HLE.out.2.2.2.2;omega⟩
   obtain ⟨Yk,hYk⟩:=nm (apL j (d,j.nx,0,j.st) (OL.take k))
   rw [hYk] at HY2 HCY HAP
   obtain ⟨Z,hZ⟩:=nm (apS j Yk (rpl r))
   rw [hZ] at HY2 HAP
   simp only [hZ] at HCY
   have hw4:IntKind.i64.wrap ((k:Int)+1)=((k+1:Nat):Int):=by rw [IntKind.wrap_i64];have:=HLT.out;omega
   obtain ⟨RA,hRA⟩:=nm ((rcc r).toArray)
   simp only [hRA] at HCY HRI
   have HRA:Box ((rcc r).toArray=RA):=⟨hRA⟩
   clear hkR hr HK hYk hZ hRA HCL HLD HAK HYL hlt hk
   go_upto_region 14 with (first
    | (refine atIdx 90 ?_;refine q0b rfl _ _ (q0p 90 95 Tryz.underlying90 3 infoRc _ _ rfl g 0 n n k rfl rfl HLT.out.1) ?_)
    | (refine atLoad 95 ?_;refine q0c rfl 95 _ _ rfl Tryz.underlying95 rfl g (0+k*3) rfl (rcc r) HRI.out.1 HRG.out ?_;rw [HRA.out])
    | (refine atAlloc _ ?_;refine q0b rfl _ _ (q0e 95 rfl _ zeroRc) ?_)
    | (refine atStore _ ?_;refine q0o wr #[.int .u64 0,.slice none 0 0,.bool false] RA HRI.out.2.1 (by rw [<-HRA.out];rfl) HRI.out.2.2 rfl _ _ rfl rfl rfl rfl ?_;intro y1 h5 hb5;have H5:Box (y1.heap[wr.heap.size]?=some (.cells RA 95 (0,0))/\Below wr.heap.size wr y1):=⟨h5,hb5⟩;clear h5 hb5))
   obtain ⟨G,hG⟩:=nm wr.heap.size
   (try simp only [hG])
   rw [hG] at H5
   have HCZ:Box _:=⟨HCY.out y1 (by rw [hG];exact H5.out.2)⟩
   have HRY:Box (y1.rangeAt G 0 (rcc r)):=⟨fun i v hv=>by rw [cell_of_row _ _ _ _ _ _ H5.out.1,Nat.zero_add,<-HRA.out];simpa using hv⟩
   clear hG HCY HRG
   go_upto_region 15 with (first
    | (refine atLoad 95 ?_;refine q0c rfl 95 _ _ rfl Tryz.underlying95 rfl G 0 rfl (rcc r) HRI.out.1 HRY.out ?_;rw [HRA.out])
    | (go_at_call 36;refine HCZ.out.mono ?_;rintro e y2 ⟨fp2,rfl,q1,q2,q3⟩;have H6:Box (JC w0 y2 J D fp2 {j with nx:=Z.2.1} Z.1/\y2.heap[T]?=some (.cells (sa Z.2.2.2) 27 (0,0))/\Fw (fun i=>i=J∨i=T) x4 y2 fp fp2):=⟨q1,q2,q3⟩;clear q1 q2 q3))
   clear HCZ HRY
   obtain ⟨Zd,Zn,Ze,Zs⟩:=Z
   simp only at *
   by_cases h0:Ze=0
   ·have h0b:(Ze != 0)=false:=by simp [h0]
    have h0c:(Ze==0)=true:=by simp [h0]
    have HNR:Box (ApR w0 x4 y2 J D T fp j d (k+1) (apL j (d,j.nx,0,j.st) (OL.take (k+1)))):=⟨by rw [HY2.out.1];exact ⟨h0,HAP.out,fp2,H6.out.1,H6.out.2.1,H6.out.2.2⟩⟩
    clear h0
    go_wp2
    go_roundw
    case rel=>exact ⟨k+1,HLT.out.1,by go_num,HNR⟩
    case measure=>simp [intOf];have:=HLT.out.1;omega
   ·have h0b:(Ze != 0)=true:=by simp [h0]
    have h0c:(Ze==0)=false:=by simp [h0]
    have eY:=HY2.out.2 h0
    have e3:=HLE.out.2.2.2.1 (by rw [eY];exact h0)
    rw [eY] at e3
    obtain ⟨f1,f2,f3⟩:=HFI.out x4 y2 T fp2 _ _ zs HT.out.2.2.1 HT.out.2.2.2 H6.out.1 H6.out.2.2
    have HR:Box _:=⟨f1⟩
    have HEX:Box (ApV w0 w J D fp j Y' (.returned (.tuple #[.agg (sa zs),.int .i64 Ze])) (y2.setRow (B+1) (sa zs))):=⟨by rw [e3];exact ⟨fp2,rfl,f2,f3⟩⟩
    clear h0 eY e3 f1 f2 f3
    go_wp2_with (first
     | (refine atBuild _ ?_;refine q0b rfl _ _ (q0n 27 [] rfl [] rfl _ q5g) ?_)
     | (refine atStore _ ?_;refine wpList_store_row rfl 27 _ _ rfl (B+1) (sa zs) rfl rfl 27 (sa zs) HR.out HIZ.out rfl (q3z zs) ?_))
    refine bodyPost_ret (q1a (t:=4) (u:=5) rfl _ Tryz.underlying27 rfl _ _ (B+1) (sa zs) HIZ.out rfl (setRow_heap _ _ _ _ _ _ HR.out)) rfl ?_
    exact HEX.out
  ·obtain rfl:k=n:=by omega
   have hlt1:decide (k<k)=false:=by simp
   have hko:=HK.out
   rw [HLE.out.1,HLE.out.2.1] at hko
   obtain ⟨fpk,q1,q2,q3⟩:=hko.ex
   have e3:=HLE.out.2.2.1 hko.ok
   obtain ⟨f1,f2,f3⟩:=HFI.out x4 wr T fpk _ _ Y.2.2.2 HT.out.2.2.1 HT.out.2.2.2 q1 q3
   have oks:OkS Y.2.2.2:=by
    obtain ⟨s1,s2,s3,s4,s5⟩:=hko.apk.st hko.ok
    have h1:=q1.ok.sl
    have h2:=q1.ok.hi
    have h3:=HLE.out.2.2.2.2
    have h4:=q1.ok.cl
    simp only at h1 h2 h4
    exact ⟨s4,s5,by omega,by omega⟩
   have HR:Box _:=⟨f1⟩
   have HTS:Box (wr.rangeAt T 0 (scs Y.2.2.2)/\(Tryz.prog.info? 27).map (·.size)=some (scs Y.2.2.2).length/\(Tryz.prog.info? 27).map (·.size)=some (sa Y.2.2.2).size/\(scs Y.2.2.2).toArray=sa Y.2.2.2/\(sa zs).size=(sa Y.2.2.2).size):=⟨q3q q2,by rw [q0u oks];exact infoSt,by rw [q1b oks];exact infoSt,rfl,by rw [q1b oks,q1b q1f]⟩
   have HEX:Box (ApV w0 w J D fp j Y' (.returned (.tuple #[.agg (sa Y.2.2.2),.int .i64 0])) (wr.setRow (B+1) (sa Y.2.2.2))):=⟨by rw [e3];exact ⟨fpk,by rw [hko.ok],f2,f3⟩⟩
   obtain ⟨ys,hys⟩:=nm Y.2.2.2
   rw [hys] at HTS HEX
   clear hko q1 q2 q3 e3 f1 f2 f3 oks hys HK hk hlt
   go_wp2_with (first
    | (refine atLoad 27 ?_;refine q0c rfl 27 _ _ rfl Tryz.underlying27 rfl T 0 rfl (scs ys) HTS.out.2.1 HTS.out.1 ?_;rw [HTS.out.2.2.2.1])
    | (refine atStore _ ?_;refine wpList_store_row rfl 27 _ _ rfl (B+1) (sa ys) rfl rfl 27 (sa zs) HR.out HTS.out.2.2.1 HTS.out.2.2.2.2 (q3z ys) ?_))
   refine bodyPost_ret (q1a (t:=4) (u:=5) rfl _ Tryz.underlying27 rfl _ _ (B+1) (sa ys) HTS.out.2.2.1 rfl (setRow_heap _ _ _ _ _ _ HR.out)) rfl ?_
   exact HEX.out
theorem z6a {w0 w:World} {J D:Nat} {fp:Nat->Prop} {j:Jt} {d:Disk.Dk} (C:JC w0 w J D fp j d) (a:Option Addr) (cap:Nat) (M:List Im) (hM:Imgs w a M) (hl:M.length<=1000) (hmx:∀m∈M,m.bl<=100000) (hdl:0<=d.left/\d.left<=9223372036854775807) (hop:d.ops.length<900000) (hup:d.uw.length<900000):
  Calls Tryz.prog 11 #[.pointer (some ⟨J,0,none⟩),.slice a M.length cap] w fun e w'=>ApV w0 w J D fp j (appM j d (M.map pl)) e w':=by
 by_cases hb:bad (M.map pl)=true
 ·have e:appM j d (M.map pl)=(d,j.nx,1,zs):=by unfold appM;rw [if_pos hb]
  rw [e]
  exact z8j C a cap M hM hl hmx hb
 ·have hb':bad (M.map pl)=false:=by simpa using hb
  by_cases ht:tke j M.length=0
  ·have e:appM j d (M.map pl)=if (apL j (d,j.nx,0,j.st) (ofP (M.map pl))).2.2.1≠0 then ((apL j (d,j.nx,0,j.st) (ofP (M.map pl))).1,(apL j (d,j.nx,0,j.st) (ofP (M.map pl))).2.1,(apL j (d,j.nx,0,j.st) (ofP (M.map pl))).2.2.1,zs) else apL j (d,j.nx,0,j.st) (ofP (M.map pl)):=by
    unfold appM
    rw [if_neg hb,List.length_map,if_neg (fun h=>h ht)]
   rw [e]
   exact append_go C a cap M hM hl hmx hb' ht hdl hop hup _ rfl
  ·have e:appM j d (M.map pl)=(d,j.nx,tke j M.length,zs):=by
    unfold appM
    rw [if_neg hb,List.length_map,if_pos ht]
   rw [e]
   exact z6v C a cap M hM hl hmx hb' _ rfl ht
end Go.Proofs.YtjejnlebpcjidaaGreatDoor
namespace Go.Proofs.YtjejnlebpcjidaaGreatDoor
open Go.RowKit Plain
theorem part5 (X:List Int) (i:Nat) (h:i<X.length) (w:World):(part 5 (u8s X) (i*Tryz.prog.cellsOf 5)).run Tryz.prog w=.ok (.int .u8 (X.getD i 0)) w:=by
 have hc:Tryz.prog.cellsOf 5=1:=by kernel_rfl
 have hagg:(isAgg 5).run Tryz.prog w=.ok false w:=by kernel_rfl
 have hv:(u8s X)[i]?=some (.int .u8 (X.getD i 0)):=by simp [u8s,h]
 rw [hc,Nat.mul_one]
 simp [part,Sem.run_bind,hagg,hv]
theorem z5r (d n:Nat) (X Y:List Int) (w:World) (hX:X.length=n) (hY:Y.length=n):∀is:List Nat,(∀i∈is,i<n)->(Op.eqItems (d+1) 5 (Tryz.prog.cellsOf 5) (u8s X) (u8s Y) is).run Tryz.prog w=.ok (is.all fun i=>X.getD i 0==Y.getD i 0) w
 | [],_=>by simp [Op.eqItems]
 | i::is,h=>by
  have ih:=z5r d n X Y w hX hY is (fun j hj=>h j (List.mem_cons_of_mem _ hj))
  have hi:=h i List.mem_cons_self
  have e:=run_equalIn_int (P:=Tryz.prog) w d 5 .u8 .u8 (X.getD i 0) (Y.getD i 0) Tryz.underlying5
  simp only [Op.eqItems,Sem.run_bind,part5 X i (by omega),part5 Y i (by omega),Result.andThen_ok,e,List.all_cons]
  cases hq:(X.getD i 0==Y.getD i 0)
  ·simp
  ·simpa using ih
theorem all_eq (n:Nat) (X Y:List Int) (hX:X.length=n) (hY:Y.length=n):((List.range n).all fun i=>X.getD i 0==Y.getD i 0)=decide (X=Y):=by
 rw [Bool.eq_iff_iff,List.all_eq_true,decide_eq_true_iff]
 constructor
 ·intro h
  apply List.ext_getElem (by omega)
  intro i h1 h2
  have:=h i (by simp;omega)
  simpa [List.getD,h1,h2] using this
 ·rintro rfl i _
  simp
theorem eq_sumIn (d:Nat) (X Y:List Int) (hX:X.length=32) (hY:Y.length=32) (w:World):(Op.equalIn (d+1+1) 23 (.agg (u8s X)) (.agg (u8s Y))).run Tryz.prog w=.ok (decide (X=Y)) w:=by
 obtain ⟨i0,hi,_⟩:=info_parts info5
 rw [run_equalIn_array w (d+1) (u8s X) (u8s Y) Tryz.underlying23 hi,z5r d 32 X Y w hX hY _ (by simp),all_eq 32 X Y hX hY]
theorem guardSum:Tryz.prog.eqGuardType Tryz.prog.depth 23=false:=by kernel_rfl
theorem q9y {o:Oper} {ρ:Operand->Value} {w':World} (x y:Operand) (ty:TypeId) (ho:o.op=.binOp .neq 23 x y ty) (X Y:List Int) (hX:X.length=32) (hY:Y.length=32) (b:Bool) (hb:(!decide (X=Y))=b) (hx:ρ x=.agg (u8s X)) (hy:ρ y=.agg (u8s Y)):
  (execOp ρ o).run Tryz.prog w'=.ok (.value (.bool b)) w':=by
 have e:(binOp .neq 23 (.agg (u8s X)) (.agg (u8s Y))).run Tryz.prog w'=.ok (.bool (!decide (X=Y))) w':=by
  rw [run_neq_struct,eq_sumIn 9998 X Y hX hY];rfl
 unfold execOp
 simp only [ho,hx,hy,Sem.run_bind,run_eqGuard_agg w' .neq 23 x y _ _ guardSum,e,Result.andThen_ok,hb]
 rfl
attribute [local go_sem] Oper.semAt_some
def k1:List Int:=1::List.replicate 31 0
theorem z3k:k1.length=32:=by simp [k1]
theorem z1n:Byt k1:=fun i=>by
 cases i with
 | zero=>decide
 | succ i=>simpa [k1] using q2g 31 i
theorem z0p:Tryz.prog.built 23 [(0,.int .u8 1)]=some (u8s k1):=by kernel_rfl
theorem z1p {o:Oper} {ρ:Operand->Value} {w:World} (l c:Operand) (ho:o.op=.makeSlice 57 l c) (hl:ρ l=.int .i64 160) (hc:ρ c=.int .i64 160):
  (execOp ρ o).run Tryz.prog w=.ok (.value (.slice (some ⟨w.heap.size,0,none⟩) 160 160)) (w.alloc (.cells (u8s z160) 5)):=by
 have:=Disk.q3u (P:=Tryz.prog) (o:=o) (ρ:=ρ) (w:=w) 57 5 l c ho (.int .u8 0) 1 1 Tryz.underlying57 info5 160 hl hc (by decide) (by decide)
 have e:madeCells (Value.int .u8 0).cells (160*1)=u8s z160:=Disk.q9x 160
 rw [e] at this
 exact this
theorem z3o {w:World} {g:Nat} {M:List Im} {t:TypeId} {fr:Nat × Nat} (h:w.heap[g]?=some (.cells ((M.map imc).flatten).toArray t fr)) (hb:∀m∈M,Bytes w m.ba m.bl m.bs/\N64 m.blk/\m.bl<=m.bc/\m.bc<=maxLen):Imgs w (some ⟨g,0,none⟩) M:=by
 refine ⟨fun _=>⟨g,0,rfl,(gE h),fun i hi j v hv=>?_⟩,hb⟩
 have hj:j<2:=by have:=(List.getElem?_eq_some_iff.1 hv).1;simpa [imc] using this
 rw [cell_of_row _ _ _ _ _ _ h,Nat.zero_add,List.getElem?_toArray,q6o imc 2 (fun _=>rfl) M i hi j hj]
 exact hv
theorem ap_one (j:Jt) (d:Disk.Dk) (x:Int × List Int) (hx:x.2.length=160) (h1:j.st.count+1<=j.size) (h2:j.nx+1<=j.lim) (hd:d.down=false) (hs:d.st=false):
  appM j d [x]=(Disk.wrOk d (plc j (j.st.start+j.st.count)) (slt j.key (plc j (j.st.start+j.st.count):Int) j.nx (x,true)),j.nx+1,0,nxS j j.st (plc j (j.st.start+j.st.count)) (slt j.key (plc j (j.st.start+j.st.count):Int) j.nx (x,true))):=by
 have hb:bad [x]=false:=by simp [bad,hx]
 have ht:tke j [x].length=0:=by
  unfold tke
  rw [if_neg (by simp;omega),if_neg (by simp;omega)]
 have ho:ofP [x]=[(x,true)]:=by simp [ofP]
 have hw:∀p S,dwr d p S=(Disk.wrOk d p S,0):=fun p S=>by simp [dwr,hd,hs]
 have ha:apL j (d,j.nx,0,j.st) [(x,true)]=(Disk.wrOk d (plc j (j.st.start+j.st.count)) (slt j.key (plc j (j.st.start+j.st.count):Int) j.nx (x,true)),j.nx+1,0,nxS j j.st (plc j (j.st.start+j.st.count)) (slt j.key (plc j (j.st.start+j.st.count):Int) j.nx (x,true))):=by
  show apS j (d,j.nx,0,j.st) (x,true)=_
  unfold apS apT apP
  simp [hw]
 unfold appM
 rw [if_neg (by rw [hb];simp),if_neg (fun h=>h ht),ho,ha]
 simp
def j1:Jt:=⟨k1,1,2,zs,1,100⟩
def x3:Int × List Int:=(3,z160)
end Go.Proofs.YtjejnlebpcjidaaGreatDoor
namespace Go.Proofs.YtjejnlebpcjidaaGreatDoor
open Go.ChangeShapes Go.WideShapes Go.RowKit Go.Proofs.YtjejnlebpcjidaaGreatDoor.Plain
theorem q8s {α:Type} (P:Nat->α->Prop):∀n:Nat,(∀i,i<n->∃x,P i x)->∃L:List α,L.length=n/\∀i (hi:i<L.length),P i L[i]
 | 0,_=>⟨[],rfl,fun i hi=>by simp at hi⟩
 | n+1,h=>by
  obtain ⟨L,h1,h2⟩:=q8s P n (fun i hi=>h i (by omega))
  obtain ⟨x,hx⟩:=h n (by omega)
  refine ⟨L++[x],by simp [h1],fun i hi=>?_⟩
  by_cases e:i<L.length
  ·rw [List.getElem_append_left e]
   exact h2 i e
  ·have:i=L.length:=by simp at hi;omega
   subst this
   rw [List.getElem_append_right (Nat.le_refl _)]
   simp only [Nat.sub_self,List.getElem_cons_zero]
   rw [h1]
   exact hx
theorem cellsU:Tryz.prog.cellsOf 25=1:=by kernel_rfl
theorem cellsX:Tryz.prog.cellsOf 57=1:=by kernel_rfl
theorem cellsIm:Tryz.prog.cellsOf 79=2:=by kernel_rfl
def Byi (w:World) (m:Im):Prop:=Bytes w m.ba m.bl m.bs/\N64 m.blk/\m.bl<=m.bc/\m.bc<=maxLen
theorem z3v {H:Type} {enc:TypeId × Value->H} {W:World} {base:Nat} {held:Bool} {fuel:Nat} {cs:List Value} {x:DataW H × List MemPlace} (h:DataW.trod enc Tryz.prog W base (fun _=>true) held fuel 79 cs=some x):∃m:Im,cs=imc m/\Byi W m:=by
 obtain ⟨xs,k,hk,hxy,hl,hxl,hf⟩:=DataW.trod_struct Tryz.underlying79 h
 rw [cellsIm] at hl
 have hxl2:xs.length=2:=hxl
 match xs,hxl2,cs,hl with
 | [y0,y1],_,[v0,v1],_=>
  have g0:=hf 0 _ rfl
  have g1:=hf 1 _ rfl
  simp [cellsU,cellsX] at g0 g1
  obtain ⟨z,e0,_,wz⟩:=DataW.trod_int Tryz.underlying25 g0
  simp only [List.cons.injEq,and_true] at e0
  subst e0
  have hb:=bounds_u64 wz
  obtain ⟨xa,xl,xc,X,rfl,hX,h1,h2⟩:∃xa xl xc X,v1=.slice xa xl xc/\Bytes W xa xl X/\xl<=xc/\xc<=maxLen:=by
   rcases open_ints Tryz.underlying57 Tryz.underlying5 (by kernel_rfl) g1 with ⟨hcs,_⟩ | ⟨x,l,c,zs,hcs,_,hl2,hm2,hz2,_,hcell2,hwz2⟩
   ·simp only [List.cons.injEq,and_true] at hcs
    subst hcs
    exact ⟨none,0,0,[],rfl,⟨rfl,fun i=>by simp,fun h=>by omega⟩,by decide,by decide⟩
   ·simp only [List.cons.injEq,and_true] at hcs
    subst hcs
    have hr:IsRow .u8 W (some x) l c zs:=.inr ⟨_,rfl,hl2,hm2,by simpa using hz2,hcell2,hwz2⟩
    exact ⟨_,_,_,_,rfl,hr.bytes,hl2,hm2⟩
  exact ⟨⟨z,xa,xl,xc,X⟩,rfl,hX,⟨by show 0<=z;omega,by show z<=18446744073709551615;omega⟩,h1,h2⟩
theorem z5f (b o i j:Nat):((⟨b,o,none⟩:Addr).add i).add j=⟨b,o+i+j,none⟩:=by
 rw [Addr.add_lit,Addr.add_lit]
theorem z4z {H:Type} {enc:TypeId × Value->H} {W:World} {base:Nat} {held:Bool} {fuel:Nat} {a:Option Addr} {len cap:Nat} {x:DataW H × List MemPlace} (h:DataW.trod enc Tryz.prog W base (fun _=>true) held fuel 47 [.slice a len cap]=some x):∃M:List Im,M.length=len/\Imgs W a M/\len<=maxLen:=by
 rcases Go.Deep.open_slice Tryz.underlying47 h with ⟨hcs,_⟩ | ⟨ad,l,c,m,n,D,Pl,hcs,hb,hl,hm,hmm,hx,hi⟩
 ·simp only [List.cons.injEq,Value.slice.injEq,and_true] at hcs
  obtain ⟨rfl,rfl,rfl⟩:=hcs
  exact ⟨[],rfl,⟨fun h=>by simp at h,fun m hm=>by simp at hm⟩,by decide⟩
 ·simp only [List.cons.injEq,Value.slice.injEq,and_true] at hcs
  obtain ⟨rfl,rfl,rfl⟩:=hcs
  simp only [if_true] at hmm
  subst hmm
  rw [cellsIm] at hi
  by_cases h0:len=0
  ·subst h0
   exact ⟨[],rfl,⟨fun h=>by simp at h,fun m hm=>by simp at hm⟩,by decide⟩
  obtain ⟨b,o,rfl⟩:∃b o,ad=⟨b,o,none⟩:=by
   obtain ⟨cs',h1,_⟩:=hi 0 (by omega)
   obtain ⟨_,hlen,hcell⟩:=World.cells?_some h1
   have h2:=hcell 0 (by omega)
   obtain ⟨b,o,l⟩:=ad
   cases l with
   | none=>exact ⟨b,o,rfl⟩
   | some l=>
    have h3:(cs'[0]?).isSome=true:=by simp [hlen]
    rw [<-h2] at h3
    simp [Addr.add,World.cell?] at h3
    split at h3<;>simp at h3
  obtain ⟨M,hM,hP⟩:=q8s (fun i m=>W.rangeAt b (o+i*2) (imc m)/\Byi W m/\b<W.heap.size) len (fun i hil=>by
   obtain ⟨cs',h1,h2⟩:=hi i (by omega)
   obtain ⟨m,rfl,ok⟩:=z3v h2
   obtain ⟨_,hlen,hcell⟩:=World.cells?_some h1
   have hr:W.rangeAt b (o+i*2) (imc m):=fun j v hv=>by
    have hj:j<2:=(List.getElem?_eq_some_iff.1 hv).1
    have h3:=hcell j hj
    rw [z5f,hv] at h3
    exact h3
   exact ⟨m,hr,ok,z1e (hr 0 _ rfl)⟩)
  refine ⟨M,hM,⟨fun hp=>⟨b,o,rfl,(hP 0 hp).2.2,fun i hi'=>(hP i hi').1⟩,fun m hm=>?_⟩,Nat.le_trans hl hm⟩
  obtain ⟨i,hi',rfl⟩:=List.getElem_of_mem hm
  exact (hP i hi').2.1
structure Sx where
 a:Option Addr
 l:Nat
 c:Nat
 M:List Im
def slc (x:Sx):List Value:=[.slice x.a x.l x.c]
structure Igss (w:World) (a:Option Addr) (X:List Sx):Prop where
 tb:Tb w a 1 slc X
 im:∀x∈X,x.M.length=x.l/\Imgs w x.a x.M/\x.l<=maxLen
theorem Igss.below {w w':World} {a:Option Addr} {X:List Sx} (h:Igss w a X) (hb:Below w.heap.size w w'):Igss w' a X:=
 ⟨h.tb.below hb,fun x hx=>⟨(h.im x hx).1,(h.im x hx).2.1.below hb,(h.im x hx).2.2⟩⟩
theorem cellsSl:Tryz.prog.cellsOf 47=1:=by kernel_rfl
theorem z3g {H:Type} {enc:TypeId × Value->H} {W:World} {base:Nat} {held:Bool} {fuel:Nat} {a:Option Addr} {len cap:Nat} {x:DataW H × List MemPlace} (h:DataW.trod enc Tryz.prog W base (fun _=>true) held fuel 24 [.slice a len cap]=some x):∃X:List Sx,X.length=len/\Igss W a X/\len<=maxLen:=by
 rcases Go.Deep.open_slice Tryz.underlying24 h with ⟨hcs,_⟩ | ⟨ad,l,c,m,n,D,Pl,hcs,hb,hl,hm,hmm,hx,hi⟩
 ·simp only [List.cons.injEq,Value.slice.injEq,and_true] at hcs
  obtain ⟨rfl,rfl,rfl⟩:=hcs
  exact ⟨[],rfl,⟨fun h=>by simp at h,fun m hm=>by simp at hm⟩,by decide⟩
 ·simp only [List.cons.injEq,Value.slice.injEq,and_true] at hcs
  obtain ⟨rfl,rfl,rfl⟩:=hcs
  simp only [if_true] at hmm
  subst hmm
  rw [cellsSl] at hi
  by_cases h0:len=0
  ·subst h0
   exact ⟨[],rfl,⟨fun h=>by simp at h,fun m hm=>by simp at hm⟩,by decide⟩
  obtain ⟨b,o,rfl⟩:∃b o,ad=⟨b,o,none⟩:=by
   obtain ⟨cs',h1,_⟩:=hi 0 (by omega)
   obtain ⟨_,hlen,hcell⟩:=World.cells?_some h1
   have h2:=hcell 0 (by omega)
   obtain ⟨b,o,l⟩:=ad
   cases l with
   | none=>exact ⟨b,o,rfl⟩
   | some l=>
    have h3:(cs'[0]?).isSome=true:=by simp [hlen]
    rw [<-h2] at h3
    simp [Addr.add,World.cell?] at h3
    split at h3<;>simp at h3
  obtain ⟨X,hX,hP⟩:=q8s (fun i (x:Sx)=>W.rangeAt b (o+i*1) (slc x)/\(x.M.length=x.l/\Imgs W x.a x.M/\x.l<=maxLen)/\b<W.heap.size) len (fun i hil=>by
   obtain ⟨cs',h1,h2⟩:=hi i (by omega)
   obtain ⟨_,hlen,hcell⟩:=World.cells?_some h1
   match cs',hlen with
   | [v],_=>
    obtain ⟨sa,sl,sc,rfl⟩:∃sa sl sc,v=.slice sa sl sc:=by
     rcases Go.Deep.open_slice Tryz.underlying47 h2 with ⟨hcs,_⟩ | ⟨ad',l',c',_,_,_,_,hcs,_⟩
     ·simp only [List.cons.injEq,and_true] at hcs
      exact ⟨_,_,_,hcs⟩
     ·simp only [List.cons.injEq,and_true] at hcs
      exact ⟨_,_,_,hcs⟩
    obtain ⟨M,hM,hI,hml⟩:=z4z h2
    have hr:W.rangeAt b (o+i*1) (slc ⟨sa,sl,sc,M⟩):=fun j v hv=>by
     have hj:j<1:=(List.getElem?_eq_some_iff.1 hv).1
     have h3:=hcell j hj
     rw [z5f] at h3
     exact h3.trans hv
    exact ⟨⟨sa,sl,sc,M⟩,hr,⟨hM,hI,hml⟩,z1e (hr 0 _ rfl)⟩)
  refine ⟨X,hX,⟨fun hp=>⟨b,o,rfl,(hP 0 hp).2.2,fun i hi'=>(hP i hi').1⟩,fun m hm=>?_⟩,Nat.le_trans hl hm⟩
  obtain ⟨i,hi',rfl⟩:=List.getElem_of_mem hm
  exact (hP i hi').2.1
end Go.Proofs.YtjejnlebpcjidaaGreatDoor
namespace Go.Proofs.YtjejnlebpcjidaaGreatDoor
open Go.RowKit Plain Go.WideShapes
theorem gFirst : Tryz.prog.globalNamed "reliquary/digest.first" = some 0 := by kernel_rfl
theorem gRounds : Tryz.prog.globalNamed "reliquary/digest.rounds" = some 1 := by kernel_rfl
theorem gQuart : Tryz.prog.globalNamed "reliquary/cipher.quarters" = some 2 := by kernel_rfl
theorem tFirst:(Tryz.prog.globals[0]?).map (·.type)=some 179:=by kernel_rfl
theorem tRounds:(Tryz.prog.globals[1]?).map (·.type)=some 202:=by kernel_rfl
theorem tQuart:(Tryz.prog.globals[2]?).map (·.type)=some 237:=by kernel_rfl
def quads:List (List Int):=[[0,4,8,12],[1,5,9,13],[2,6,10,14],[3,7,11,15],[0,5,10,15],[1,6,11,12],[2,7,8,13],[3,4,9,14]]
def laid3 : List (String × DataW Unit) := [("reliquary/digest.first", Lib.tabData .u32 Dig.Plain.hh), ("reliquary/digest.rounds", Lib.tabData .u32 Dig.Plain.kk), ("reliquary/cipher.quarters", .agg (quads.map (Lib.tabData .i64)))]
theorem q9m {w:World} {b o:Nat} {v:Value} (h:w.cell? ⟨b,o,none⟩=some v):b<w.heap.size:=by
 apply Nat.lt_of_not_le
 intro hle
 simp [World.cell?,Array.getElem?_eq_none hle] at h
theorem quads_at (i:Nat) (h:i<32):(quads.getD (i / 4) []).getD (i%4) 0=Seal.Plain.qt.getD i 0/\(quads.getD (i / 4) []).length=4:=by
 have key:∀k:Fin 32,(quads.getD (k.val / 4) []).getD (k.val%4) 0=Seal.Plain.qt.getD k.val 0/\(quads.getD (k.val / 4) []).length=4:=by decide +kernel
 exact key ⟨i,h⟩
theorem z2g {W:World} (h:laidMetH Tryz.prog laid3 W):Dig.Tabs W/\Seal.Tab W:=by
 have h':laidMet Tryz.prog laid3 W:=h
 obtain ⟨ps,⟨g0,t0,cs0,f0,p0,q0,hg0,ht0,hv0,hd0,⟨g1,t1,cs1,f1,p1,q1,hg1,ht1,hv1,hd1,⟨g2,t2,cs2,f2,p2,q2,hg2,ht2,hv2,hd2,_,_⟩,_⟩,_⟩,_,_⟩:=h'
 obtain rfl:=Option.some.inj (gFirst.symm.trans hg0)
 obtain rfl:=Option.some.inj (gRounds.symm.trans hg1)
 obtain rfl:=Option.some.inj (gQuart.symm.trans hg2)
 obtain rfl:=Option.some.inj (tFirst.symm.trans ht0)
 obtain rfl:=Option.some.inj (tRounds.symm.trans ht1)
 obtain rfl:=Option.some.inj (tQuart.symm.trans ht2)
 have e0 : Lib.TabIs Tryz.prog W "reliquary/digest.first" .u32 Dig.Plain.hh := by
  unfold Lib.TabIs
  rw [hv0,<-Lib.cells_of_tab Tryz.underlying179 Tryz.underlying76 (by kernel_rfl) (by kernel_rfl) hd0]
 have e1 : Lib.TabIs Tryz.prog W "reliquary/digest.rounds" .u32 Dig.Plain.kk := by
  unfold Lib.TabIs
  rw [hv1,<-Lib.cells_of_tab Tryz.underlying202 Tryz.underlying76 (by kernel_rfl) (by kernel_rfl) hd1]
 obtain ⟨xs,m,_,hx,hl,hn,hel⟩:=DataW.trod_array Tryz.underlying237 hd2
 have hc4:Tryz.prog.cellsOf 236=4:=by kernel_rfl
 have hx1:xs.map (·.1)=quads.map (Lib.tabData .i64):=by
  have:=congrArg Prod.fst hx
  simp only [DataW.agg.injEq] at this
  exact this.symm
 have hrow:∀j,j<8->(cs2.toList.drop (j*4)).take 4=(quads.getD j []).map fun z=>Value.int .i64 z:=by
  intro j hj
  have h1:=hel j hj
  rw [hc4] at h1
  obtain ⟨y,hy⟩:∃y,xs[j]?=some y:=⟨xs[j]'(by omega),by simp [hn,hj]⟩
  rw [hy] at h1
  obtain ⟨y1,y2⟩:=y
  have e1:y1=Lib.tabData .i64 (quads.getD j []):=by
   have h2:(xs.map (·.1))[j]?=some y1:=by simp [hy]
   rw [hx1] at h2
   have hq:j<quads.length:=hj
   simp only [List.getElem?_map,List.getElem?_eq_getElem hq,Option.map_some,Option.some.injEq] at h2
   rw [<-h2]
   simp [List.getD,hq]
  subst e1
  exact Lib.cells_of_tab Tryz.underlying236 Tryz.underlying3 (by kernel_rfl) (by kernel_rfl) h1
 have hcell:∀i,i<32->W.cell? ⟨2,i,none⟩=some (.int .i64 (Seal.Plain.qt.getD i 0)):=by
  intro i hi
  have h1:=hrow (i / 4) (by omega)
  have h2:=congrArg (·[i%4]?) h1
  simp only [List.getElem?_take,List.getElem?_drop,List.getElem?_map] at h2
  rw [if_pos (by omega),show i / 4*4+i%4=i by omega] at h2
  obtain ⟨q1,q2⟩:=quads_at i hi
  have q3:(quads.getD (i / 4) [])[i%4]?=some (Seal.Plain.qt.getD i 0):=by
   rw [<-q1]
   have:i%4<(quads.getD (i / 4) []).length:=by omega
   generalize quads.getD (i / 4) []=Q at this ⊢
   simp [List.getD,this]
  rw [q3] at h2
  have h3:=World.var?_cell gQuart hv2 i
  rw [h3]
  simpa using h2
 refine ⟨⟨?_,fun i hi=>e0.cell gFirst i hi,fun i hi=>e1.cell gRounds i hi⟩,q9m (hcell 0 (by omega)),hcell⟩
 have:=q9m (e1.cell gRounds 0 (by decide))
 omega
def putTab (cs:Array Value):Obj->Obj
 | .cells _ t frozen=>.cells cs t frozen
 | o=>o
noncomputable def laidWorld (os:Os):World:=
 {World.holding Tryz.prog os ⟨#[],#[],[]⟩ with heap:=(((World.holding Tryz.prog os ⟨#[],#[],[]⟩).heap.modify 0 (putTab (u32s Dig.Plain.hh))).modify 1 (putTab (u32s Dig.Plain.kk))).modify 2 (putTab (Seal.Plain.qt.map (Value.int .i64)).toArray)}
def numOf:Option Value->Int
 | some (.int _ z)=>z
 | _=>0
theorem cells5:Tryz.prog.cellsOf 5=1:=by kernel_rfl
theorem cellsS:Tryz.prog.cellsOf 23=32:=by kernel_rfl
theorem z2q {H:Type} {enc:TypeId × Value->H} {W:World} {base:Nat} {sp:Nat->Bool} {held:Bool} {fuel:Nat} {cs:List Value} {x:DataW H × List MemPlace} (h:DataW.trod enc Tryz.prog W base sp held fuel 23 cs=some x):∃D:List Int,cs=D.map (Value.int .u8)/\D.length=32/\Byt D:=by
 obtain ⟨xs,m,_,_,hl,hn,hel⟩:=DataW.trod_array Tryz.underlying23 h
 rw [cellsS] at hl
 have key:∀i,i<32->∃z,cs[i]?=some (.int .u8 z)/\0<=z/\z<=255:=by
  intro i hi
  have:=hel i hi
  rw [cells5,Nat.mul_one] at this
  have hx:∃y,xs[i]?=some y:=⟨xs[i]'(by omega),by simp [hn,hi]⟩
  obtain ⟨y,hy⟩:=hx
  rw [hy] at this
  obtain ⟨z,hz,_,hw⟩:=DataW.trod_int Tryz.underlying5 this
  have hb:=bounds_u8 hw
  refine ⟨z,?_,by omega,by omega⟩
  have h1:=congrArg (·[0]?) hz
  simpa [List.getElem?_take,List.getElem?_drop] using h1
 refine ⟨(List.range 32).map fun i=>numOf cs[i]?,?_,by simp,?_⟩
 ·apply List.ext_getElem
  ·simp [hl]
  ·intro i h1 h2
   obtain ⟨z,hz,_⟩:=key i (by omega)
   have:cs[i]=.int .u8 z:=by
    rw [List.getElem?_eq_getElem h1] at hz
    exact Option.some.inj hz
   simp [this,hz,numOf]
 ·intro i
  by_cases hi:i<32
  ·obtain ⟨z,hz,h0,h1⟩:=key i hi
   simp [hi,hz,h0,h1,numOf]
  ·simp [hi]
theorem open_sum {H:Type} {enc:TypeId × Value->H} {W:World} {base:Nat} {v:Value} {d:DataW H} {p:List MemPlace} (hval:Value.okWide Tryz.prog W .any base 23 v) (h:DataW.Trod enc Tryz.prog W 0 (fun _=>true) true 23 v d p):
  ∃D:List Int,v=.agg (u8s D)/\D.length=32/\Byt D:=by
 simp only [Value.okWide,Tryz.underlying23] at hval
 obtain ⟨cs,rfl,h2,_⟩:=hval
 obtain ⟨fuel,hf⟩:=h
 have hcs:(Value.agg cs).cells=cs:=rfl
 rw [hcs] at hf
 obtain ⟨D,hD,l,b⟩:=z2q hf
 exact ⟨D,by rw [u8s,<-hD],l,b⟩
theorem cellsSt:Tryz.prog.cellsOf 27=34:=by kernel_rfl
theorem cellsU64:Tryz.prog.cellsOf 25=1:=by kernel_rfl
theorem z3t {H:Type} {enc:TypeId × Value->H} {W:World} {base:Nat} {sp:Nat->Bool} {held:Bool} {fuel:Nat} {cs:List Value} {x:DataW H × List MemPlace} (h:DataW.trod enc Tryz.prog W base sp held fuel 27 cs=some x):∃s:Jst,cs=scs s/\OkS s:=by
 obtain ⟨xs,k,hk,hxy,hl,hxl,hf⟩:=DataW.trod_struct Tryz.underlying27 h
 rw [cellsSt] at hl
 have hxl2:xs.length=3:=hxl
 match xs,hxl2 with
 | [y0,y1,y2],_=>
  have g0:DataW.trod enc Tryz.prog W base sp held k 25 ((cs.drop 0).take (Tryz.prog.cellsOf 25))=some y0:=hf 0 _ rfl
  have g1:DataW.trod enc Tryz.prog W base sp held k 25 ((cs.drop 1).take (Tryz.prog.cellsOf 25))=some y1:=hf 1 _ rfl
  have g2:DataW.trod enc Tryz.prog W base sp held k 23 ((cs.drop 2).take (Tryz.prog.cellsOf 23))=some y2:=hf 2 _ rfl
  rw [cellsU64] at g0 g1
  rw [cellsS] at g2
  obtain ⟨z0,e0,_,w0⟩:=DataW.trod_int Tryz.underlying25 g0
  obtain ⟨z1,e1,_,w1⟩:=DataW.trod_int Tryz.underlying25 g1
  obtain ⟨d,e2,ld,bd⟩:=z2q g2
  have b0:=bounds_u64 w0
  have b1:=bounds_u64 w1
  obtain ⟨n0,rfl⟩:=Int.eq_ofNat_of_zero_le b0.1
  obtain ⟨n1,rfl⟩:=Int.eq_ofNat_of_zero_le b1.1
  refine ⟨⟨n0,n1,d⟩,?_,⟨ld,bd,by show n0<=_;omega,by show n1<=_;omega⟩⟩
  have st:∀p q,(cs.drop p).take q++cs.drop (p+q)=cs.drop p:=fun p q=>by rw [<-List.drop_drop,List.take_append_drop]
  have s0:=st 0 1
  have s1:=st 1 1
  have s2:=st 2 32
  rw [List.drop_zero] at s0 e0
  rw [e0] at s0
  rw [e1] at s1
  rw [e2,List.drop_of_length_le (show cs.length<=2+32 by omega),List.append_nil] at s2
  rw [<-s0,<-s1,<-s2]
  rfl
theorem z7f {H:Type} {enc:TypeId × Value->H} {W:World} {base:Nat} {v:Value} {d:DataW H} {p:List MemPlace} (hval:Value.okWide Tryz.prog W .any base 27 v) (h:DataW.Trod enc Tryz.prog W 0 (fun _=>true) true 27 v d p):
  ∃s:Jst,v=.agg (sa s)/\OkS s:=by
 simp only [Value.okWide,Tryz.underlying27] at hval
 obtain ⟨cs,rfl,h2,_⟩:=hval
 obtain ⟨fuel,hf⟩:=h
 have hcs:(Value.agg cs).cells=cs:=rfl
 rw [hcs] at hf
 obtain ⟨s,hs,ok⟩:=z3t hf
 exact ⟨s,by rw [sa,<-hs],ok⟩
end Go.Proofs.YtjejnlebpcjidaaGreatDoor
