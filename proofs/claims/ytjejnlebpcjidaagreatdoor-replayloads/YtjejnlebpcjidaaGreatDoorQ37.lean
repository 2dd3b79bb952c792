/-
 The reference's Load answers as the document says: the changes of a journal, or that they aren't those that were written.
-/
import Derived.Test.YtjejnlebpcjidaaGreatDoorQ01
import Derived.Test.YtjejnlebpcjidaaGreatDoorQ36
set_option linter.unusedVariables false
set_option maxRecDepth 100000
set_option maxRecDepth 100000
namespace Go.Proofs.YtjejnlebpcjidaaGreatDoor
open Go.RowKit Plain
def RLd (d:Disk.Dk) (K:List Int) (f n:Nat) (s:Jst) (w w':World) (e:Ending):Prop:=
 (¬LGood d K f n s/\∃V':List Value,(V'.length=6/\V'.toArray.all (·.oneCell')=true)/\e=.returned (.tuple #[.agg V'.toArray,.slice none 0 0,.int .i64 14]))∨(LGood d K f n s/\∃(V':List Value) (u:Value) (Wn:List Wx),(V'.length=6/\V'.toArray.all (·.oneCell')=true)/\e=.returned (.tuple #[.agg V'.toArray,u,.int .i64 0])/\w'.ownsRow w.heap.size 53 1 u Wn.length (Wn.map wsl).flatten/\(∀x∈Wn,x.P.length=x.l/\w'.ownsRow w.heap.size 105 2 (.slice x.a x.l x.c) x.l (x.P.map ic).flatten)/\Wn.map (·.P)=ldC d K f n s)
theorem own_str {w:World} {B n:Nat} {v:Value} {X:List (List Int)} (h:w.ownsRow B 9 1 v n (strs X)) (h0:0<n):∃g cap,v=.slice (some ⟨g,0,none⟩) n cap/\∀i (hi:i<X.length),w.cell? ⟨g,i,none⟩=some (.string (strOfNums X[i])):=by
 have h':=h
 rcases h.2 with ⟨_,h3⟩ | ⟨g,cap,cur,h3,_,hg,_⟩
 ·omega
 ·refine ⟨g,cap,h3,fun i hi=>?_⟩
  have hc:=World.ownsRow.cells h' (g:=g) (by rw [h3];rfl) i (.string (strOfNums X[i])) (by simp [strs,hi])
  simpa [Addr.add_lit] using hc
theorem z3d {op:Oper} {ρ:Operand->Value} {w':World} (x y:Operand) (ho:op.op=.indexAddr 131 x y) (b len cap j:Nat) (hx:ρ x=.slice (some ⟨b,0,none⟩) len cap) (hy:ρ y=.int .i64 (j:Int)) (hj:j<len):
  (execOp ρ op).run Tryz.prog w'=.ok (.value (.pointer (some ⟨b,j,none⟩))) w':=by
 have hc:(0:Int)<=(j:Int)/\(j:Int)<(len:Int):=by omega
 have hs:Tryz.prog.elem 131=9:=by kernel_rfl
 unfold execOp
 simp [ho,hx,hy,Instr.indexAt,asIntOf,Sem.run_bind,run_underlying Tryz.underlying131,hc,Addr.add_mid]
 intro hh;omega
structure L2 (w wr:World) (S:Nat) (K:List Int) (s:Jst) (d:Disk.Dk) (f n i:Nat) (v:Value) (V:List Value) (ga:Option Addr) (cap ct:Nat):Prop where
 lz:Lz w wr S V K s
 l6:V.length=6
 a6:V.toArray.all (·.oneCell')=true
 str:wr.ownsRow w.heap.size 9 1 (.slice ga ct cap) ct (strs (lts d f n s.start ct))
 row:wr.ownsRow w.heap.size 107 3 v i (((ldk d f n s.start ct).take i).map fun x=>rrc (opR K x)).flatten
theorem L2.below {w wr y:World} {S:Nat} {K:List Int} {s:Jst} {d:Disk.Dk} {f n i:Nat} {v:Value} {V:List Value} {ga:Option Addr} {cap ct:Nat} (h:L2 w wr S K s d f n i v V ga cap ct) (hb:Below wr.heap.size wr y):L2 w y S K s d f n i v V ga cap ct:=
 ⟨h.lz.below hb,h.l6,h.a6,q0j h.str (fun q hq=>hb.block q (h.str.lt q hq).2),q0j h.row (fun q hq=>hb.block q (h.row.lt q hq).2)⟩
theorem L2.at {w wr:World} {S:Nat} {K:List Int} {s:Jst} {d:Disk.Dk} {f n i:Nat} {v:Value} {V:List Value} {ga:Option Addr} {cap ct:Nat} (h:L2 w wr S K s d f n i v V ga cap ct) (j:Nat) (hj:j<ct):∃g,ga=some ⟨g,0,none⟩/\wr.cell? ⟨g,j,none⟩=some (.string (strOfNums (Disk.lat d (f+(s.start+j)%n)))):=by
 obtain ⟨g',cap',e,hc⟩:=own_str h.str (by omega)
 simp only [Value.slice.injEq,true_and] at e
 have hl:j<(lts d f n s.start ct).length:=by rw [z7a];exact hj
 refine ⟨g',e.1,?_⟩
 rw [hc j hl]
 simp [lts,pcs]
theorem L2.cell {w wr:World} {S:Nat} {K:List Int} {s:Jst} {d:Disk.Dk} {f n i:Nat} {v:Value} {V:List Value} {g cap ct:Nat} {B:List Int} (h:L2 w wr S K s d f n i v V (some ⟨g,0,none⟩) cap ct) (j:Nat) (hj:j<ct) (hB:Disk.lat d (f+(s.start+j)%n)=B):wr.cell? ⟨g,j,none⟩=some (.string (strOfNums B)):=by
 obtain ⟨g',e,hc⟩:=h.at j hj
 simp only [Option.some.injEq,Addr.mk.injEq,and_true] at e
 subst e
 rw [hc,hB]
theorem infoR3:(Tryz.prog.info? 107).map (·.size)=some 3:=by kernel_rfl
theorem z7u (L:List Int) (hL:Byt L) (hl:L.length=176) (hn:¬fitR L):∃zr:Array Value,Box (zr.size=3/\zr.all (·.oneCell')=true/\∀x,Calls Tryz.prog 59 #[.string (strOfNums L)] x fun e w'=>e=.returned (.tuple #[.agg zr,.int .i64 11])/\Below x.heap.size x w'):=
 ⟨#[.int .u64 0,.string ByteArray.empty,.bool false],⟨rfl,by simp [Value.oneCell'],fun x=>rrget_no L hL (by omega) hn x⟩⟩
theorem L2.more {w wr y:World} {S:Nat} {K:List Int} {s:Jst} {d:Disk.Dk} {f n i:Nat} {v v':Value} {V:List Value} {ga:Option Addr} {cap ct:Nat} (h:L2 w wr S K s d f n i v V ga cap ct) (ho:y.ownsRow w.heap.size 107 3 v' (i+1) (((ldk d f n s.start ct).take (i+1)).map fun x=>rrc (opR K x)).flatten) (hg:wr.grownBy y v.ownBlock):
  L2 w y S K s d f n (i+1) v' V ga cap ct:=by
 have hlt:=h.lz.lt
 have hn0:∀q,v.ownBlock=some q->q≠S:=fun q hq e=>q1v h.row hq (e▸h.lz.b0) (by decide) rfl
 have hn1:∀q,v.ownBlock=some q->q≠S+1:=fun q hq e=>q1v h.row hq (e▸h.lz.b1) (by decide) rfl
 have hn2:∀q,v.ownBlock=some q->q≠S+2:=fun q hq e=>q1v h.row hq (e▸h.lz.b2) (by decide) rfl
 have hn3:∀q,v.ownBlock=some q->q≠S+3:=fun q hq e=>q1v h.row hq (e▸h.lz.b3) (by decide) rfl
 have hbk:∀q,q<wr.heap.size->(∀b,v.ownBlock=some b->b≠q)->y.heap[q]?=wr.heap[q]?:=fun q hq hn=>hg.block q hq (fun e=>hn q e.symm rfl)
 exact ⟨⟨(hbk S (by omega) hn0).trans h.lz.b0,(hbk _ (by omega) hn1).trans h.lz.b1,(hbk _ (by omega) hn2).trans h.lz.b2,(hbk _ (by omega) hn3).trans h.lz.b3,h.lz.bl.grown hg h.lz.bl.size (fun q hq=>(h.row.lt q hq).1),h.lz.sz⟩,h.l6,h.a6,q0j h.str (fun q hq=>hg.block q (h.str.lt q hq).2 (fun e=>z0s h.str h.row (by decide) q hq e.symm)),ho⟩
theorem ldk_take (d:Disk.Dk) (f n st ct i:Nat) (h:i<ct):(ldk d f n st ct).take (i+1)=(ldk d f n st ct).take i++[(f+(st+i)%n,Disk.lat d (f+(st+i)%n))]:=by
 have hl:i<(ldk d f n st ct).length:=by simp [ldk,pcs];exact h
 rw [List.take_succ_eq_append_getElem hl]
 simp [ldk,pcs]
theorem ldk_mem (d:Disk.Dk) (f n st ct i:Nat) (h:i<ct):(f+(st+i)%n,Disk.lat d (f+(st+i)%n))∈ldk d f n st ct:=by
 have hl:i<(ldk d f n st ct).length:=by simp [ldk,pcs];exact h
 have e:(ldk d f n st ct)[i]=(f+(st+i)%n,Disk.lat d (f+(st+i)%n)):=by simp [ldk,pcs]
 rw [<-e]
 exact List.getElem_mem hl
set_option maxHeartbeats 16000000 in
theorem rload_v {k:Nat} {d:Disk.Dk} {r:Disk.Rd} (hJ:Disk.J k d r) (K:List Int) (hK:K.length=32/\Byt K) (f n:Nat) (s:Jst) (hs:OkS s) (h1:1<=n) (hn1:n<=1000) (hfit:f+n<=d.n) (hdn:d.n<=4096) (hm:may n s=true) (hd:0<s.count->d.down=false) (hk:k<800000) (hlat:∀p,p<d.n->(Disk.lat d p).length=192/\Byt (Disk.lat d p)) (w:World) (v:Value) (hv:Disk.Rv w v r):
  Calls Tryz.prog 25 #[v,.agg (u8s K),.int .i64 (f:Int),.int .i64 (n:Int),.agg (sa s)] w fun e w'=>Below w.heap.size w w'/\RLd d K f n s w w' e:=by
 obtain ⟨hst,hct⟩:=q7f hm
 obtain ⟨S,hS⟩:=nm w.heap.size
 have hrn:=hJ.n
 obtain ⟨st,hst0⟩:=nm s.start
 obtain ⟨ct,hct0⟩:=nm s.count
 have HV:Box (Disk.Rv w v r):=⟨hv⟩
 obtain ⟨vd,vw,vo,rfl,-,-,-⟩:=hv
 obtain ⟨V0,hV0⟩:=nm (Disk.rv r.n vd vw r.left r.down vo)
 have hc00:V0.toArray[0]?=some (.int .i64 (d.n:Int)):=by rw [<-hV0,<-hrn];rfl
 rw [hV0] at HV ⊢
 have hl6:V0.length=6:=by rw [<-hV0];rfl
 obtain ⟨w1,hw1⟩:=nm ((((w.alloc (.cells V0.toArray 36)).alloc (.cells (u8s K) 23)).alloc (.cells (sa s) 42)).alloc (.cells zD.toArray 36))
 have hb1:Below w.heap.size w w1:=by rw [<-hw1];exact ((((Below.refl _ _).alloc (Nat.le_refl _) _).alloc (by simp) _).alloc (by simp;omega) _).alloc (by simp;omega) _
 have H1:Box (Lz w w1 S V0 K s):=⟨by rw [<-hw1];exact q0i (q0i (q0i (q0g hS))),by rw [<-hw1];exact q0i (q0i (q0g (by simp [hS]))),by rw [<-hw1];exact q0i (q0g (by simp [hS])),by rw [<-hw1];exact q0g (by simp [hS]),hb1,hS⟩
 have c0:w1.cell? ⟨S,0,none⟩=some (.int .i64 (d.n:Int)):=by rw [cell_of_row _ _ _ _ _ _ H1.out.b0];exact hc00
 have HW:Box (w.heap.size=S/\Disk.Rv w1 (.agg V0.toArray) r/\V0.length=6):=⟨hS,HV.out.below hb1,hl6⟩
 have HKU:Box ((Tryz.prog.info? 23).map (·.size)=some (K.map (Value.int .u8)).length):=⟨by rw [List.length_map,hK.1];exact infoSum⟩
 have HSU:Box ((Tryz.prog.info? 42).map (·.size)=some (scs s).length):=⟨by rw [q0u hs];exact infoS13⟩
 have HN:Box (∀x:World,Calls Tryz.prog 9 #[.int .i64 (d.n:Int),.agg (u8s K),.int .i64 (f:Int),.int .i64 (n:Int),.agg (sa s),.int .u64 1,.int .u64 1] x fun e w'=>e=.returned (.tuple #[.agg (rq K (f:Int) (n:Int) s 1 1).toArray,.int .i64 0])/\Below x.heap.size x w'):=⟨fun x=>q8r d.n f n h1 hfit hdn K hK.1 s hs hst hct 1 1 (by omega) (by omega) x⟩
 have zJ:(Tryz.prog.info? 44).map (·.zero)=some (some (.agg (rq z32 0 0 zs 0 0).toArray)):=zeroRj
 have HRJ:Box ((Tryz.prog.info? 44).map (·.size)=some (rq K (f:Int) (n:Int) s 1 1).toArray.size/\(rq z32 0 0 zs 0 0).toArray.size=(rq K (f:Int) (n:Int) s 1 1).toArray.size/\(rq K (f:Int) (n:Int) s 1 1).toArray.all (·.oneCell')=true):=⟨by rw [List.size_toArray,q1u _ _ _ _ _ _ hK.1 hs];exact infoRj,by rw [List.size_toArray,List.size_toArray,q1u _ _ _ _ _ _ hK.1 hs,q1u _ _ _ _ _ _ q1l q1f],q4y _ _ _ _ _ _⟩
 obtain ⟨RQ,hRQ⟩:=nm ((rq K (f:Int) (n:Int) s 1 1).toArray)
 obtain ⟨ZJ,hZJ⟩:=nm ((rq z32 0 0 zs 0 0).toArray)
 rw [hRQ] at HN HRJ
 rw [hZJ] at zJ HRJ
 -- reading and linking
 have HRD:Box (∀(i p:Nat) (wr:World) (v:Value) (r:Disk.Rd) (V:List Value) (T:Nat),i<ct->f+(st+i)%n=p->L1 w wr S T K s d k f n i v r V->∃r',Disk.J (k+i+1) (Disk.rdOk (rdD d (pcs f n s.start i)) (p:Int)) r'/\Calls Tryz.prog 57 #[.agg V.toArray,.int .i64 (p:Int)] wr fun e w3=>∃V':List Value,e=.returned (.tuple #[.agg V'.toArray,.string (strOfNums (Disk.lat d p)),.int .i64 0])/\V'.length=6/\V'.toArray.all (·.oneCell')=true/\Disk.Rv w3 (.agg V'.toArray) r'/\Below wr.heap.size wr w3):=⟨fun i p wr v r V T hi hp h=>by
  have hpl:p<d.n:=by have:=Nat.mod_lt (st+i) (show n > 0 by omega);omega
  obtain ⟨j1,j2⟩:=Disk.rread_j (d:=rdD d (pcs f n s.start i)) h.j (by omega) p hpl (hd (by omega))
  refine ⟨_,j1,(j2 wr _ h.rv).mono ?_⟩
  rintro e w3 ⟨v',rfl,hv',hb⟩
  obtain ⟨V',rfl,l',a'⟩:=q3k hv'
  exact ⟨V',rfl,l',a',hv',hb⟩⟩
 have HLK:Box (∀(i p:Nat) (x:World),i<ct->f+(st+i)%n=p->Calls Tryz.prog 42 #[.agg (u8s (chn (ldk d f n s.start i))),.int .u32 (p:Int),.string (strOfNums (Disk.lat d p))] x fun e w'=>e=.returned (.agg (u8s (lnk (chn (ldk d f n s.start i)) (p:Int) (Disk.lat d p))))/\Below x.heap.size x w'):=⟨fun i p x hi hp=>by
  have hpl:p<d.n:=by have:=Nat.mod_lt (st+i) (show n > 0 by omega);omega
  have hc:=q4k (ldk d f n s.start i)
  have hL:=hlat p hpl
  exact z1z _ _ _ x hc.1 hc.2 (by omega) hL.2 (by omega)⟩
 have HPB:Box (∀i p,i<ct->f+(st+i)%n=p->p<=4096/\(Disk.lat d p).length=192/\Byt (Disk.lat d p)):=⟨fun i p hi hp=>by
  have hpl:p<d.n:=by have:=Nat.mod_lt (st+i) (show n > 0 by omega);omega
  exact ⟨by omega,hlat p hpl⟩⟩
 have HSG:Box (s.start=st/\s.count=ct/\st<n/\ct<=n/\n<=1000/\f<=4096/\1<=n/\s.tag.length=32/\K.length=32/\Byt K):=⟨hst0,hct0,by omega,by omega,hn1,by omega,h1,hs.lt,hK.1,hK.2⟩
 have HLT:Box (∀p,p<d.n->(Disk.lat d p).length=192/\Byt (Disk.lat d p)):=⟨hlat⟩
 have HCL:Box (∀i,(chn (ldk d f n s.start i)).length=32):=⟨fun i=>(q4k _).1⟩
 have HJ0:Box (Disk.J k d r/\k<800000):=⟨hJ,hk⟩
 have bst:st<1000:=by omega
 have bct:ct<=1000:=by omega
 clear hRQ hZJ hV0 hc00 hl6 HV hb1 hS hJ hs hK hlat hm hst hct hrn hk hst0 hct0
 go_enter Tryz.func25,Tryz.ntmps25
 go_upto_region 1 with (refine atAlloc _ ?_;refine q0b rfl _ _ (q0e 36 rfl _ Disk.zeroD) ?_)
 (try simp only [Nat.add_assoc,Nat.reduceAdd])
 rw [HW.out.1]
 change Code.wp _ _ _ _ ((((w.alloc (.cells V0.toArray 36)).alloc (.cells (u8s K) 23)).alloc (.cells (sa s) 42)).alloc (.cells zD.toArray 36))
 (try simp only [hw1])
 clear hw1
 go_upto_region 2 with (first
  | (refine q0o w2 ZJ RQ HRJ.out.1 HRJ.out.2.1 HRJ.out.2.2 rfl _ _ rfl rfl rfl rfl ?_;intro w3 hz3 hb3;have H3:Box (Lz w w3 S V0 K s/\Disk.Rv w3 (.agg V0.toArray) r):=⟨(H1.out.below hb2).below hb3,(HW.out.2.1.below hb2).below hb3⟩;clear hz3 hb3 hb2)
  | (refine atAlloc _ ?_;refine q0b rfl _ _ (q0e 44 rfl _ zJ) ?_)
  | (refine q0c rfl 23 _ _ rfl Tryz.underlying23 rfl (S+1) 0 rfl (K.map (Value.int .u8)) HKU.out H1.out.key ?_)
  | (refine q0c rfl 42 _ _ rfl Tryz.underlying42 rfl (S+2) 0 rfl (scs s) HSU.out H1.out.cells.2.2.1 ?_)
  | (go_at_call 9;refine Calls.mono (HN.out w1) ?_;rintro e w2 ⟨rfl,hb2⟩))
 clear HN HRJ zJ H1 c0
 go_upto_region 5 with fail
 obtain ⟨T,hT⟩:=nm w3.heap.size
 have H4:Box (L1 w (w3.alloc (.cells (u8s z32) 23)) S T K s d k f n 0 (.slice none 0 0) r V0):=⟨by
  have hb:=Below.alloc (Below.refl w3.heap.size w3) (Nat.le_refl _) (.cells (u8s z32) 23)
  exact ⟨H3.out.1.below hb,HW.out.2.2,H3.out.2.below hb,(by rw [show pcs f n s.start 0=[] from rfl,z4s];exact HJ0.out.1),q0g hT,by rw [<-hT];exact H3.out.1.lt,World.ownsRow_nil _ _ _ _⟩⟩
 go_upto_region 6 with (refine atAlloc _ ?_;refine q0b rfl _ _ (q0e 23 rfl _ zeroSum) ?_)
 (try simp only [hT])
 clear H3 hT
 generalize w3.alloc (.cells (u8s z32) 23)=w4 at H4 ⊢
 go_wp2
 go_loopw [14,15,17] (fun e0 v i wr=>∃(i':Nat) (u:Value) (r:Disk.Rd) (V:List Value),i'<=ct/\e0=.int .i64 0/\v=u/\i=.int .u64 (i':Int)/\Box (L1 w wr S T K s d k f n i' u r V)) (fun _ _ i _=>ct-(intOf i).toNat)
 case atStart=>exact ⟨0,_,r,V0,Nat.zero_le _,rfl,rfl,rfl,H4⟩
 case round=>
  clear H4
  obtain ⟨i,v,r,V,hi,rfl,rfl,rfl,HL⟩:=hrel
  obtain ⟨v,rfl⟩:∃v,v=u15:=⟨_,rfl⟩
  obtain ⟨c0,c1,-,-⟩:=HL.out.lz.cells
  rw [HSG.out.1] at c0
  rw [HSG.out.2.1] at c1
  by_cases hlt:i<ct
  ·have g1:decide ((i:Int)<(ct:Int))=true:=by simp;omega
   obtain ⟨m,hmm⟩:=nm ((st+i)%n)
   obtain ⟨p,hp⟩:=nm (f+m)
   have HPM:Box (f+(st+i)%n=p):=⟨by rw [hmm,hp]⟩
   have hp2:(f:Int)+(m:Int)=(p:Int):=by omega
   have bm:m<n:=by rw [<-hmm];exact Nat.mod_lt _ (by omega)
   obtain ⟨bp,bl,bb⟩:=HPB.out i p hlt HPM.out
   have ht1:((st:Int)+(i:Int)).tmod (n:Int)=(m:Int):=by rw [<-Int.natCast_add,<-hmm];rfl
   have ht2:((st:Int)+(i:Int))%(n:Int)=(m:Int):=by rw [<-Int.natCast_add,<-hmm];rfl
   have hn0:((n:Int)==0)=false:=by simp;omega
   clear hmm hp
   go_upto_region 11 with fail
   clear ht1 ht2 hn0 hp2 bm c0 c1 g1
   obtain ⟨r2,hj2,hrd⟩:=HRD.out i p wr v r V T hlt HPM.out HL.out
   have HJ2:Box (Disk.J (k+i+1) (Disk.rdOk (rdD d (pcs f n s.start i)) (p:Int)) r2):=⟨hj2⟩
   have HR2:Box (Calls Tryz.prog 57 #[.agg V.toArray,.int .i64 (p:Int)] wr fun e w3=>∃V':List Value,e=.returned (.tuple #[.agg V'.toArray,.string (strOfNums (Disk.lat d p)),.int .i64 0])/\V'.length=6/\V'.toArray.all (·.oneCell')=true/\Disk.Rv w3 (.agg V'.toArray) r2/\Below wr.heap.size wr w3):=⟨hrd⟩
   have HLp:Box (∀x,Calls Tryz.prog 42 #[.agg (u8s (chn (ldk d f n s.start i))),.int .u32 (p:Int),.string (strOfNums (Disk.lat d p))] x fun e w'=>e=.returned (.agg (u8s (lnk (chn (ldk d f n s.start i)) (p:Int) (Disk.lat d p))))/\Below x.heap.size x w'):=⟨fun x=>HLK.out i p x hlt HPM.out⟩
   obtain ⟨tg,htg⟩:=nm (chn (ldk d f n s.start i))
   obtain ⟨X,hX⟩:=nm (lnk tg (p:Int) (Disk.lat d p))
   obtain ⟨B,hB⟩:=nm (Disk.lat d p)
   have HTG:Box (chn (ldk d f n s.start i)=tg/\lnk tg (p:Int) (Disk.lat d p)=X/\Disk.lat d p=B/\tg.length=32/\X.length=32):=⟨htg,hX,hB,by rw [<-htg];exact HCL.out i,by rw [<-hX,<-htg];have:=HCL.out (i+1);rw [z6h,q6x,show f+(s.start+i)%n=p by rw [HSG.out.1];exact HPM.out] at this;exact this⟩
   have HTU:Box ((Tryz.prog.info? 23).map (·.size)=some (tg.map (Value.int .u8)).length/\(Tryz.prog.info? 23).map (·.size)=some (u8s X).size/\(u8s tg).size=(u8s X).size):=⟨by rw [List.length_map,HTG.out.2.2.2.1];exact infoSum,by rw [q0h,HTG.out.2.2.2.2];exact infoSum,by rw [q0h,q0h,HTG.out.2.2.2.1,HTG.out.2.2.2.2]⟩
   rw [htg,hX,hB] at HLp
   rw [hB] at HR2 bl bb
   clear htg hX hB hj2 hrd
   go_upto_region 12 with (first
    | (refine Disk.q0v rfl _ rfl S V rfl HL.out.lz.b0 HL.out.l6 ?_)
    | (go_at_call 57;refine Calls.mono HR2.out ?_;rintro e x1 ⟨V2,rfl,l2,a2,hv2,hb2⟩;have HX1:Box (Below wr.heap.size wr x1/\V2.length=6/\V2.toArray.all (·.oneCell')=true/\Disk.Rv x1 (.agg V2.toArray) r2/\x1.heap[S]?=some (.cells V.toArray 36 (0,0))):=⟨hb2,l2,a2,hv2,(HL.out.below hb2).lz.b0⟩;clear l2 a2 hv2 hb2)
    | (refine wpList_store_row rfl 36 _ _ rfl S V2.toArray rfl rfl 36 V.toArray HX1.out.2.2.2.2 (by rw [List.size_toArray,HX1.out.2.1];exact Disk.infoD) (by rw [List.size_toArray,List.size_toArray,HX1.out.2.1,HL.out.l6]) HX1.out.2.2.1 ?_))
   have H5:Box (L1r w (x1.setRow S V2.toArray) S T K s d k f n i v r2 V2 tg):=⟨by rw [<-HTG.out.1];exact HL.out.read (by rw [HSG.out.1];exact HPM.out) HX1.out.1 HX1.out.2.2.2.1 HX1.out.2.1 HJ2.out rfl⟩
   clear HR2 HJ2 HL HX1
   generalize x1.setRow S V2.toArray=w5 at H5 ⊢
   go_upto_region 14 with fail
   go_upto_region 15 with (first
    | (refine q0c rfl 23 _ _ rfl Tryz.underlying23 rfl T 0 rfl (tg.map (Value.int .u8)) HTU.out.1 (q2x H5.out.tg) ?_)
    | (go_at_call 42;refine Calls.mono (HLp.out w5) ?_;rintro e x2 ⟨rfl,hb2⟩;have HX2:Box (Below w5.heap.size w5 x2/\x2.heap[T]?=some (.cells (u8s tg) 23 (0,0))):=⟨hb2,(H5.out.below hb2).tg⟩;clear hb2)
    | (refine wpList_store_row rfl 23 _ _ rfl T (u8s X) rfl rfl 23 (u8s tg) HX2.out.2 HTU.out.2.1 HTU.out.2.2 (q1r X) ?_))
   have H6:Box (L1r w (x2.setRow T (u8s X)) S T K s d k f n i v r2 V2 (chn (ldk d f n s.start (i+1)))):=⟨by
    have h5:=H5.out
    have e1:=HTG.out.1
    subst e1
    refine L1r.tagged h5 (p:=p) ?_ HX2.out.1 X ?_ ?_
    ·rw [HSG.out.1];exact HPM.out
    ·exact HTG.out.2.1
    ·rfl⟩
   clear H5 HX2 HTU HLp
   generalize x2.setRow T (u8s X)=w6 at H6 ⊢
   obtain ⟨xs,hxs⟩:=nm (strs (lts d f n s.start i))
   have HOW:Box (w6.ownsRow w.heap.size 9 1 v i xs/\w.heap.size<=w6.heap.size/\strs (lts d f n s.start i)=xs):=⟨by rw [<-hxs];exact H6.out.row,H6.out.lz.bl.size,hxs⟩
   clear hxs
   go_wp2_with (at_builtin;refine z0a rfl 131 9 Tryz.underlying131 1 16 (.string ByteArray.empty) infStr rfl (by omega) _ _ rfl w.heap.size i v xs [.string (strOfNums B)] w6 rfl rfl rfl HOW.out.1 rfl (by simp [Value.oneCell']) (by omega) (by omega) HOW.out.2.1 ?_;intro v7 w7 ho7 hg7;have H7:Box (L1 w w7 S T K s d k f n (i+1) v7 r2 V2):=⟨L1r.more H6.out (p:=p) (by rw [HSG.out.1];exact HPM.out) (by rw [HOW.out.2.2,HTG.out.2.2.1];exact ho7) hg7⟩;clear ho7 hg7 H6 HOW)
   go_roundw
   case rel=>exact ⟨i+1,v7,r2,V2,by omega,rfl,rfl,by go_num,H7⟩
   case measure=>simp [intOf];omega
  ·have g1:decide ((i:Int)<(ct:Int))=false:=by simp;omega
   have HEQ:Box (i=ct):=⟨by omega⟩
   have HA:Box (V.toArray.all (·.oneCell')=true):=⟨by obtain ⟨V',e,_,a⟩:=q3k HL.out.rv;simp only [Value.agg.injEq] at e;rw [e];exact a⟩
   have H8:Box (Lz w wr S V K s/\V.length=6/\wr.ownsRow w.heap.size 9 1 v ct (strs (lts d f n s.start ct))/\wr.heap[T]?=some (.cells (u8s (chn (ldk d f n s.start ct))) 23 (0,0))):=⟨by have h:=HL.out;rw [HEQ.out] at h;exact ⟨h.lz,h.l6,h.row,h.tg⟩⟩
   have HLD:Box (lds d f n s=ldk d f n s.start ct):=⟨by rw [<-HSG.out.2.1];rfl⟩
   have HL3:Box (Lz w wr S V K s/\V.length=6/\V.toArray.all (·.oneCell')=true):=⟨H8.out.1,H8.out.2.1,HA.out⟩
   have HTU:Box ((Tryz.prog.info? 23).map (·.size)=some ((chn (ldk d f n s.start ct)).map (Value.int .u8)).length/\(Tryz.prog.info? 23).map (·.size)=some (s.tag.map (Value.int .u8)).length):=⟨by rw [List.length_map,HCL.out];exact infoSum,by rw [List.length_map,HSG.out.2.2.2.2.2.2.2.1];exact infoSum⟩
   by_cases htag:chn (ldk d f n s.start ct)=s.tag
   ·have hte:Box ((!decide (chn (ldk d f n s.start ct)=s.tag))=false):=⟨by simp [htag]⟩
    have HTAG:Box (chn (ldk d f n s.start ct)=s.tag):=⟨htag⟩
    clear htag
    go_upto_region 18 with (first
     | (refine q0c rfl 23 _ _ rfl Tryz.underlying23 rfl T 0 rfl ((chn (ldk d f n s.start ct)).map (Value.int .u8)) HTU.out.1 (q2x H8.out.2.2.2) ?_)
     | (refine q0c rfl 23 _ _ rfl Tryz.underlying23 rfl (S+2) 2 rfl (s.tag.map (Value.int .u8)) HTU.out.2 H8.out.1.cells.2.2.2 ?_)
     | (refine q0b rfl _ _ (q9y _ _ _ rfl (chn (ldk d f n s.start ct)) s.tag (HCL.out ct) HSG.out.2.2.2.2.2.2.2.1 false hte.out rfl rfl) ?_))
    have HL2:Box (Lz w wr S V K s/\V.length=6/\V.toArray.all (·.oneCell')=true/\wr.ownsRow w.heap.size 9 1 v ct (strs (lts d f n s.start ct))):=⟨H8.out.1,H8.out.2.1,HA.out,H8.out.2.2.1⟩
    clear H8 HA HTU HCL HPB HLK HRD hte HL3 HL
    obtain ⟨va,vc,rfl⟩:=q0l HL2.out.2.2.2
    obtain ⟨wo,rfl⟩:∃wo,wo=wr:=⟨_,rfl⟩
    go_wp2
    go_loopw [20,21] (fun q j wr2=>∃(i:Nat) (u:Value),i<=ct/\q=u/\j=.int .i64 (i:Int)/\Box (L2 w wr2 S K s d f n i u V va vc ct/\∀x∈(ldk d f n s.start ct).take i,Opn K x)) (fun _ j _=>ct-(intOf j).toNat)
    case atStart=>exact ⟨0,_,Nat.zero_le _,rfl,rfl,⟨HL2.out.1,HL2.out.2.1,HL2.out.2.2.1,HL2.out.2.2.2,World.ownsRow_nil _ _ _ _⟩,fun x hx=>by simp at hx⟩
    case round=>
     obtain ⟨i,u,hi,rfl,rfl,HL⟩:=hrel
     obtain ⟨u,rfl⟩:∃u,u=u20:=⟨_,rfl⟩
     obtain ⟨c0,-,-,-⟩:=HL.out.1.lz.cells
     rw [HSG.out.1] at c0
     by_cases hlt:i<ct
     ·have g1:decide ((i:Int)<(ct:Int))=true:=by simp;omega
      obtain ⟨m,hmm⟩:=nm ((st+i)%n)
      obtain ⟨p,hp⟩:=nm (f+m)
      have HPM:Box (f+(s.start+i)%n=p):=⟨by rw [HSG.out.1,hmm,hp]⟩
      have hp2:(f:Int)+(m:Int)=(p:Int):=by omega
      have bm:m<n:=by rw [<-hmm];exact Nat.mod_lt _ (by omega)
      have bp:p<=8192:=by have:=HSG.out.2.2.2.2.2.1;omega
      have ht1:((st:Int)+(i:Int)).tmod (n:Int)=(m:Int):=by rw [<-Int.natCast_add,<-hmm];rfl
      have ht2:((st:Int)+(i:Int))%(n:Int)=(m:Int):=by rw [<-Int.natCast_add,<-hmm];rfl
      have hn0:((n:Int)==0)=false:=by simp;omega
      have HPL:Box (p<d.n):=⟨by omega⟩
      have HWP:Box (IntKind.u32.wrap (p:Int)=(p:Int)):=⟨by rw [IntKind.wrap_u32];omega⟩
      clear hmm hp
      go_upto_region 23 with fail
      clear ht1 ht2 hn0 hp2 bm c0 g1
      obtain ⟨g,hga,-⟩:=HL.out.1.at i hlt
      subst hga
      have hlt9:i<ct:=hlt
      obtain ⟨B,hB⟩:=nm (Disk.lat d p)
      have HB9:Box (Disk.lat d (f+(s.start+i)%n)=B/\B.length=192/\Byt B/\(ldk d f n s.start ct).take (i+1)=(ldk d f n s.start ct).take i++[(p,B)]/\(p,B)∈ldk d f n s.start ct):=⟨by rw [HPM.out];exact hB,by rw [<-hB];exact (HLT.out p HPL.out).1,by rw [<-hB];exact (HLT.out p HPL.out).2,by rw [<-hB,<-HPM.out];exact ldk_take d f n s.start ct i hlt,by rw [<-hB,<-HPM.out];exact ldk_mem d f n s.start ct i hlt⟩
      have H9:Box (L2 w wr S K s d f n i u V (some ⟨g,0,none⟩) vc ct):=⟨HL.out.1⟩
      have HOI:Box (∀x∈(ldk d f n s.start ct).take i,Opn K x):=⟨HL.out.2⟩
      clear HL hB
      by_cases hfit:Seal.Fit B 176
      ·obtain ⟨pl,hpl⟩:=nm (Seal.op K (p:Int) B 176)
       obtain ⟨ver,hver⟩:=nm (num B 0 8)
       have HOP:Box (∀x,Calls Tryz.prog 58 #[.agg (K.map (Value.int .u8)).toArray,.int .u32 (p:Int),.string (strOfNums B),.int .i64 176] x fun e w'=>e=.returned (.tuple #[.int .u64 ver,.string (strOfNums pl),.int .i64 0])/\Below x.heap.size x w'):=⟨fun x=>by
        have:=Seal.ropen_ok K B (p:Int) 176 HSG.out.2.2.2.2.2.2.2.2.1 HSG.out.2.2.2.2.2.2.2.2.2 ⟨by omega,by omega⟩ HB9.out.2.2.1 HB9.out.2.1 (.inr rfl) hfit x
        rw [hver,hpl] at this
        exact this⟩
       have HPP:Box (Seal.Fit B 176/\Seal.op K (p:Int) B 176=pl/\Byt pl/\pl.length=176):=⟨hfit,hpl,by rw [<-hpl];exact Seal.byt_op _ _ _ _,by rw [<-hpl];exact Seal.length_op _ _ _ _⟩
       clear hpl hver hfit
       refine Seq.q1t (by kernel_rfl) (fun wd hd=>?_)
       refine Seq.take_lx (i:=0) (v:=.agg (K.map (Value.int .u8)).toArray) rfl (fun w' hLat=>q0k 23 _ (.tmp 6) rfl Tryz.underlying23 rfl (S+1) 0 rfl (K.map (Value.int .u8)) HKU.out ((H9.out.below hd).below hLat).lz.key) ?_
       try simp only [Act.put,pC,pD,pE,pF,pG]
       refine Seq.take_ly (i:=1) rfl ?_
       try simp only [Act.put,pC,pD,pE,pF,pG,pH]
       refine Seq.take_ly (i:=2) rfl ?_
       try simp only [Act.put,pC,pD,pE,pF,pG,pH]
       refine Seq.take_ly (i:=3) rfl ?_
       try simp only [Act.put,pC,pD,pE,pF,pG,pH]
       refine Seq.take_ly (i:=4) rfl ?_
       try simp only [Act.put,pC,pD,pE,pF,pG,pH]
       refine Seq.take_lx (i:=5) (v:=.pointer (some ⟨g,i,none⟩)) rfl (fun w' hLat=>z3d _ _ rfl g ct vc i rfl rfl hlt9) ?_
       try simp only [Act.put,pC,pD,pE,pF,pG,pH]
       refine Seq.take_lx (i:=6) (v:=.string (strOfNums B)) rfl (fun w' hLat=>q0w 9 _ (.tmp 106) rfl Tryz.underlying9 rfl ⟨g,i,none⟩ rfl _ (((H9.out.below hd).below hLat).cell i hlt9 HB9.out.1)) ?_
       try simp only [Act.put,pC,pD,pE,pF,pG,pH]
       refine Seq.q1k (i:=7) rfl (by kernel_rfl) (fun KK hK=>?_)
       rw [if_pos (by rfl)]
       go_simp
       (try rw [HWP.out])
       refine Calls.mono (HOP.out _) ?_
       rintro e x1 ⟨rfl,hb⟩
       have H10:Box (L2 w x1 S K s d f n i u V (some ⟨g,0,none⟩) vc ct):=⟨(H9.out.below hd).below hb⟩
       refine hK.out _ _ hb ?_
       clear hb
       clear hK KK
       try simp only [Act.put,pC,pD,pE,pF,pG,pH]
       refine Seq.take_ly (i:=8) rfl ?_
       try simp only [Act.put,pC,pD,pE,pF,pG,pH]
       refine Seq.take_ly (i:=9) rfl ?_
       try simp only [Act.put,pC,pD,pE,pF,pG,pH]
       refine Seq.take_ly (i:=10) rfl ?_
       try simp only [Act.put,pC,pD,pE,pF,pG,pH]
       refine Seq.take_ly (i:=11) rfl ?_
       try simp only [Act.put,pC,pD,pE,pF,pG,pH]
       refine Seq.take_ly (i:=12) rfl ?_
       try simp only [Act.put,pC,pD,pE,pF,pG,pH]
       refine Seq.take_ly (i:=13) rfl ?_
       try simp only [Act.put,pC,pD,pE,pF,pG,pH]
       refine Seq.take_ly (i:=14) rfl ?_
       try simp only [Act.put,pC,pD,pE,pF,pG,pH]
       refine wpAnyH_done (by kernel_rfl) ?_ _
       clear HOP H9
       go_upto_region 26 with fail
       by_cases hfr:fitR pl
       ·obtain ⟨⟨⟨blk,bs⟩,lst⟩,hrec⟩:∃r,getP pl=r:=⟨_,rfl⟩
        have HGE:Box (∀x,Calls Tryz.prog 59 #[.string (strOfNums pl)] x fun e w'=>e=.returned (.tuple #[.agg #[.int .u64 blk,.string (strOfNums bs),.bool lst],.int .i64 0])/\Below x.heap.size x w'):=⟨fun x=>by
         have:=rrget_ok pl HPP.out.2.2.1 hfr x
         rw [hrec] at this
         exact this⟩
        have HNX:Box ((ldk d f n s.start ct).take (i+1)=(ldk d f n s.start ct).take i++[(p,B)]/\rrc (opR K (p,B))=[.int .u64 blk,.string (strOfNums bs),.bool lst]/\Opn K (p,B)):=⟨HB9.out.2.2.2.1,by unfold opR;rw [HPP.out.2.1,hrec];rfl,HPP.out.1,by rw [HPP.out.2.1];exact hfr⟩
        clear hrec hfr HPP HB9
        go_upto_region 29 with (first
         | (refine q0o x2 #[.int .u64 0,.string ByteArray.empty,.bool false] #[.int .u64 blk,.string (strOfNums bs),.bool lst] infoR3 rfl (by simp [Value.oneCell']) rfl _ _ rfl rfl rfl rfl ?_;intro x3 h3 hb3;have H11:Box (L2 w x3 S K s d f n i u V (some ⟨g,0,none⟩) vc ct/\x3.heap[x2.heap.size]?=some (.cells #[.int .u64 blk,.string (strOfNums bs),.bool lst] 107 (0,0))):=⟨(H10.out.below hb2).below hb3,h3⟩;clear h3 hb3 hb2)
         | (go_at_call 59;refine Calls.mono (HGE.out x1) ?_;rintro e x2 ⟨rfl,hb2⟩))
        clear HGE H10
        obtain ⟨Y,hY⟩:=nm x2.heap.size
        rw [hY] at H11
        (try simp only [hY])
        clear hY
        obtain ⟨xs,hxs⟩:=nm ((((ldk d f n s.start ct).take i).map fun x=>rrc (opR K x)).flatten)
        have HOW:Box (x3.ownsRow w.heap.size 107 3 u i xs/\w.heap.size<=x3.heap.size/\(((ldk d f n s.start ct).take i).map fun x=>rrc (opR K x)).flatten=xs):=⟨by rw [<-hxs];exact H11.out.1.row,H11.out.1.lz.bl.size,hxs⟩
        have HRR:Box (x3.rangeAt Y 0 [.int .u64 blk,.string (strOfNums bs),.bool lst]):=⟨q0q H11.out.2⟩
        clear hxs
        go_wp2_with (first
         | (refine q0c rfl 107 _ _ rfl Tryz.underlying107 rfl Y 0 rfl [.int .u64 blk,.string (strOfNums bs),.bool lst] infoR3 HRR.out ?_)
         | (at_builtin;refine z0a rfl 99 107 Tryz.underlying99 3 32 _ infR3 rfl (by omega) _ _ rfl w.heap.size i u xs [.int .u64 blk,.string (strOfNums bs),.bool lst] x3 rfl rfl rfl HOW.out.1 rfl (by simp [Value.oneCell']) (by omega) (by omega) HOW.out.2.1 ?_;intro v7 w7 ho7 hg7;have H12:Box (L2 w w7 S K s d f n (i+1) v7 V (some ⟨g,0,none⟩) vc ct/\∀x∈(ldk d f n s.start ct).take (i+1),Opn K x):=⟨L2.more H11.out.1 (by rw [HNX.out.1,List.map_append,List.flatten_append,HOW.out.2.2];simpa [HNX.out.2.1] using ho7) hg7,by rw [HNX.out.1];intro x hx;rcases List.mem_append.1 hx with hx | hx;exact HOI.out x hx;rw [List.mem_singleton.1 hx];exact HNX.out.2.2⟩;clear ho7 hg7 H11 HOW HRR))
        go_roundw
        case rel=>exact ⟨i+1,v7,by omega,rfl,by go_num,H12⟩
        case measure=>simp [intOf];omega
       ·obtain ⟨zr,HGE⟩:∃zr:Array Value,Box (zr.size=3/\zr.all (·.oneCell')=true/\∀x,Calls Tryz.prog 59 #[.string (strOfNums pl)] x fun e w'=>e=.returned (.tuple #[.agg zr,.int .i64 11])/\Below x.heap.size x w'):=z7u pl HPP.out.2.2.1 HPP.out.2.2.2 hfr
        have HNG:Box (¬LGood d K f n s):=⟨fun h=>hfr (by have:=(h.2.1 (p,B) (by rw [HLD.out];exact HB9.out.2.2.2.2)).2;rwa [HPP.out.2.1] at this)⟩
        clear hfr HPP HB9
        go_upto_region 28 with (first
         | (refine q0o x2 #[.int .u64 0,.string ByteArray.empty,.bool false] zr (by rw [HGE.out.1];exact infoR3) (by rw [HGE.out.1];rfl) HGE.out.2.1 rfl _ _ rfl rfl rfl rfl ?_;intro x3 h3 hb3;have H11:Box (L2 w x3 S K s d f n i u V (some ⟨g,0,none⟩) vc ct):=⟨(H10.out.below hb2).below hb3⟩;clear h3 hb3 hb2)
         | (go_at_call 59;refine Calls.mono (HGE.out.2.2 x1) ?_;rintro e x2 ⟨rfl,hb2⟩))
        have HL3:Box (Lz w x3 S V K s/\V.length=6/\V.toArray.all (·.oneCell')=true):=⟨H11.out.lz,H11.out.l6,H11.out.a6⟩
        go_wp2_with (first
         | (refine Disk.q0v rfl _ rfl S V rfl HL3.out.1.b0 HL3.out.2.1 ?_)
         | (refine wpList_store_row rfl 36 _ _ rfl (S+3) V.toArray rfl rfl 36 _ HL3.out.1.b3 (by rw [List.size_toArray,HL3.out.2.1];exact Disk.infoD) (by rw [List.size_toArray,List.size_toArray,HL3.out.2.1];rfl) HL3.out.2.2 ?_))
        (try simp only [Exit.inBlock,Exit.then])
        refine bodyPost_ret (Disk.q2r rfl _ _ (S+3) V rfl HL3.out.2.1 (setRow_heap _ _ _ _ _ _ HL3.out.1.b3)) rfl ?_
        exact ⟨below_setRow HL3.out.1.bl (by rw [HL3.out.1.sz];omega) _,.inl ⟨HNG.out,_,HL3.out.2,rfl⟩⟩
      ·have HOP:Box (∀x,Calls Tryz.prog 58 #[.agg (K.map (Value.int .u8)).toArray,.int .u32 (p:Int),.string (strOfNums B),.int .i64 176] x fun e w'=>e=.returned (.tuple #[.int .u64 0,.string ByteArray.empty,.int .i64 11])/\Below x.heap.size x w'):=⟨fun x=>Seal.z7k K B (p:Int) 176 HB9.out.2.2.1 HB9.out.2.1 (.inr rfl) hfit x⟩
       have HNG:Box (¬LGood d K f n s):=⟨fun h=>hfit (h.2.1 (p,B) (by rw [HLD.out];exact HB9.out.2.2.2.2)).1⟩
       clear hfit
       refine Seq.q1t (by kernel_rfl) (fun wd hd=>?_)
       refine Seq.take_lx (i:=0) (v:=.agg (K.map (Value.int .u8)).toArray) rfl (fun w' hLat=>q0k 23 _ (.tmp 6) rfl Tryz.underlying23 rfl (S+1) 0 rfl (K.map (Value.int .u8)) HKU.out ((H9.out.below hd).below hLat).lz.key) ?_
       try simp only [Act.put,pC,pD,pE,pF,pG]
       refine Seq.take_ly (i:=1) rfl ?_
       try simp only [Act.put,pC,pD,pE,pF,pG,pH]
       refine Seq.take_ly (i:=2) rfl ?_
       try simp only [Act.put,pC,pD,pE,pF,pG,pH]
       refine Seq.take_ly (i:=3) rfl ?_
       try simp only [Act.put,pC,pD,pE,pF,pG,pH]
       refine Seq.take_ly (i:=4) rfl ?_
       try simp only [Act.put,pC,pD,pE,pF,pG,pH]
       refine Seq.take_lx (i:=5) (v:=.pointer (some ⟨g,i,none⟩)) rfl (fun w' hLat=>z3d _ _ rfl g ct vc i rfl rfl hlt9) ?_
       try simp only [Act.put,pC,pD,pE,pF,pG,pH]
       refine Seq.take_lx (i:=6) (v:=.string (strOfNums B)) rfl (fun w' hLat=>q0w 9 _ (.tmp 106) rfl Tryz.underlying9 rfl ⟨g,i,none⟩ rfl _ (((H9.out.below hd).below hLat).cell i hlt9 HB9.out.1)) ?_
       try simp only [Act.put,pC,pD,pE,pF,pG,pH]
       refine Seq.q1k (i:=7) rfl (by kernel_rfl) (fun KK hK=>?_)
       rw [if_pos (by rfl)]
       go_simp
       (try rw [HWP.out])
       refine Calls.mono (HOP.out _) ?_
       rintro e x1 ⟨rfl,hb⟩
       have H10:Box (L2 w x1 S K s d f n i u V (some ⟨g,0,none⟩) vc ct):=⟨(H9.out.below hd).below hb⟩
       refine hK.out _ _ hb ?_
       clear hb
       clear hK KK
       try simp only [Act.put,pC,pD,pE,pF,pG,pH]
       refine Seq.take_ly (i:=8) rfl ?_
       try simp only [Act.put,pC,pD,pE,pF,pG,pH]
       refine Seq.take_ly (i:=9) rfl ?_
       try simp only [Act.put,pC,pD,pE,pF,pG,pH]
       refine Seq.take_ly (i:=10) rfl ?_
       try simp only [Act.put,pC,pD,pE,pF,pG,pH]
       refine Seq.take_ly (i:=11) rfl ?_
       try simp only [Act.put,pC,pD,pE,pF,pG,pH]
       refine Seq.take_ly (i:=12) rfl ?_
       try simp only [Act.put,pC,pD,pE,pF,pG,pH]
       refine Seq.take_ly (i:=13) rfl ?_
       try simp only [Act.put,pC,pD,pE,pF,pG,pH]
       refine Seq.take_ly (i:=14) rfl ?_
       try simp only [Act.put,pC,pD,pE,pF,pG,pH]
       refine wpAnyH_done (by kernel_rfl) ?_ _
       clear HOP H9
       go_upto_region 25 with fail
       have HL3:Box (Lz w x1 S V K s/\V.length=6/\V.toArray.all (·.oneCell')=true):=⟨H10.out.lz,H10.out.l6,H10.out.a6⟩
       go_wp2_with (first
        | (refine Disk.q0v rfl _ rfl S V rfl HL3.out.1.b0 HL3.out.2.1 ?_)
        | (refine wpList_store_row rfl 36 _ _ rfl (S+3) V.toArray rfl rfl 36 _ HL3.out.1.b3 (by rw [List.size_toArray,HL3.out.2.1];exact Disk.infoD) (by rw [List.size_toArray,List.size_toArray,HL3.out.2.1];rfl) HL3.out.2.2 ?_))
       (try simp only [Exit.inBlock,Exit.then])
       refine bodyPost_ret (Disk.q2r rfl _ _ (S+3) V rfl HL3.out.2.1 (setRow_heap _ _ _ _ _ _ HL3.out.1.b3)) rfl ?_
       exact ⟨below_setRow HL3.out.1.bl (by rw [HL3.out.1.sz];omega) _,.inl ⟨HNG.out,_,HL3.out.2,rfl⟩⟩
     ·have g1:decide ((i:Int)<(ct:Int))=false:=by simp;omega
      have HEQ:Box (i=ct):=⟨by omega⟩
      obtain ⟨L,hL⟩:=nm ((ldk d f n s.start ct).map (opR K))
      have hLl:L.length=ct:=by rw [<-hL];simp [ldk,pcs]
      have HLL:Box ((lds d f n s).map (opR K)=L/\L.length=ct/\(∀x∈lds d f n s,Opn K x)/\wr.ownsRow w.heap.size 107 3 u ct (L.map rrc).flatten):=⟨by rw [HLD.out];exact hL,hLl,by
       have h:=HL.out.2
       rw [HEQ.out,List.take_of_length_le (by simp [ldk,pcs])] at h
       rw [HLD.out];exact h,by
       have h:=HL.out.1.row
       rw [HEQ.out,List.take_of_length_le (by simp [ldk,pcs])] at h
       rw [<-hL,List.map_map];exact h⟩
      clear hL hLl
      obtain ⟨ua,uc,rfl⟩:=q0l HLL.out.2.2.2
      have HCH:Box _:=⟨rch_any ua uc L wr (q6f (fun _=>rfl) HLL.out.2.2.2 HLL.out.2.1) (by rw [HLL.out.2.1];omega)⟩
      rw [HLL.out.2.1] at HCH
      have HL3:Box (Lz w wr S V K s/\V.length=6/\V.toArray.all (·.oneCell')=true):=⟨HL.out.1.lz,HL.out.1.l6,HL.out.1.a6⟩
      clear HL
      by_cases hop:(chS L).2=[]
      ·have HC:Box (Calls Tryz.prog 60 #[.slice ua ct uc] wr fun e w'=>∃(v:Value) (Wn:List Wx),e=.returned (.tuple #[v,.int .i64 0])/\Below wr.heap.size wr w'/\w'.ownsRow wr.heap.size 53 1 v Wn.length (Wn.map wsl).flatten/\(∀x∈Wn,x.P.length=x.l/\w'.ownsRow wr.heap.size 105 2 (.slice x.a x.l x.c) x.l (x.P.map ic).flatten)/\Wn.map (·.P)=(chS L).1):=⟨HCH.out.mono fun e w' ⟨hb,hc⟩=>by
        rcases hc with ⟨h1,_⟩ | ⟨_,v,Wn,he,h2,h3,h4⟩
        ·exact absurd hop h1
        ·exact ⟨v,Wn,he,hb,h2,h3,h4⟩⟩
       have HGD:Box (LGood d K f n s/\ldC d K f n s=(chS L).1):=⟨⟨by rw [HLD.out];exact HTAG.out,HLL.out.2.2.1,by rw [HLL.out.1];exact (z6e L).1 hop⟩,by unfold ldC;rw [HLL.out.1]⟩
       clear HCH hop
       go_upto_region 33 with (go_at_call 60;refine Calls.mono HC.out ?_;rintro e x1 ⟨cv,Wn,rfl,hb,hr1,hr2,hr3⟩;have HR:Box (Lz w x1 S V K s/\Below wr.heap.size wr x1/\x1.ownsRow wr.heap.size 53 1 cv Wn.length (Wn.map wsl).flatten/\(∀x∈Wn,x.P.length=x.l/\x1.ownsRow wr.heap.size 105 2 (.slice x.a x.l x.c) x.l (x.P.map ic).flatten)/\Wn.map (·.P)=(chS L).1):=⟨HL3.out.1.below hb,hb,hr1,hr2,hr3⟩;clear hb hr1 hr2 hr3)
       clear HC
       go_wp2_with (first
        | (refine Disk.q0v rfl _ rfl S V rfl HR.out.1.b0 HL3.out.2.1 ?_)
        | (refine wpList_store_row rfl 36 _ _ rfl (S+3) V.toArray rfl rfl 36 _ HR.out.1.b3 (by rw [List.size_toArray,HL3.out.2.1];exact Disk.infoD) (by rw [List.size_toArray,List.size_toArray,HL3.out.2.1];rfl) HL3.out.2.2 ?_))
       (try simp only [Exit.inBlock,Exit.then])
       refine bodyPost_ret (Disk.q2r rfl _ _ (S+3) V rfl HL3.out.2.1 (setRow_heap _ _ _ _ _ _ HR.out.1.b3)) rfl ?_
       have hS4:S+4<=wr.heap.size:=HL3.out.1.lt
       have hsz:w.heap.size=S:=HW.out.1
       have keep:∀{e:TypeId} {sz m:Nat} {v:Value} {xs:List Value},x1.ownsRow wr.heap.size e sz v m xs->(x1.setRow (S+3) V.toArray).ownsRow w.heap.size e sz v m xs:=fun h=>q2u (q0j h (fun q hq=>setRow_other x1 (S+3) q _ (by have:=(h.lt q hq).1;omega))) (by omega)
       exact ⟨below_setRow HR.out.1.bl (by omega) _,.inr ⟨HGD.out.1,_,cv,Wn,HL3.out.2,rfl,keep HR.out.2.2.1,fun x hx=>⟨(HR.out.2.2.2.1 x hx).1,keep (HR.out.2.2.2.1 x hx).2⟩,by rw [HGD.out.2];exact HR.out.2.2.2.2⟩⟩
      ·have HC:Box (Calls Tryz.prog 60 #[.slice ua ct uc] wr fun e w'=>e=.returned (.tuple #[.slice none 0 0,.int .i64 11])/\Below wr.heap.size wr w'):=⟨HCH.out.mono fun e w' ⟨hb,hc⟩=>by
        rcases hc with ⟨_,h1⟩ | ⟨h2,_⟩
        ·exact ⟨h1,hb⟩
        ·exact absurd h2 hop⟩
       have HNG:Box (¬LGood d K f n s):=⟨fun h=>hop ((z6e L).2 (by have:=h.2.2;rwa [HLL.out.1] at this))⟩
       clear HCH hop
       go_upto_region 32 with (go_at_call 60;refine Calls.mono HC.out ?_;rintro e x1 ⟨rfl,hb⟩;have HR:Box (Lz w x1 S V K s/\V.length=6/\V.toArray.all (·.oneCell')=true):=⟨HL3.out.1.below hb,HL3.out.2.1,HL3.out.2.2⟩;clear hb)
       clear HC HL3
       go_wp2_with (first
        | (refine Disk.q0v rfl _ rfl S V rfl HR.out.1.b0 HR.out.2.1 ?_)
        | (refine wpList_store_row rfl 36 _ _ rfl (S+3) V.toArray rfl rfl 36 _ HR.out.1.b3 (by rw [List.size_toArray,HR.out.2.1];exact Disk.infoD) (by rw [List.size_toArray,List.size_toArray,HR.out.2.1];rfl) HR.out.2.2 ?_))
       (try simp only [Exit.inBlock,Exit.then])
       refine bodyPost_ret (Disk.q2r rfl _ _ (S+3) V rfl HR.out.2.1 (setRow_heap _ _ _ _ _ _ HR.out.1.b3)) rfl ?_
       exact ⟨below_setRow HR.out.1.bl (by rw [HR.out.1.sz];omega) _,.inl ⟨HNG.out,_,HR.out.2,rfl⟩⟩
   ·have hte:Box ((!decide (chn (ldk d f n s.start ct)=s.tag))=true):=⟨by simp [htag]⟩
    have HNG:Box (¬LGood d K f n s):=⟨fun h=>htag (by rw [<-HLD.out];exact h.1)⟩
    clear htag
    go_upto_region 17 with (first
     | (refine q0c rfl 23 _ _ rfl Tryz.underlying23 rfl T 0 rfl ((chn (ldk d f n s.start ct)).map (Value.int .u8)) HTU.out.1 (q2x H8.out.2.2.2) ?_)
     | (refine q0c rfl 23 _ _ rfl Tryz.underlying23 rfl (S+2) 2 rfl (s.tag.map (Value.int .u8)) HTU.out.2 H8.out.1.cells.2.2.2 ?_)
     | (refine q0b rfl _ _ (q9y _ _ _ rfl (chn (ldk d f n s.start ct)) s.tag (HCL.out ct) HSG.out.2.2.2.2.2.2.2.1 true hte.out rfl rfl) ?_))
    go_wp2_with (first
     | (refine Disk.q0v rfl _ rfl S V rfl HL3.out.1.b0 HL3.out.2.1 ?_)
     | (refine wpList_store_row rfl 36 _ _ rfl (S+3) V.toArray rfl rfl 36 _ HL3.out.1.b3 (by rw [List.size_toArray,HL3.out.2.1];exact Disk.infoD) (by rw [List.size_toArray,List.size_toArray,HL3.out.2.1];rfl) HL3.out.2.2 ?_))
    (try simp only [Exit.inBlock,Exit.then])
    refine bodyPost_ret (Disk.q2r rfl _ _ (S+3) V rfl HL3.out.2.1 (setRow_heap _ _ _ _ _ _ HL3.out.1.b3)) rfl ?_
    exact ⟨below_setRow HL3.out.1.bl (by rw [HL3.out.1.sz];omega) _,.inl ⟨HNG.out,_,HL3.out.2,rfl⟩⟩
end Go.Proofs.YtjejnlebpcjidaaGreatDoor
