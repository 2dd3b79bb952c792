/-
 What sealed of package journal leaves: a record sealed with the next version. And what follows it.
-/
import Derived.Test.YtjejnlebpcjidaaGreatDoorQ01
import Derived.Test.YtjejnlebpcjidaaGreatDoorQ23
set_option linter.unusedVariables false
set_option maxRecDepth 100000
set_option maxRecDepth 100000
namespace Go.Proofs.YtjejnlebpcjidaaGreatDoor
open Go.RowKit Plain
attribute [local go_sem] Oper.semAt_some
def slt (K:List Int) (p:Int) (v:Int) (r:(Int × List Int) × Bool):List Int:=Seal.sl K p v (putP r)
theorem q9p (K:List Int) (p v:Int) (r:(Int × List Int) × Bool):(slt K p v r).length=192:=Seal.length_sl _ _ _ _
theorem z3u (K:List Int) (p v:Int) (r:(Int × List Int) × Bool):Byt (slt K p v r):=Seal.byt_sl _ _ _ _
theorem JC.next {w0 w:World} {J D:Nat} {fp:Nat->Prop} {j:Jt} {d:Disk.Dk} (h:JC w0 w J D fp j d) (x:Int) (hx:1<=x/\x<=18446744073709551615):JC w0 (w.setCell ⟨J,69,none⟩ (.int .u64 x)) J D fp {j with nx:=x} d:=by
 have hb:But J w (w.setCell ⟨J,69,none⟩ (.int .u64 x)):=(But.refl _ _).setCell 69 _
 refine h.turn hb ?_ ⟨h.ok.key,h.ok.kb,h.ok.lo,h.ok.hi,h.ok.st,h.ok.sl,h.ok.cl,hx,h.ok.lim⟩ rfl rfl
 have:=heap_setCell_same w J 69 _ _ (.int .u64 x) h.row
 rw [this,List.setIfInBounds_toArray,jcs,jq_x _ _ _ _ _ _ _ _ h.ok.key h.ok.st]
 rfl
theorem own_bl {w:World} {base n c:Nat} {a:Option Addr} {L:List Int} (h:w.ownsRow base 5 1 (.slice a n c) n (L.map (Value.int .u8))) (hL:Byt L):Bytes w a n L:=q2p h hL
def SlV (w0 w:World) (J D:Nat) (fp:Nat->Prop) (j:Jt) (d:Disk.Dk) (S:List Int) (e:Ending) (w':World):Prop:=
 ∃g,e=.returned (.slice (some ⟨g,0,none⟩) 192 192)/\Bytes w' (some ⟨g,0,none⟩) 192 S/\w.heap.size<=g/\JC w0 w' J D fp {j with nx:=j.nx+1} d/\Fw (fun k=>k=J) w w' fp fp
set_option maxHeartbeats 4000000 in
theorem sealed_v {w0 w:World} {J D:Nat} {fp:Nat->Prop} {j:Jt} {d:Disk.Dk} (C:JC w0 w J D fp j d) (p:Nat) (hp:p<=4294967295) (r:Rc) (hB:Bytes w r.m.ba r.m.bl r.m.bs) (hn:N64 r.m.blk) (hl:r.m.bl=160) (hnx:j.nx<18446744073709551615):
  Calls Tryz.prog 38 #[.pointer (some ⟨J,0,none⟩),.int .u32 (p:Int),.agg (rcc r).toArray] w fun e w'=>SlV w0 w J D fp j d (slt j.key (p:Int) j.nx (rpl r)) e w':=by
 obtain ⟨S,hS⟩:=nm w.heap.size
 obtain ⟨RC,hRC⟩:=nm ((rcc r).toArray)
 rw [hRC]
 obtain ⟨w1,hw1⟩:=nm (w.alloc (.cells RC 95))
 have hb1:Below w.heap.size w w1:=by rw [<-hw1];exact (Below.refl _ _).alloc (Nat.le_refl _) _
 have h1:w1.heap[S]?=some (.cells RC 95 (0,0)):=by rw [<-hw1];exact q0g hS
 have HR1:Box (w1.rangeAt S 0 (rcc r)):=⟨fun i x hx=>by rw [cell_of_row _ _ _ _ _ _ h1,Nat.zero_add,<-hRC];simpa using hx⟩
 have hbs:r.m.bs.length=160:=by rw [hB.1];exact hl
 have hpb:Byt (putP (rpl r)):=z0y (rpl r) hB.2.1
 have HPU:Box (Calls Tryz.prog 73 #[.agg RC] w1 fun e w'=>∃a c,e=.returned (.tuple #[.slice a 176 c,.int .i64 0])/\Bytes w' a 176 (putP (rpl r))/\Below w1.heap.size w1 w'):=⟨by
  have:=rcput_ok r w1 (hB.below hb1) hn hl
  rw [hRC] at this
  exact this.mono fun e w' ⟨a,c,h1,h2,h3⟩=>⟨a,c,h1,own_bl h2 hpb,h3⟩⟩
 have hnx1:=C.ok.nx
 have HSE:Box (∀(x:World) (a:Option Addr) (c:Nat),Below w1.heap.size w1 x->Bytes x a 176 (putP (rpl r))->Calls Tryz.prog 74 #[.agg (u8s j.key),.int .u32 (p:Int),.int .u64 j.nx,.slice a 176 c] x fun e w'=>∃g,e=.returned (.tuple #[.slice (some ⟨g,0,none⟩) 192 192,.int .i64 0])/\Bytes w' (some ⟨g,0,none⟩) 192 (slt j.key (p:Int) j.nx (rpl r))/\x.heap.size<=g/\Below x.heap.size x w'):=⟨fun x a c hx ha=>by
  refine (Seal.seal_ok j.key (putP (rpl r)) (p:Int) j.nx a 176 c x (C.tab.below (q0a C.cx.bel (q0a hb1 hx))) C.ok.key C.ok.kb ⟨by omega,by omega⟩ (by omega) (by omega) (by omega) ha (.inr rfl)).mono ?_
  rintro e w' ⟨g,rfl,ho⟩
  refine ⟨g,rfl,ho.bytes (z3u _ _ _ _),?_,ho.2.2⟩
  exact (q1j ho.2.1 g rfl).1⟩
 have HJ:Box (∀x,Below w1.heap.size w1 x->x.rangeAt J 1 (j.key.map (Value.int .u8))/\x.cell? ⟨J,69,none⟩=some (.int .u64 j.nx)):=⟨fun x hx=>by
  have:=C.jrd (q0a hb1 hx)
  exact ⟨this.key,this.nx⟩⟩
 have HFO:Box (∀x (g:Nat),Below w1.heap.size w1 x->Bytes x (some ⟨g,0,none⟩) 192 (slt j.key (p:Int) j.nx (rpl r))->w1.heap.size<=g->x.frozen? ⟨J,69,none⟩=false/\∀v:Int,v=j.nx+1->SlV w0 w J D fp j d (slt j.key (p:Int) j.nx (rpl r)) (.returned (.slice (some ⟨g,0,none⟩) 192 192)) (x.setCell ⟨J,69,none⟩ (.int .u64 v))):=⟨fun x g hx hg hgl=>by
  have Cx:=C.below (q0a hb1 hx)
  refine ⟨frozen_of_row _ _ _ _ _ Cx.row,fun v hv=>?_⟩
  have hbJ:But J x (x.setCell ⟨J,69,none⟩ (.int .u64 v)):=(But.refl _ _).setCell 69 _
  have hJl:=C.lt
  have hsz:=hb1.size
  refine ⟨g,rfl,?_,by omega,?_,(Fw.below _ fp (q0a hb1 hx)).trans (Fw.of_but (fun k=>k=J) rfl hbJ fp)⟩
  ·obtain ⟨q1,q2,q3⟩:=hg
   refine ⟨q1,q2,fun h=>?_⟩
   obtain ⟨b,o,e,hlt,hc⟩:=q3 h
   cases e
   exact ⟨g,0,rfl,Nat.lt_of_lt_of_le hlt hbJ.size,fun i hi=>(World.cell?_of_block (hbJ.block g hlt (by omega))).trans (hc i hi)⟩
  ·rw [hv]
   exact Cx.next _ (by omega)⟩
 have HN:Box (w.heap.size=S):=⟨hS⟩
 have HIK:Box ((Tryz.prog.info? 23).map (·.size)=some (j.key.map (Value.int .u8)).length/\(Tryz.prog.info? 95).map (·.size)=some (rcc r).length):=⟨by rw [List.length_map,C.ok.key];exact infoSum,infoRc⟩
 have HRC:Box ((rcc r).toArray=RC):=⟨hRC⟩
 have HW:Box (IntKind.u64.wrap (j.nx+1)=j.nx+1):=⟨by rw [IntKind.wrap_u64];omega⟩
 have HKU:Box ((j.key.map (Value.int .u8)).toArray=u8s j.key):=⟨rfl⟩
 obtain ⟨AK,hAK⟩:=nm (u8s j.key)
 rw [hAK] at HSE HKU
 generalize slt j.key (p:Int) j.nx (rpl r)=SS at *
 generalize putP (rpl r)=PP at *
 clear C hB hn hl hbs hpb hb1 h1 hS hRC hAK
 go_enter Tryz.func38,Tryz.ntmps38
 go_upto_region 1 with fail
 (try simp only [HN.out])
 clear hw1
 go_upto_region 2 with (first
  | (refine atLoad 95 ?_;refine q0c rfl 95 _ _ rfl Tryz.underlying95 rfl S 0 rfl (rcc r) HIK.out.2 HR1.out ?_;rw [HRC.out])
  | (go_at_call 73;refine HPU.out.mono ?_;rintro e x1 ⟨a1,c1,rfl,h1,h2⟩;have H1:Box (Below w1.heap.size w1 x1/\Bytes x1 a1 176 PP):=⟨h2,h1⟩;clear h1 h2))
 refine q1g (S:=fun x=>x.rangeAt J 1 (j.key.map (Value.int .u8))/\x.cell? ⟨J,69,none⟩=some (.int .u64 j.nx)) (by kernel_rfl) (fun wd hwd=>?_)
 have hbd:Below x1.heap.size x1 wd:=by rw [hwd];exact (Below.refl _ _).drew
 clear hwd
 have hb1d:=q0a H1.out.1 hbd
 have hS:=HJ.out wd hb1d
 refine take_y (i:=0) rfl hS ?_
 try simp only [Act.put,pC,pD,pE,pF,pG]
 refine take_y (i:=1) rfl hS ?_
 try simp only [Act.put,pC,pD,pE,pF,pG,pH]
 refine take_y (i:=2) rfl hS ?_
 try simp only [Act.put,pC,pD,pE,pF,pG,pH]
 refine take_x (i:=3) (v:=.agg AK) rfl (fun w' hLat=>by rw [<-HKU.out];exact q0k 23 _ _ rfl Tryz.underlying23 rfl J 1 rfl (j.key.map (Value.int .u8)) HIK.out.1 hLat.1) hS ?_
 try simp only [Act.put,pC,pD,pE,pF,pG,pH]
 refine take_y (i:=4) rfl hS ?_
 try simp only [Act.put,pC,pD,pE,pF,pG,pH]
 refine take_y (i:=5) rfl hS ?_
 try simp only [Act.put,pC,pD,pE,pF,pG,pH]
 refine take_y (i:=6) rfl hS ?_
 try simp only [Act.put,pC,pD,pE,pF,pG,pH]
 refine take_y (i:=7) rfl hS ?_
 try simp only [Act.put,pC,pD,pE,pF,pG,pH]
 refine take_x (i:=8) (v:=.int .u64 j.nx) rfl (fun w' hLat=>q0w 25 _ _ rfl Tryz.underlying25 rfl _ rfl _ hLat.2) hS ?_
 try simp only [Act.put,pC,pD,pE,pF,pG,pH]
 refine take_y (i:=9) rfl hS ?_
 try simp only [Act.put,pC,pD,pE,pF,pG,pH]
 refine q0m (i:=10) (by kernel_rfl) ?_
 refine q0d rfl (by rfl) ?_
 go_simp
 refine Calls.mono (HSE.out wd a1 c1 hb1d (H1.out.2.below hbd)) ?_
 rintro e x2 ⟨g,rfl,hg1,hg2,hb2⟩
 have H2:Box (Below w1.heap.size w1 x2/\Bytes x2 (some ⟨g,0,none⟩) 192 SS/\w1.heap.size<=g):=⟨q0a hb1d hb2,hg1,Nat.le_trans hb1d.size hg2⟩
 clear hg1 hg2 hb2
 have hS:=HJ.out x2 H2.out.1
 refine ⟨hS,?_⟩
 try simp only [Act.put,pC,pD,pE,pF,pG,pH]
 refine take_y (i:=11) rfl hS ?_
 try simp only [Act.put,pC,pD,pE,pF,pG,pH]
 refine take_y (i:=12) rfl hS ?_
 try simp only [Act.put,pC,pD,pE,pF,pG,pH]
 refine take_y (i:=13) rfl hS ?_
 try simp only [Act.put,pC,pD,pE,pF,pG,pH]
 refine take_y (i:=14) rfl hS ?_
 try simp only [Act.put,pC,pD,pE,pF,pG,pH]
 refine take_y (i:=15) rfl hS ?_
 try simp only [Act.put,pC,pD,pE,pF,pG,pH]
 refine wpAnyH_done (by kernel_rfl) ?_ _
 clear hbd hb1d
 obtain ⟨hfz,hfo⟩:=HFO.out x2 g H2.out.1 H2.out.2.1 H2.out.2.2
 have cnx:=hS.2
 have HFF:Box _:=⟨hfo⟩
 have hww:=HW.out
 clear hfo hS HFO HSE HPU HJ
 go_wp2
 go_ret
 exact HFF.out _ rfl
end Go.Proofs.YtjejnlebpcjidaaGreatDoor
namespace Go.Proofs.YtjejnlebpcjidaaGreatDoor
open Go.RowKit Plain
attribute [local go_sem] Oper.semAt_some
theorem scs_count (s:Jst) (c:Nat):(scs s).set 1 (.int .u64 (c:Int))=scs {s with count:=c}:=rfl
theorem scs_tag (s:Jst) (L:List Int) (hs:s.tag.length=32) (hL:L.length=32):splice (scs s) 2 (L.map (Value.int .u8))=scs {s with tag:=L}:=by
 simp [splice,scs,hs,hL]
def nxS (j:Jt) (s:Jst) (p:Nat) (S:List Int):Jst:=⟨s.start,s.count+1,lnk s.tag (p:Int) S⟩
def CloV (w0 w:World) (J D:Nat) (fp:Nat->Prop) (j:Jt) (T:Nat) (s':Jst) (q:Disk.Dk × Int) (e:Ending) (w':World):Prop:=
 ∃fp',e=.returned (.int .i64 q.2)/\JC w0 w' J D fp' {j with nx:=j.nx+1} q.1/\w'.heap[T]?=some (.cells (sa s') 27 (0,0))/\Fw (fun k=>k=J∨k=T) w w' fp fp'
theorem z5g {w w':World} {g n:Nat} {L:List Int} (h:Bytes w (some ⟨g,0,none⟩) n L) (hs:g<w.heap.size->w'.heap[g]?=w.heap[g]?) (hz:w.heap.size<=w'.heap.size):Bytes w' (some ⟨g,0,none⟩) n L:=by
 refine ⟨h.1,h.2.1,fun hp=>?_⟩
 obtain ⟨b,o,e,hlt,hc⟩:=h.2.2 hp
 cases e
 exact ⟨g,0,rfl,Nat.lt_of_lt_of_le hlt hz,fun i hi=>(World.cell?_of_block (hs hlt)).trans (hc i hi)⟩
set_option maxHeartbeats 8000000 in
theorem clo_v {w0 w:World} {J D:Nat} {fp:Nat->Prop} {j:Jt} {d:Disk.Dk} (C:JC w0 w J D fp j d) (B T:Nat) (s:Jst) (hs:OkS s) (hc:s.start+s.count<=100000) (hB:w.heap[B]?=some (.cells #[.pointer (some ⟨J,0,none⟩)] 39 (0,0))) (hTr:w.heap[T]?=some (.cells (sa s) 27 (0,0))) (nB:¬fp B) (nT:¬fp T) (BJ:B≠J) (TJ:T≠J) (BT:B≠T) (hT0:w0.heap.size<=T)
  (r:Rc) (hby:Bytes w r.m.ba r.m.bl r.m.bs) (hn:N64 r.m.blk) (hl:r.m.bl=160) (hnx:j.nx<18446744073709551615) (hdl:0<=d.left/\d.left<=9223372036854775807) (hop:d.ops.length<1000000) (hup:d.uw.length<1000000)
  (p:Nat) (hp:plc j (s.start+s.count)=p) (SS:List Int) (hSS:slt j.key (p:Int) j.nx (rpl r)=SS) (q:Disk.Dk × Int) (hq:dwr d p SS=q):
  Calls Tryz.prog 36 #[.agg (rcc r).toArray,.pointer (some ⟨B,0,none⟩),.pointer (some ⟨T,0,none⟩)] w fun e w'=>CloV w0 w J D fp j T (if q.2=0 then nxS j s p SS else s) q e w':=by
 obtain ⟨s',hs'⟩:=nm ((if q.2=0 then nxS j s p SS else s))
 rw [hs']
 have HSP:Box ((q.2=0->s'=nxS j s p SS)/\(q.2≠0->s'=s)):=⟨fun h=>by rw [<-hs',if_pos h],fun h=>by rw [<-hs',if_neg h]⟩
 clear hs'
 obtain ⟨S,hS⟩:=nm w.heap.size
 obtain ⟨RC,hRC⟩:=nm ((rcc r).toArray)
 rw [hRC]
 obtain ⟨w1,hw1⟩:=nm (w.alloc (.cells RC 95))
 have hb1:Below w.heap.size w w1:=by rw [<-hw1];exact (Below.refl _ _).alloc (Nat.le_refl _) _
 have h1:w1.heap[S]?=some (.cells RC 95 (0,0)):=by rw [<-hw1];exact q0g hS
 have hBl:=(gE hB)
 have hTl:=(gE hTr)
 have hpl:p<j.first+j.size:=by rw [<-hp];exact plc_lt j _ C.ok.lo
 have hp2:p<=4294967295:=by have:=C.ok.hi;omega
 have hpd:p<d.n:=by have:=C.fit;omega
 have hSb:Byt SS:=by rw [<-hSS];exact z3u _ _ _ _
 have hSl:SS.length=192:=by rw [<-hSS];exact q9p _ _ _ _
 -- what is read of the boxes
 have HBT:Box (∀x,Below w.heap.size w x->x.cell? ⟨B,0,none⟩=some (.pointer (some ⟨J,0,none⟩))/\x.cell? ⟨T,0,none⟩=some (.int .u64 (s.start:Int))/\x.cell? ⟨T,1,none⟩=some (.int .u64 (s.count:Int))):=⟨fun x hx=>by
  refine ⟨?_,?_,?_⟩
  ·rw [cell_of_row _ _ _ _ _ _ ((hx.block B hBl).trans hB)];rfl
  ·rw [cell_of_row _ _ _ _ _ _ ((hx.block T hTl).trans hTr)];rfl
  ·rw [cell_of_row _ _ _ _ _ _ ((hx.block T hTl).trans hTr)];rfl⟩
 have HPL:Box (Calls Tryz.prog 37 #[.pointer (some ⟨J,0,none⟩),.int .u64 ((s.start+s.count:Nat):Int)] w1 fun e w'=>e=.returned (.int .u32 (p:Int))/\Below w1.heap.size w1 w'):=⟨by
  have:=place_any (C.below hb1).rd C.ok (C.below hb1).lt (s.start+s.count) _ rfl
  rw [hp] at this
  exact this⟩
 have HR1:Box (∀x,Below w1.heap.size w1 x->x.rangeAt S 0 (rcc r)):=⟨fun x hx i v hv=>by rw [cell_of_row _ _ _ _ _ _ ((hx.block S (gE h1)).trans h1),Nat.zero_add,<-hRC];simpa using hv⟩
 have HSE:Box (∀x,Below w1.heap.size w1 x->Calls Tryz.prog 38 #[.pointer (some ⟨J,0,none⟩),.int .u32 (p:Int),.agg RC] x fun e w'=>SlV w0 x J D fp j d SS e w'):=⟨fun x hx=>by
  have:=sealed_v (C.below (q0a hb1 hx)) p hp2 r (hby.below (q0a hb1 hx)) hn hl hnx
  rw [hRC,hSS] at this
  exact this⟩
 have HFW:Box (∀x x2:World,Below w1.heap.size w1 x->Fw (fun k=>k=J) x x2 fp fp->JC w0 x2 J D fp {j with nx:=j.nx+1} d->x2.cell? ⟨B,0,none⟩=some (.pointer (some ⟨J,0,none⟩))/\x2.cell? ⟨J,0,none⟩=some (.pointer (some ⟨D,0,none⟩))/\Fw (fun k=>k=J∨k=T) w x2 fp fp/\x2.heap[T]?=some (.cells (sa s) 27 (0,0))/\w.heap.size<=x2.heap.size):=⟨fun x x2 hx hf hc=>by
  have hwx:=q0a hb1 hx
  have hz:=hwx.size
  refine ⟨?_,hc.rd.disk,((Fw.below _ fp hwx).trans hf).wider (fun k _ h=>.inl h),?_,Nat.le_trans hz hf.size⟩
  ·exact (World.cell?_of_block (hf.block (Nat.lt_of_lt_of_le hBl hz) nB BJ)).trans (HBT.out x hwx).1
  ·exact (hf.block (Nat.lt_of_lt_of_le hTl hz) nT TJ).trans ((hwx.block T hTl).trans hTr)⟩
 have HDW:Box (∀(x2:World) (g:Nat),JC w0 x2 J D fp {j with nx:=j.nx+1} d->Bytes x2 (some ⟨g,0,none⟩) 192 SS->w.heap.size<=g->Calls Tryz.prog 21 #[.pointer (some ⟨D,0,none⟩),.int .i64 (p:Int),.slice (some ⟨g,0,none⟩) 192 192] x2 fun e w'=>e=.returned (.int .i64 q.2)/\q.1.n=d.n/\∃fp',Disk.Cx w0 w' D fp' q.1/\Disk.Fol x2 fp w' fp'):=⟨fun x2 g hc hb hg=>by
  have:=dwrite_v hc.cx p (some ⟨g,0,none⟩) 192 SS hb (fun ad e hf=>by cases e;have:=C.cx.hi _ hf;simp only at this;omega) hpd hdl hop hup
  rw [hq] at this
  exact this⟩
 -- behind the write
 have HEN:Box (∀(x2 x3:World) (fp':Nat->Prop) (g:Nat),JC w0 x2 J D fp {j with nx:=j.nx+1} d->Fw (fun k=>k=J∨k=T) w x2 fp fp->x2.heap[T]?=some (.cells (sa s) 27 (0,0))->Bytes x2 (some ⟨g,0,none⟩) 192 SS->w.heap.size<=g->w.heap.size<=x2.heap.size->q.1.n=d.n->Disk.Cx w0 x3 D fp' q.1->Disk.Fol x2 fp x3 fp'->
   JC w0 x3 J D fp' {j with nx:=j.nx+1} q.1/\Fw (fun k=>k=J∨k=T) w x3 fp fp'/\x3.heap[T]?=some (.cells (sa s) 27 (0,0))/\Bytes x3 (some ⟨g,0,none⟩) 192 SS/\¬fp' T/\T<x3.heap.size):=⟨fun x2 x3 fp' g hc hf ht hb hg hz hqn hcx hfo=>by
  have hTl2:=Nat.lt_of_lt_of_le hTl hz
  refine ⟨hc.fol hcx hfo hqn,hf.trans (Fw.of_fol hfo _),(hfo.t.block T hTl2 nT).trans ht,z5g hb (fun hlt=>hfo.t.block g hlt (fun h=>by have:=C.cx.hi _ h;omega)) hfo.t.size,hfo.k T hTl2 nT,Nat.lt_of_lt_of_le hTl2 hfo.t.size⟩⟩
 have HLK:Box (∀(x:World),JC w0 x J D (fun _=>False) j d∨Dig.Tabs x->True):=⟨fun _ _=>trivial⟩
 have HLN:Box (∀(x:World) (g:Nat),Dig.Tabs x->Bytes x (some ⟨g,0,none⟩) 192 SS->Calls Tryz.prog 29 #[.agg (u8s s.tag),.int .u32 (p:Int),.slice (some ⟨g,0,none⟩) 192 192] x fun e w'=>e=.returned (.agg (u8s (lnk s.tag (p:Int) SS)))/\Below x.heap.size x w'):=⟨fun x g ht hb=>z6n s.tag (p:Int) _ 192 192 SS x ht hs.lt hs.bt ⟨by omega,by omega⟩ hb (by omega) (by omega) (by omega)⟩
 have hw3:IntKind.u64.wrap ((s.start:Int)+(s.count:Int))=((s.start+s.count:Nat):Int):=by rw [IntKind.wrap_u64];omega
 have hw4:IntKind.u64.wrap ((s.count:Int)+1)=((s.count+1:Nat):Int):=by rw [IntKind.wrap_u64];omega
 have hw5:IntKind.i64.wrap (p:Int)=(p:Int):=by rw [IntKind.wrap_i64];omega
 have HN:Box (w.heap.size=S):=⟨hS⟩
 have HRC:Box ((rcc r).toArray=RC/\(Tryz.prog.info? 95).map (·.size)=some (rcc r).length):=⟨hRC,infoRc⟩
 have HSO:Box (OkS s/\w0.heap.size<=T/\J≠T):=⟨hs,hT0,fun e=>TJ e.symm⟩
 have HLL:Box ((lnk s.tag (p:Int) SS).length=32/\Byt (lnk s.tag (p:Int) SS)):=⟨q2w _,q8c _⟩
 have HNX:Box (nxS j s p SS=⟨s.start,s.count+1,lnk s.tag (p:Int) SS⟩):=⟨rfl⟩
 obtain ⟨c1,c2,c3⟩:=HBT.out w1 hb1
 have HB1:Box (Below w.heap.size w w1):=⟨hb1⟩
 generalize lnk s.tag (p:Int) SS=XX at HLN HLL HNX
 clear C hc hB hTr nB nT BJ TJ BT hT0 hby hn hl hnx hdl hop hup hp hSS hq hb1 h1 hBl hTl hpl hp2 hpd hSb hSl hS hRC hs HLK
 go_enter Tryz.func36,Tryz.ntmps36
 go_upto_region 1 with fail
 (try simp only [HN.out])
 clear hw1
 go_upto_region 2 with (go_at_call 37;refine HPL.out.mono ?_;rintro e x1 ⟨rfl,hb⟩;have H1:Box (Below w1.heap.size w1 x1):=⟨hb⟩;clear hb)
 have c1':=(HBT.out x1 (q0a HB1.out H1.out)).1
 have HRX:Box (x1.rangeAt S 0 (rcc r)):=⟨HR1.out x1 H1.out⟩
 clear c1 c2 c3 HPL HR1
 go_upto_region 3 with (first
  | (refine atLoad 95 ?_;refine q0c rfl 95 _ _ rfl Tryz.underlying95 rfl S 0 rfl (rcc r) HRC.out.2 HRX.out ?_;rw [HRC.out.1])
  | (go_at_call 38;refine (HSE.out x1 H1.out).mono ?_;rintro e x2 ⟨g,rfl,hg1,hg2,hg3,hg4⟩;have H2:Box (Bytes x2 (some ⟨g,0,none⟩) 192 SS/\w.heap.size<=g/\JC w0 x2 J D fp {j with nx:=j.nx+1} d/\Fw (fun k=>k=J) x1 x2 fp fp):=⟨hg1,Nat.le_trans (q0a HB1.out H1.out).size hg2,hg3,hg4⟩;clear hg1 hg2 hg3 hg4))
 clear HSE HRX c1'
 obtain ⟨e1,e2,e3,e4,e5⟩:=HFW.out x1 x2 H1.out H2.out.2.2.2 H2.out.2.2.1
 have H3:Box (Fw (fun k=>k=J∨k=T) w x2 fp fp/\x2.heap[T]?=some (.cells (sa s) 27 (0,0))/\w.heap.size<=x2.heap.size):=⟨e3,e4,e5⟩
 clear e3 e4 e5 HFW
 go_upto_region 4 with (go_at_call 21;refine (HDW.out x2 g H2.out.2.2.1 H2.out.1 H2.out.2.1).mono ?_;rintro e x3 ⟨rfl,hqn,fp',hcx,hfo⟩;have H4:Box _:=⟨HEN.out x2 x3 fp' g H2.out.2.2.1 H3.out.1 H3.out.2.1 H2.out.1 H2.out.2.1 H3.out.2.2 hqn hcx hfo⟩;clear hqn hcx hfo)
 clear e1 e2 HDW HEN
 obtain ⟨qd,qe⟩:=q
 simp only at *
 by_cases h0:qe=0
 ·have HE:Box (qe=0):=⟨h0⟩
  have h0b:(qe != 0)=false:=by simp [h0]
  have h0c:(qe==0)=true:=by simp [h0]
  have es:=HSP.out.1 h0
  subst es
  obtain ⟨f1,f2,f3,f4,f5,f6⟩:=H4.out
  have d1:x3.cell? ⟨T,1,none⟩=some (.int .u64 (s.count:Int)):=by rw [cell_of_row _ _ _ _ _ _ f3];rfl
  have d2:x3.frozen? ⟨T,1,none⟩=false:=frozen_of_row _ _ _ _ _ f3
  clear f1 f2 f3 f4 f5 f6 h0
  go_upto_region 7 with fail
  obtain ⟨y,hy⟩:=nm (x3.setCell ⟨T,1,none⟩ (.int .u64 ((s.count:Int)+1)))
  simp only [hy]
  have hyr:y.heap[T]?=some (.cells (sa {s with count:=s.count+1}) 27 (0,0)):=by
   rw [<-hy,heap_setCell_same x3 T 1 _ _ _ H4.out.2.2.1,sa,List.setIfInBounds_toArray,show (s.count:Int)+1=((s.count+1:Nat):Int) by omega,scs_count]
   rfl
  have hyb:But T x3 y:=by rw [<-hy];exact (But.refl _ _).setCell 1 _
  obtain ⟨f1,f2,f3,f4,f5,f6⟩:=H4.out
  have Cy:=f1.set T hyb f5 (fun e=>HSO.out.2.2 e.symm) HSO.out.2.1
  have HY:Box (JC w0 y J D fp' {j with nx:=j.nx+1} qd/\y.heap[T]?=some (.cells (sa {s with count:=s.count+1}) 27 (0,0))/\Fw (fun k=>k=J∨k=T) w y fp fp'):=⟨Cy,hyr,f2.trans (Fw.of_but _ (.inr rfl) hyb fp')⟩
  have HTG:Box (y.rangeAt T 2 (s.tag.map (Value.int .u8))):=⟨fun i v hv=>by
   rw [cell_of_row _ _ _ _ _ _ hyr,sa,List.getElem?_toArray,show 2+i=i+1+1 by omega,scs,List.getElem?_cons_succ,List.getElem?_cons_succ]
   exact hv⟩
  have HIT:Box ((Tryz.prog.info? 23).map (·.size)=some (s.tag.map (Value.int .u8)).length/\(s.tag.map (Value.int .u8)).toArray=u8s s.tag):=⟨by rw [List.length_map,HSO.out.1.lt];exact infoSum,rfl⟩
  have HGB:Box (Bytes y (some ⟨g,0,none⟩) 192 SS):=⟨by
   refine z5g f4 (fun hlt=>hyb.block g hlt (fun e=>?_)) hyb.size
   have:=H2.out.2.1
   have hb:=f4.2.2 (by omega)
   obtain ⟨b,o,e',_,hcc⟩:=hb
   cases e'
   have h5:=hcc 0 (by omega)
   rw [e,cell_of_row _ _ _ _ _ _ f3] at h5
   simp [sa,scs] at h5⟩
  clear f1 f2 f3 f4 f5 f6 hyr hyb Cy hy d1 d2
  have HLN1:Box (Calls Tryz.prog 29 #[.agg (u8s s.tag),.int .u32 (p:Int),.slice (some ⟨g,0,none⟩) 192 192] y fun e w'=>e=.returned (.agg (u8s XX))/\Below y.heap.size y w'):=⟨HLN.out y g (HY.out.1.dig.below HY.out.1.cx.bel) HGB.out⟩
  clear HLN
  have HXI:Box ((Tryz.prog.info? 23).map (·.size)=some (u8s XX).size):=⟨by rw [q0h,HLL.out.1];exact infoSum⟩
  go_upto_region 8 with (first
   | (refine atLoad 23 ?_;refine q0c rfl 23 _ _ rfl Tryz.underlying23 rfl T 2 rfl (s.tag.map (Value.int .u8)) HIT.out.1 HTG.out ?_;rw [HIT.out.2])
   | (go_at_call 29;refine HLN1.out.mono ?_;rintro e x4 ⟨rfl,hb⟩;have H5:Box (Below y.heap.size y x4/\x4.heap[T]?=some (.cells (sa {s with count:=s.count+1}) 27 (0,0))):=⟨hb,(hb.block T (gE HY.out.2.1)).trans HY.out.2.1⟩;have HTH:Box (x4.there T 2 (u8s XX).size):=⟨q0z H5.out.2 (by rw [q0h,HLL.out.1,sa,List.size_toArray];simp [scs,HSO.out.1.lt])⟩;clear hb)
   | (refine atStore _ ?_;refine wpList_store_mid rfl 23 _ _ rfl T 2 (u8s XX) rfl rfl HTH.out HXI.out (q1r XX) ?_))
  obtain ⟨z,hz⟩:=nm (x4.setCells T 2 (u8s XX).toList)
  (try simp only [hz])
  have hzr:z.heap[T]?=some (.cells (sa ⟨s.start,s.count+1,XX⟩) 27 (0,0)):=by
   rw [<-hz,show (u8s XX).toList=XX.map (Value.int .u8) by simp [u8s],q1h T _ _ 2 (scs {s with count:=s.count+1}) x4 H5.out.2 (by simp [scs,HSO.out.1.lt,HLL.out.1]),scs_tag {s with count:=s.count+1} XX HSO.out.1.lt HLL.out.1]
   rfl
  have hzb:But T x4 z:=by rw [<-hz];exact q0t T _ 2 _ _ (But.refl _ _)
  have Cx4:=HY.out.1.below H5.out.1
  have HZ:Box (JC w0 z J D fp' {j with nx:=j.nx+1} qd/\z.heap[T]?=some (.cells (sa (nxS j s p SS)) 27 (0,0))/\Fw (fun k=>k=J∨k=T) w z fp fp'):=⟨Cx4.set T hzb H4.out.2.2.2.2.1 (fun e=>HSO.out.2.2 e.symm) HSO.out.2.1,by rw [HNX.out];exact hzr,(HY.out.2.2.trans (Fw.below _ fp' H5.out.1)).trans (Fw.of_but _ (.inr rfl) hzb fp')⟩
  clear hz hzr hzb Cx4
  go_wp2
  go_ret
  exact ⟨fp',by rw [HE.out];rfl,HZ.out⟩
 ·have h0b:(qe != 0)=true:=by simp [h0]
  have h0c:(qe==0)=false:=by simp [h0]
  have es:=HSP.out.2 h0
  subst es
  clear h0
  go_wp2
  go_ret
  exact ⟨fp',rfl,H4.out.1,H4.out.2.2.1,H4.out.2.1⟩
end Go.Proofs.YtjejnlebpcjidaaGreatDoor
