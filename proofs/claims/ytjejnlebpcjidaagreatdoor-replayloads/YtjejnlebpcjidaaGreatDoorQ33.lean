/-
 What chain and opened of package replay answer. And what follows it.
-/
import Derived.Test.YtjejnlebpcjidaaGreatDoorQ32
import Derived.Test.YtjejnlebpcjidaaGreatDoorQ15
import Derived.Test.YtjejnlebpcjidaaGreatDoorQ26
import Derived.Test.YtjejnlebpcjidaaGreatDoorQ28
set_option linter.unusedVariables false
set_option maxRecDepth 100000
set_option maxRecDepth 100000
namespace Go.Proofs.YtjejnlebpcjidaaGreatDoor
open Go.RowKit Plain
attribute [local go_sem] Oper.semAt_some
def chn (L:List (Nat × List Int)):List Int:=L.foldl (fun t x=>lnk t (x.1:Int) x.2) z32
theorem q6x (L:List (Nat × List Int)) (x:Nat × List Int):chn (L++[x])=lnk (chn L) (x.1:Int) x.2:=by simp [chn]
theorem q4k (L:List (Nat × List Int)):(chn L).length=32/\Byt (chn L):=by
 rcases List.eq_nil_or_concat L with rfl | ⟨L,x,rfl⟩
 ·exact ⟨q1l,z0w⟩
 ·rw [List.concat_eq_append,q6x]
  exact ⟨q2w _,q8c _⟩
theorem q1r (L:List Int):(u8s L).all (·.oneCell')=true:=by simp [u8s,Value.oneCell']
theorem Slots.at {w:World} {B n c:Nat} {a:Option Addr} {X:List Sl} (h:Slots w B (.slice a n c) X) (hn:X.length=n) (k:Nat) (hk:k<X.length):∃b,a=some ⟨b,0,none⟩/\w.rangeAt b (0+k*2) (stc X[k])/\b<w.heap.size:=by
 have hr:=h.row
 rw [hn] at hr
 rcases hr.2 with ⟨_,h0⟩ | ⟨g,cap,cur,h3,_,hg,_⟩
 ·omega
 ·simp only [Value.slice.injEq,true_and] at h3
  obtain ⟨rfl,rfl⟩:=h3
  obtain ⟨b,o,e,hlt,hh⟩:=q6f (f:=stc) (fun _=>rfl) hr hn (by omega)
  cases e
  exact ⟨g,rfl,hh k hk,hlt⟩
theorem Slots.form {w:World} {B:Nat} {v:Value} {X:List Sl} (h:Slots w B v X):∃a c,v=.slice a X.length c:=by
 rcases h.row.2 with ⟨h1,h2⟩ | ⟨g,cap,cur,rfl,_⟩
 ·exact ⟨none,0,by rw [h1,h2]⟩
 ·exact ⟨_,_,rfl⟩
theorem q2x {w:World} {g:Nat} {L:List Int} {t:TypeId} (h:w.heap[g]?=some (.cells (u8s L) t (0,0))):w.rangeAt g 0 (L.map (Value.int .u8)):=fun i v hv=>by
 rw [cell_of_row _ _ _ _ _ _ h,Nat.zero_add]
 simpa [u8s] using hv
structure ChR (w wr:World) (S:Nat) (L:List (Nat × List Int)):Prop where
 r0:wr.heap[S]?=some (.cells (u8s z32) 23 (0,0))
 r1:wr.heap[S+1]?=some (.cells (u8s (chn L)) 23 (0,0))
 bel:Below w.heap.size w wr
set_option maxHeartbeats 4000000 in
theorem chain_v {w:World} {B:Nat} {v:Value} {X:List Sl} (h:Slots w B v X) (hT:Dig.Tabs w) (hl:X.length<=1000000):
  Calls Tryz.prog 54 #[v] w fun e w'=>e=.returned (.agg (u8s (chn (X.map spl))))/\Below w.heap.size w w':=by
 obtain ⟨a,c,rfl⟩:=h.form
 obtain ⟨n,hn⟩:=nm X.length
 rw [hn] at h hl ⊢
 obtain ⟨S,hS⟩:=nm w.heap.size
 obtain ⟨w1,hw1⟩:=nm ((w.alloc (.cells (u8s z32) 23)).alloc (.cells (u8s z32) 23))
 have hb1:Below w.heap.size w w1:=by rw [<-hw1];exact ((Below.refl _ _).alloc (Nat.le_refl _) _).alloc (by simp) _
 have H0:Box (ChR w w1 S ((X.map spl).take 0)):=⟨⟨by rw [<-hw1];exact q0i (q0g hS),by rw [<-hw1];exact q0g (by simp [hS]),hb1⟩⟩
 have hs2:(w.alloc (.cells (u8s z32) 23)).heap.size=S+1:=by simp [hS]
 have HSS:Box (w.heap.size=S):=⟨hS⟩
 have HX:Box (∀wr,Below w.heap.size w wr->∀k (hk:k<X.length),∃b,a=some ⟨b,0,none⟩/\wr.rangeAt b (0+k*2) (stc X[k])/\b<wr.heap.size):=⟨fun wr hb k hk=>(h.to hb).at hn k hk⟩
 have HLK:Box (∀(wr y:World) (k:Nat) (hk:k<X.length) (T:List Int),chn ((X.map spl).take k)=T->Below w.heap.size w wr->Below wr.heap.size wr y->Calls Tryz.prog 29 #[.agg (u8s T),.int .u32 (X[k].p:Int),.slice (some ⟨X[k].g,0,none⟩) 192 192] y fun e w'=>e=.returned (.agg (u8s (chn ((X.map spl).take (k+1)))))/\Below y.heap.size y w'):=⟨fun wr y k hk T hTT hb hy=>by
  have o:=(h.to (q0a hb hy)).byt X[k] (List.getElem_mem hk)
  have hc:=q4k ((X.map spl).take k)
  have hk2:k<(X.map spl).length:=by simpa using hk
  rw [List.take_succ_eq_append_getElem hk2,q6x,hTT,List.getElem_map]
  exact z6n T _ _ 192 192 _ y (hT.below (q0a hb hy)) (by rw [<-hTT];exact hc.1) (by rw [<-hTT];exact hc.2) ⟨by omega,by have:=o.pl;omega⟩ o.bytes (by omega) (by omega) (by omega)⟩
 have HN:Box (X.length=n):=⟨hn⟩
 have HU:Box ((Tryz.prog.info? 23).map (·.size)=some (u8s z32).size/\∀L:List (Nat × List Int),(Tryz.prog.info? 23).map (·.size)=some (u8s (chn L)).size/\(Tryz.prog.info? 23).map (·.size)=some ((chn L).map (Value.int .u8)).length):=⟨by rw [q0h,q1l];exact infoSum,fun L=>⟨by rw [q0h,(q4k L).1];exact infoSum,by rw [List.length_map,(q4k L).1];exact infoSum⟩⟩
 clear h hT hb1 hn hS
 go_enter Tryz.func54,Tryz.ntmps54
 go_upto_region 2 with (refine atAlloc _ ?_;refine q0b rfl _ _ (q0e 23 rfl _ zeroSum) ?_)
 (try rw [hs2])
 (try simp only [HSS.out,hw1])
 clear hw1 hs2
 go_wp2
 go_loopw [8] (fun i wr=>∃k:Nat,k<=n/\i=.int .i64 (k:Int)/\Box (ChR w wr S ((X.map spl).take k))) (fun i _=>n-(intOf i).toNat)
 case atStart=>exact ⟨0,Nat.zero_le _,rfl,H0⟩
 case round=>
  clear H0
  obtain ⟨k,hk,rfl,HG⟩:=hrel
  by_cases hlt:k<n
  ·have hlt1:decide ((k:Int)<(n:Int))=true:=by simp;omega
   have hkX:k<X.length:=by rw [HN.out];exact hlt
   obtain ⟨b,rfl,hr,hbl⟩:=HX.out wr HG.out.bel k hkX
   have HR:Box (wr.rangeAt b (0+k*2) (stc X[k])):=⟨hr⟩
   have HK:Box (k<n):=⟨hlt⟩
   obtain ⟨T,hTT⟩:=nm (chn ((X.map spl).take k))
   obtain ⟨G,hG⟩:=nm wr.heap.size
   have hGl:S+1<G:=by rw [<-hG];exact (gE HG.out.r1)
   have HCL:Box _:=⟨fun y=>HLK.out wr y k hkX T hTT HG.out.bel⟩
   have HTU:Box ((Tryz.prog.info? 23).map (·.size)=some (T.map (Value.int .u8)).length/\∀y,Below wr.heap.size wr y->y.rangeAt (S+1) 0 (T.map (Value.int .u8))/\y.heap[S+1]?=some (.cells (u8s T) 23 (0,0))):=⟨by rw [<-hTT];exact (HU.out.2 _).2,fun y hy=>by
    have:=(hy.block (S+1) (by omega)).trans HG.out.r1
    rw [hTT] at this
    exact ⟨q2x this,this⟩⟩
   have HEN:Box (∀y y2,Below wr.heap.size wr y->Below y.heap.size y y2->ChR w (y2.setRow (S+1) (u8s (chn ((X.map spl).take (k+1))))) S ((X.map spl).take (k+1))):=⟨fun y y2 hy hy2=>by
    have hb:=q0a hy hy2
    have r1:=(hb.block (S+1) (by omega)).trans HG.out.r1
    refine ⟨?_,setRow_heap _ _ _ _ _ _ r1,below_setRow (q0a HG.out.bel hb) (by have:=HSS.out;omega) _⟩
    rw [setRow_other _ _ _ _ (by omega)]
    exact (hb.block S (by omega)).trans HG.out.r0⟩
   obtain ⟨⟨p,g,bs⟩,hx⟩:∃x,X[k]=x:=⟨_,rfl⟩
   obtain ⟨T2,hT2⟩:=nm (chn ((X.map spl).take (k+1)))
   have HT2:Box (chn ((X.map spl).take (k+1))=T2/\(Tryz.prog.info? 23).map (·.size)=some (u8s T2).size/\(u8s T).size=(u8s T2).size):=⟨hT2,by rw [<-hT2];exact (HU.out.2 _).1,by rw [q0h,q0h,<-hT2,<-hTT,(q4k _).1,(q4k _).1]⟩
   have HHG:Box (wr.heap.size=G):=⟨hG⟩
   rw [hx] at HR HCL
   simp only [hT2,stc] at HR HCL HEN
   clear hx hT2 hTT hr hG
   go_upto_region 5 with (first
    | (refine atIdx 125 ?_;refine q0b rfl _ _ (q0p 125 168 Tryz.underlying125 2 infoStl _ _ rfl b 0 n c k rfl rfl HK.out) ?_)
    | (refine atLoad 168 ?_;refine q0c rfl 168 _ _ rfl Tryz.underlying168 rfl b (0+k*2) rfl [.int .u32 (p:Int),.slice (some ⟨g,0,none⟩) 192 192] infoStl HR.out ?_)
    | (refine atAlloc _ ?_;refine q0b rfl _ _ (q0e 168 rfl _ zeroStl) ?_)
    | (refine atStore _ ?_;refine q0o wr #[.int .u32 0,.slice none 0 0] #[.int .u32 (p:Int),.slice (some ⟨g,0,none⟩) 192 192] infoStl rfl (by simp [Value.oneCell']) rfl _ _ rfl rfl rfl rfl ?_;intro x1 h1 hb1;have H1:Box (x1.heap[wr.heap.size]?=some (.cells #[.int .u32 (p:Int),.slice (some ⟨g,0,none⟩) 192 192] 168 (0,0))/\Below wr.heap.size wr x1):=⟨h1,hb1⟩;clear h1 hb1))
   (try simp only [HHG.out])
   have c0:x1.cell? ⟨G,0,none⟩=some (.int .u32 (p:Int)):=by have:=H1.out.1;rw [HHG.out] at this;rw [cell_of_row _ _ _ _ _ _ this];rfl
   have c1:x1.cell? ⟨G,1,none⟩=some (.slice (some ⟨g,0,none⟩) 192 192):=by have:=H1.out.1;rw [HHG.out] at this;rw [cell_of_row _ _ _ _ _ _ this];rfl
   have HTR:Box (x1.rangeAt (S+1) 0 (T.map (Value.int .u8))):=⟨(HTU.out.2 x1 H1.out.2).1⟩
   have HC1:Box _:=⟨HCL.out x1 H1.out.2⟩
   go_wp2_with (first
    | (refine atLoad 23 ?_;refine q0c rfl 23 _ _ rfl Tryz.underlying23 rfl (S+1) 0 rfl (T.map (Value.int .u8)) HTU.out.1 HTR.out ?_)
    | (go_at_call 29;refine HC1.out.mono ?_;rintro e x2 ⟨rfl,hb⟩;have H2:Box (Below x1.heap.size x1 x2/\x2.heap[S+1]?=some (.cells (u8s T) 23 (0,0))):=⟨hb,(HTU.out.2 x2 (q0a H1.out.2 hb)).2⟩;clear hb)
    | (refine atStore _ ?_;refine wpList_store_row rfl 23 _ _ rfl (S+1) (u8s T2) rfl rfl 23 (u8s T) H2.out.2 HT2.out.2.1 HT2.out.2.2 (q1r T2) ?_))
   go_roundw
   case rel=>exact ⟨k+1,by omega,by go_num,⟨HEN.out x1 x2 H1.out.2 H2.out.1⟩⟩
   case measure=>simp [intOf];omega
  ·have hlt1:decide ((k:Int)<(n:Int))=false:=by simp;omega
   obtain rfl:k=n:=by omega
   obtain ⟨T,hTT⟩:=nm (chn (X.map spl))
   have HE:Box (ChR w wr S (X.map spl)):=⟨by have:=HG.out;rwa [List.take_of_length_le (by rw [List.length_map,HN.out];exact Nat.le_refl _)] at this⟩
   have HRT:Box (wr.rangeAt (S+1) 0 (T.map (Value.int .u8))/\(Tryz.prog.info? 23).map (·.size)=some (T.map (Value.int .u8)).length/\(Tryz.prog.info? 23).map (·.size)=some (u8s T).size/\(u8s z32).size=(u8s T).size):=⟨by have:=HE.out.r1;rw [hTT] at this;exact q2x this,by rw [<-hTT];exact (HU.out.2 _).2,by rw [<-hTT];exact (HU.out.2 _).1,by rw [q0h,q0h,<-hTT,(q4k _).1,q1l]⟩
   have HBW:Box (Below w.heap.size w (wr.setRow S (u8s T))):=⟨below_setRow HE.out.bel (by have:=HSS.out;omega) _⟩
   have HTT:Box (chn (X.map spl)=T):=⟨hTT⟩
   clear hTT
   go_wp2_with (first
    | (refine atLoad 23 ?_;refine q0c rfl 23 _ _ rfl Tryz.underlying23 rfl (S+1) 0 rfl (T.map (Value.int .u8)) HRT.out.2.1 HRT.out.1 ?_)
    | (refine atStore _ ?_;refine wpList_store_row rfl 23 _ _ rfl S (u8s T) rfl rfl 23 (u8s z32) HE.out.r0 HRT.out.2.2.1 HRT.out.2.2.2 (q1r T) ?_))
   refine bodyPost_ret (q3f (t:=2) rfl _ _ S (T.map (Value.int .u8)) _ rfl (q2x (setRow_heap _ _ _ _ _ _ HE.out.r0)) Tryz.underlying23 rfl HRT.out.2.1) rfl ?_
   exact ⟨by rw [HTT.out];rfl,HBW.out⟩
end Go.Proofs.YtjejnlebpcjidaaGreatDoor
namespace Go.Proofs.YtjejnlebpcjidaaGreatDoor
open Go.RowKit Plain
attribute [local go_sem] Oper.semAt_some
def Opn (K:List Int) (x:Nat × List Int):Prop:=Seal.Fit x.2 176/\fitR (Seal.op K (x.1:Int) x.2 176)
def opR (K:List Int) (x:Nat × List Int):(Int × List Int) × Bool:=getP (Seal.op K (x.1:Int) x.2 176)
theorem z3w:(rcc zrc).toArray.all (·.oneCell')=true:=z0l zrc
set_option maxHeartbeats 4000000 in
theorem opened_v {w:World} {B:Nat} {x:Sl} (h:OSl w B x) (hT:Seal.Tab w) (K:List Int) (hK:K.length=32/\Byt K):
  Calls Tryz.prog 82 #[.agg (u8s K),.agg (stc x).toArray] w fun e w'=>((¬Opn K (spl x)/\e=.returned (.tuple #[.agg (rcc zrc).toArray,.int .i64 11]))∨(Opn K (spl x)/\∃r,e=.returned (.tuple #[.agg (rcc r).toArray,.int .i64 0])/\rpl r=opR K (spl x)/\r.m.bl=160/\OIm w' w.heap.size r.m))/\Below w.heap.size w w':=by
 obtain ⟨S,hS⟩:=nm w.heap.size
 obtain ⟨AK,hAK⟩:=nm (u8s K)
 obtain ⟨p,g,bs⟩:=x
 have hbs:=h.bytes
 have hpl:p<=4096:=h.pl
 dsimp only at hbs
 simp only [stc,hAK]
 obtain ⟨w1,hw1⟩:=nm (((w.alloc (.cells AK 23)).alloc (.cells #[.int .u32 (p:Int),.slice (some ⟨g,0,none⟩) 192 192] 168)).alloc (.cells (rcc zrc).toArray 95))
 have hb1:Below w.heap.size w w1:=by rw [<-hw1];exact (((Below.refl _ _).alloc (Nat.le_refl _) _).alloc (by simp) _).alloc (by simp;omega) _
 have k1:w1.heap[S]?=some (.cells AK 23 (0,0)):=by rw [<-hw1];exact q0i (q0i (q0g hS))
 have k2:w1.heap[S+1]?=some (.cells #[.int .u32 (p:Int),.slice (some ⟨g,0,none⟩) 192 192] 168 (0,0)):=by rw [<-hw1];exact q0i (q0g (by simp [hS]))
 have k3:w1.heap[S+2]?=some (.cells (rcc zrc).toArray 95 (0,0)):=by rw [<-hw1];exact q0g (by simp [hS])
 have hs1:w1.heap.size=S+3:=by rw [<-hw1];simp [hS]
 have c0:w1.cell? ⟨S+1,0,none⟩=some (.int .u32 (p:Int)):=by rw [cell_of_row _ _ _ _ _ _ k2];rfl
 have c1:w1.cell? ⟨S+1,1,none⟩=some (.slice (some ⟨g,0,none⟩) 192 192):=by rw [cell_of_row _ _ _ _ _ _ k2];rfl
 have HRK:Box (w1.rangeAt S 0 (K.map (Value.int .u8))/\(Tryz.prog.info? 23).map (·.size)=some (K.map (Value.int .u8)).length/\(K.map (Value.int .u8)).toArray=AK):=⟨by rw [<-hAK] at k1;exact q2x k1,by rw [List.length_map,hK.1];exact infoSum,by rw [<-hAK];rfl⟩
 have H3:Box (∀y,Below w1.heap.size w1 y->y.heap[S+2]?=some (.cells (rcc zrc).toArray 95 (0,0))):=⟨fun y hy=>(hy.block (S+2) (by omega)).trans k3⟩
 have HB:Box (Below w.heap.size w w1/\w.heap.size=S/\w1.heap.size=S+3):=⟨hb1,hS,hs1⟩
 have hs2:(w.alloc (.cells AK 23)).heap.size=S+1:=by simp [hS]
 have hs3:((w.alloc (.cells AK 23)).alloc (.cells #[.int .u32 (p:Int),.slice (some ⟨g,0,none⟩) 192 192] 168)).heap.size=S+2:=by simp [hS]
 by_cases hf:Seal.Fit bs 176
 ·have HOP:Box (Calls Tryz.prog 101 #[.agg AK,.int .u32 (p:Int),.slice (some ⟨g,0,none⟩) 192 192,.int .i64 176] w1 fun e w'=>∃a',e=.returned (.tuple #[.int .u64 (num bs 0 8),.slice a' 176 176,.int .i64 0])/\Bytes w' a' 176 (Seal.op K (p:Int) bs 176)/\Below w1.heap.size w1 w'):=⟨by
   have:=Seal.open_ok K bs (p:Int) 176 (some ⟨g,0,none⟩) 192 w1 (hT.below hb1) hK.1 hK.2 ⟨by omega,by omega⟩ (.inr rfl) (hbs.below hb1) (by omega) hf
   rw [hAK] at this
   exact this⟩
  obtain ⟨O,hO⟩:=nm (Seal.op K (p:Int) bs 176)
  rw [hO] at HOP
  generalize num bs 0 8=ver at HOP
  by_cases hr:fitR O
  ·have HGE:Box (∀y a',Bytes y a' 176 O->Calls Tryz.prog 102 #[.slice a' 176 176] y fun e w'=>∃r,e=.returned (.tuple #[.agg (rcc r).toArray,.int .i64 0])/\rpl r=getP O/\r.m.bl=160/\OIm w' y.heap.size r.m/\Below y.heap.size y w'):=⟨fun y a' hy=>rcget_ok a' 176 O y hy (by omega) hr⟩
   have HO:Box (Opn K (spl ⟨p,g,bs⟩)/\opR K (spl ⟨p,g,bs⟩)=getP O):=⟨⟨hf,by show fitR (Seal.op K (p:Int) bs 176);rw [hO];exact hr⟩,by show getP (Seal.op K (p:Int) bs 176)=_;rw [hO]⟩
   clear h hbs hb1 k1 k2 k3 hs1 hS hAK hK hT hf hr hO
   go_enter Tryz.func82,Tryz.ntmps82
   go_upto_region 1 with (refine atAlloc _ ?_;refine q0b rfl _ _ (q0e 95 rfl _ zeroRc) ?_)
   (try rw [hs3])
   (try rw [hs2])
   (try simp only [HB.out.2.1])
   rw [show (w.alloc (.cells AK 23) |>.alloc (.cells #[.int .u32 (p:Int),.slice (some ⟨g,0,none⟩) 192 192] 168) |>.alloc (.cells #[.int .u64 0,.slice none 0 0,.bool false] 95))=w1 from hw1]
   clear hs2 hs3 hw1
   go_upto_region 4 with (first
    | (refine atLoad 23 ?_;refine q0c rfl 23 _ _ rfl Tryz.underlying23 rfl S 0 rfl (K.map (Value.int .u8)) HRK.out.2.1 HRK.out.1 ?_;rw [HRK.out.2.2])
    | (go_at_call 101;refine HOP.out.mono ?_;rintro e x2 ⟨a',rfl,hby,hb⟩;have H2:Box (Bytes x2 a' 176 O/\Below w1.heap.size w1 x2):=⟨hby,hb⟩;clear hby hb))
   have HG2:Box _:=⟨HGE.out x2 a' H2.out.1⟩
   go_wp2_with (first
    | (go_at_call 102;refine HG2.out.mono ?_;rintro e x3 ⟨⟨⟨mb,ma,ml,mc,ms⟩,b⟩,rfl,q1,q2,q3,q4⟩;have HX:Box (rpl ⟨⟨mb,ma,ml,mc,ms⟩,b⟩=getP O/\ml=160/\OIm x3 x2.heap.size ⟨mb,ma,ml,mc,ms⟩/\Below w1.heap.size w1 x3/\x3.heap[S+2]?=some (.cells (rcc zrc).toArray 95 (0,0))):=⟨q1,q2,q3,q0a H2.out.2 q4,H3.out x3 (q0a H2.out.2 q4)⟩;simp only [rcc];clear q1 q2 q3 q4)
    | (refine atStore _ ?_;refine wpList_store_row rfl 95 _ _ rfl (S+2) #[.int .u64 mb,.slice ma ml mc,.bool b] rfl rfl 95 (rcc zrc).toArray HX.out.2.2.2.2 infoRc rfl (by simp [Value.oneCell']) ?_))
   refine bodyPost_ret (q1a (t:=4) (u:=5) rfl _ Tryz.underlying95 rfl _ _ (S+2) #[.int .u64 mb,.slice ma ml mc,.bool b] infoRc rfl (setRow_heap _ _ _ _ _ _ HX.out.2.2.2.2)) rfl ?_
   have hbb:=HB.out
   refine ⟨.inr ⟨HO.out.1,⟨⟨mb,ma,ml,mc,ms⟩,b⟩,rfl,by rw [HO.out.2];exact HX.out.1,HX.out.2.1,?_⟩,below_setRow (q0a hbb.1 HX.out.2.2.2.1) (by omega) _⟩
   have o:=HX.out.2.2.1
   have hz:=H2.out.2.size
   refine ⟨q2u (q0j o.own (fun k hk=>?_)) (by omega),o.byt,o.num⟩
   have hk1:=(o.own.lt k hk).1
   exact (q0s x3 (S+2) _).block k (o.own.lt k hk).2 (by omega)
  ·have HGE:Box (∀y a',Bytes y a' 176 O->Calls Tryz.prog 102 #[.slice a' 176 176] y fun e w'=>e=.returned (.tuple #[.agg (rcc zrc).toArray,.int .i64 11])/\Below y.heap.size y w'):=⟨fun y a' hy=>rcget_no a' 176 176 O y hy (by unfold maxLen;omega) (by omega) hr⟩
   have HO:Box (¬Opn K (spl ⟨p,g,bs⟩)):=⟨fun hq=>hr (by rw [<-hO];exact hq.2)⟩
   clear h hbs hb1 k1 k2 k3 hs1 hS hAK hK hT hf hr hO
   go_enter Tryz.func82,Tryz.ntmps82
   go_upto_region 1 with (refine atAlloc _ ?_;refine q0b rfl _ _ (q0e 95 rfl _ zeroRc) ?_)
   (try rw [hs3])
   (try rw [hs2])
   (try simp only [HB.out.2.1])
   rw [show (w.alloc (.cells AK 23) |>.alloc (.cells #[.int .u32 (p:Int),.slice (some ⟨g,0,none⟩) 192 192] 168) |>.alloc (.cells #[.int .u64 0,.slice none 0 0,.bool false] 95))=w1 from hw1]
   clear hs2 hs3 hw1
   go_upto_region 4 with (first
    | (refine atLoad 23 ?_;refine q0c rfl 23 _ _ rfl Tryz.underlying23 rfl S 0 rfl (K.map (Value.int .u8)) HRK.out.2.1 HRK.out.1 ?_;rw [HRK.out.2.2])
    | (go_at_call 101;refine HOP.out.mono ?_;rintro e x2 ⟨a',rfl,hby,hb⟩;have H2:Box (Bytes x2 a' 176 O/\Below w1.heap.size w1 x2):=⟨hby,hb⟩;clear hby hb))
   have HG2:Box _:=⟨HGE.out x2 a' H2.out.1⟩
   go_wp2_with (first
    | (go_at_call 102;refine HG2.out.mono ?_;rintro e x3 ⟨rfl,q4⟩;have HX:Box (Below w1.heap.size w1 x3/\x3.heap[S+2]?=some (.cells (rcc zrc).toArray 95 (0,0))):=⟨q0a H2.out.2 q4,H3.out x3 (q0a H2.out.2 q4)⟩;clear q4)
    | (refine atStore _ ?_;refine wpList_store_row rfl 95 _ _ rfl (S+2) (rcc zrc).toArray rfl rfl 95 (rcc zrc).toArray HX.out.2 infoRc rfl z3w ?_))
   refine bodyPost_ret (q1a (t:=4) (u:=5) rfl _ Tryz.underlying95 rfl _ _ (S+2) (rcc zrc).toArray infoRc rfl (setRow_heap _ _ _ _ _ _ HX.out.2)) rfl ?_
   have hbb:=HB.out
   exact ⟨.inl ⟨HO.out,rfl⟩,below_setRow (q0a hbb.1 HX.out.1) (by omega) _⟩
 ·have HOP:Box (Calls Tryz.prog 101 #[.agg AK,.int .u32 (p:Int),.slice (some ⟨g,0,none⟩) 192 192,.int .i64 176] w1 fun e w'=>e=.returned (.tuple #[.int .u64 0,.slice none 0 0,.int .i64 11])/\Below w1.heap.size w1 w'):=⟨by
   have:=Seal.open_form K bs (p:Int) 176 (some ⟨g,0,none⟩) 192 w1 (.inr rfl) (hbs.below hb1) (by omega) hf
   rw [hAK] at this
   exact this⟩
  have HO:Box (¬Opn K (spl ⟨p,g,bs⟩)):=⟨fun hq=>hf hq.1⟩
  clear h hbs hb1 k1 k2 k3 hs1 hS hAK hK hT hf
  go_enter Tryz.func82,Tryz.ntmps82
  go_upto_region 1 with (refine atAlloc _ ?_;refine q0b rfl _ _ (q0e 95 rfl _ zeroRc) ?_)
  (try rw [hs3])
  (try rw [hs2])
  (try simp only [HB.out.2.1])
  rw [show (w.alloc (.cells AK 23) |>.alloc (.cells #[.int .u32 (p:Int),.slice (some ⟨g,0,none⟩) 192 192] 168) |>.alloc (.cells #[.int .u64 0,.slice none 0 0,.bool false] 95))=w1 from hw1]
  clear hs2 hs3 hw1
  go_upto_region 3 with (first
   | (refine atLoad 23 ?_;refine q0c rfl 23 _ _ rfl Tryz.underlying23 rfl S 0 rfl (K.map (Value.int .u8)) HRK.out.2.1 HRK.out.1 ?_;rw [HRK.out.2.2])
   | (go_at_call 101;refine HOP.out.mono ?_;rintro e x2 ⟨rfl,hb⟩;have H2:Box (Below w1.heap.size w1 x2/\x2.heap[S+2]?=some (.cells (rcc zrc).toArray 95 (0,0))):=⟨hb,H3.out x2 hb⟩;clear hb))
  go_wp2_with (first
   | (refine atBuild 95 ?_;refine q0b rfl _ _ (q0n 95 [] rfl [] rfl _ z0e) ?_)
   | (refine atStore _ ?_;refine wpList_store_row rfl 95 _ _ rfl (S+2) (rcc zrc).toArray rfl rfl 95 (rcc zrc).toArray H2.out.2 infoRc rfl z3w ?_))
  refine bodyPost_ret (q1a (t:=4) (u:=5) rfl _ Tryz.underlying95 rfl _ _ (S+2) (rcc zrc).toArray infoRc rfl (setRow_heap _ _ _ _ _ _ H2.out.2)) rfl ?_
  have hbb:=HB.out
  exact ⟨.inl ⟨HO.out,rfl⟩,below_setRow (q0a hbb.1 H2.out.1) (by omega) _⟩
end Go.Proofs.YtjejnlebpcjidaaGreatDoor
namespace Go.Proofs.YtjejnlebpcjidaaGreatDoor
open Go.RowKit Plain
theorem exec_cut3 {o:Oper} {a:Act} {w':World} (x l h m:Operand) (ho:o.op=.slice 47 x (some l) (some h) (some m)) (g n lo hi:Nat) (hx:a.eval x=.slice (some ⟨g,0,none⟩) n n) (hl:a.eval l=.int .i64 (lo:Int)) (hh:a.eval h=.int .i64 (hi:Int)) (hm:a.eval m=.int .i64 (hi:Int)) (h1:lo<hi) (h2:hi<=n):
  (execOp a.eval o).run Tryz.prog w'=.ok (.value (.slice (some ⟨g,lo*2,none⟩) (hi-lo) (hi-lo))) w':=by
 have hu:Tryz.prog.underlying 47=some (.slice (Tryz.prog.elem 47)):=by kernel_rfl
 have hs:(sizeOf (Tryz.prog.elem 47)).run Tryz.prog w'=.ok 2 w':=by kernel_rfl
 have hr:(Instr.sliceAt 47 (.slice (some ⟨g,0,none⟩) n n) (some (.int .i64 (lo:Int))) (some (.int .i64 (hi:Int))) (some (.int .i64 (hi:Int)))).run Tryz.prog w'=.ok (.slice (some ⟨g,lo*2,none⟩) (hi-lo) (hi-lo)) w':=by
  rw [run_sliceAt_slice (P:=Tryz.prog) w' 47 _ _ _ _ hu,run_slice_lhm (P:=Tryz.prog) w' 47 _ n n hu .i64 .i64 .i64 (lo:Int) (hi:Int) (hi:Int) (by omega) (by omega) (by omega) (by omega),hs,Result.andThen_ok,sliced]
  have hne:¬hi-lo=0:=by omega
  simp [Addr.add_lit]
  intro hh;omega
 unfold execOp
 simp only [ho,hx,hl,hh,hm,Option.map_some,Sem.run_bind,Sem.run_pure,hr,Result.andThen_ok]
def chSt (s:List (List (Int × List Int)) × List (Int × List Int)) (x:(Int × List Int) × Bool):List (List (Int × List Int)) × List (Int × List Int):=if x.2=true then (s.1++[s.2++[x.1]],[]) else (s.1,s.2++[x.1])
def chS (L:List ((Int × List Int) × Bool)):List (List (Int × List Int)) × List (Int × List Int):=L.foldl chSt ([],[])
theorem q8h (L:List ((Int × List Int) × Bool)) (k:Nat) (hk:k<L.length):chS (L.take (k+1))=chSt (chS (L.take k)) L[k]:=by
 rw [List.take_succ_eq_append_getElem hk]
 simp only [chS,List.foldl_append,List.foldl_cons,List.foldl_nil]
structure Recs (w:World) (a:Option Addr) (R:List Rc):Prop where
 tb:Tb w a 3 rcc R
 byt:∀r∈R,Bytes w r.m.ba r.m.bl r.m.bs/\N64 r.m.blk/\r.m.bl<1000000
theorem Recs.below {w w':World} {a:Option Addr} {R:List Rc} (h:Recs w a R) (hb:Below w.heap.size w w'):Recs w' a R:=
 ⟨h.tb.below hb,fun r hr=>⟨(h.byt r hr).1.below hb,(h.byt r hr).2⟩⟩
def zim:Im:=⟨0,none,0,0,[]⟩
def Cut (g k:Nat) (Q:List Im) (c:Sx):Prop:=∃p,c.a=some ⟨g,p*2,none⟩/\c.l=c.M.length/\c.c=c.l/\p+c.l<=k/\c.M=(Q.drop p).take c.l/\0<c.l
theorem Cut.snoc {g k:Nat} {Q:List Im} {c:Sx} (h:Cut g k Q c) (hQ:Q.length=k) (m:Im):Cut g (k+1) (Q++[m]) c:=by
 obtain ⟨p,h1,h2,h3,h4,h5,h6⟩:=h
 refine ⟨p,h1,h2,h3,by omega,?_,h6⟩
 rw [List.drop_append_of_le_length (by omega),List.take_append_of_le_length (by simp;omega)]
 exact h5
structure ChK (w wr:World) (R:List Rc) (g n k f:Nat) (v:Value) (Q:List Im) (C:List Sx):Prop where
 row:wr.heap[g]?=some (.cells ((Q++List.replicate (n-k) zim).map imc).flatten.toArray 79 (0,0))
 len:Q.length=k
 pls:Q.map pl=(R.take k).map (fun r=>pl r.m)
 byt:∀m∈Q,OIm wr w.heap.size m
 bel:Below w.heap.size w wr
 lo:w.heap.size<=g
 out:wr.ownsRow w.heap.size 47 1 v C.length (C.map slc).flatten
 cut:∀c∈C,Cut g k Q c
 fk:f<=k
 c1:C.map (fun c=>c.M.map pl)=(chS ((R.map rpl).take k)).1
 c2:(Q.drop f).map pl=(chS ((R.map rpl).take k)).2
theorem own_but {w w':World} {B n G:Nat} {e:TypeId} {sz:Nat} {v:Value} {xs:List Value} {cs:Array Value} {t:TypeId} {fr:Nat × Nat} (h:w.ownsRow B e sz v n xs) (hG:w.heap[G]?=some (.cells cs t fr)) (ht:t≠e) (hb:But G w w'):w'.ownsRow B e sz v n xs:=
 q0j h (fun k hk=>hb.block k (h.lt k hk).2 (fun e'=>by
  obtain ⟨_,c1,h1⟩:=q1j h k hk
  rw [e',hG] at h1
  simp only [Option.some.injEq,Obj.cells.injEq] at h1
  exact ht h1.2.1))
structure ChM (w wy:World) (R:List Rc) (g n k f:Nat) (v:Value) (Q:List Im) (C:List Sx) (m':Im):Prop where
 row:wy.heap[g]?=some (.cells (((Q++[m'])++List.replicate (n-(k+1)) zim).map imc).flatten.toArray 79 (0,0))
 len:Q.length=k
 pls:(Q++[m']).map pl=(R.take (k+1)).map (fun r=>pl r.m)
 byt:∀m∈Q++[m'],OIm wy w.heap.size m
 bel:Below w.heap.size w wy
 lo:w.heap.size<=g
 out:wy.ownsRow w.heap.size 47 1 v C.length (C.map slc).flatten
 cut:∀c∈C,Cut g (k+1) (Q++[m']) c
 fk:f<=k
 c1:C.map (fun c=>c.M.map pl)=(chS ((R.map rpl).take k)).1
 c2:(Q.drop f).map pl=(chS ((R.map rpl).take k)).2
theorem ChK.mid {w wr wx:World} {R:List Rc} {g n k f:Nat} {v:Value} {Q:List Im} {C:List Sx} (h:ChK w wr R g n k f v Q C) (hn:R.length=n) (hk:k<n) (hb:Below wr.heap.size wr wx) (m':Im) (hp:pl m'=pl (R[k]'(by omega)).m) (ho:OIm wx w.heap.size m'):ChM w (wx.setCells g (k*2) (imc m')) R g n k f v Q C m':=by
 have hg:g<wr.heap.size:=(gE h.row)
 have hrx:=(hb.block g hg).trans h.row
 have hbut:But g wx (wx.setCells g (k*2) (imc m')):=q0t _ _ _ _ _ (But.refl _ _)
 have hL:(Q++List.replicate (n-k) zim).length=n:=by simp [h.len];omega
 have hk2:k<(Q++List.replicate (n-k) zim).length:=by omega
 have hat:(Q++List.replicate (n-k) zim)[k]=zim:=by
  rw [List.getElem_append_right (by simp [h.len])]
  simp
 refine ⟨?_,h.len,?_,fun m hm=>?_,?_,h.lo,own_but (q2v h.out hb) hrx (by decide) hbut,fun c hc=>(h.cut c hc).snoc h.len m',h.fk,h.c1,h.c2⟩
 ·rw [q1h g _ (imc m') (k*2) _ _ hrx (by rw [q2k imc 2 (fun _=>rfl),hL];show k*2+2<=n*2;omega)]
  have e:=q6m imc 2 (fun _=>rfl) (Q++List.replicate (n-k) zim) k hk2 0 (imc m') m' (by rw [hat];rfl) (by show 0+2<=2;omega)
  rw [Nat.add_zero] at e
  rw [e]
  congr 4
  obtain ⟨d,hd⟩:∃d,n-k=d+1:=⟨n-k-1,by omega⟩
  have hd':n-(k+1)=d:=by omega
  rw [hd,hd',List.set_append_right _ _ (by simp [h.len])]
  simp [h.len,List.replicate_succ]
 ·have hk3:k<R.length:=by omega
  rw [List.map_append,h.pls,List.take_succ_eq_append_getElem hk3]
  simp only [List.map_append,List.map_cons,List.map_nil,hp]
 ·rcases List.mem_append.1 hm with hm | hm
  ·exact ((h.byt m hm).to hb).but hrx (by decide) hbut
  ·simp only [List.mem_cons,List.not_mem_nil,or_false] at hm
   subst hm
   exact ho.but hrx (by decide) hbut
 ·exact q1i (q0a h.bel hb) hbut h.lo (q0a h.bel hb).size
theorem ChM.go {w wy:World} {R:List Rc} {g n k f:Nat} {v:Value} {Q:List Im} {C:List Sx} {m':Im} (h:ChM w wy R g n k f v Q C m') (hk:k<R.length) (hp:pl m'=pl R[k].m) (hl:R[k].l=false):ChK w wy R g n (k+1) f v (Q++[m']) C:=by
 have hk4:k<(R.map rpl).length:=by simp;omega
 have hch:=q8h (R.map rpl) k hk4
 have hx:(R.map rpl)[k]=(pl m',false):=by simp [rpl,hp,hl]
 rw [hx] at hch
 refine ⟨h.row,by simp [h.len],h.pls,h.byt,h.bel,h.lo,h.out,h.cut,by have:=h.fk;omega,?_,?_⟩
 ·rw [hch,h.c1]
  simp [chSt]
 ·rw [hch,List.drop_append_of_le_length (by rw [h.len];exact h.fk),List.map_append,h.c2]
  simp [chSt]
theorem ChM.ends {w wy w':World} {R:List Rc} {g n k f:Nat} {v v':Value} {Q:List Im} {C:List Sx} {m':Im} (h:ChM w wy R g n k f v Q C m') (hk:k<R.length) (hp:pl m'=pl R[k].m) (hl:R[k].l=true) (ho:w'.ownsRow w.heap.size 47 1 v' (C.length+1) ((C.map slc).flatten++[.slice (some ⟨g,f*2,none⟩) (k+1-f) (k+1-f)])) (hg:wy.grownBy w' v.ownBlock):∃C',ChK w w' R g n (k+1) (k+1) v' (Q++[m']) C':=by
 have hk4:k<(R.map rpl).length:=by simp;omega
 have hch:=q8h (R.map rpl) k hk4
 have hx:(R.map rpl)[k]=(pl m',true):=by simp [rpl,hp,hl]
 rw [hx] at hch
 have hgl:g<wy.heap.size:=(gE h.row)
 have hfk:=h.fk
 have hMl:((Q++[m']).drop f).length=k+1-f:=by simp [h.len]
 refine ⟨C++[⟨some ⟨g,f*2,none⟩,k+1-f,k+1-f,(Q++[m']).drop f⟩],?_,by simp [h.len],h.pls,fun m hm=>(h.byt m hm).grown h.out (by decide) hg,h.bel.grown hg h.bel.size (fun j hj=>(q1j h.out j hj).1),h.lo,?_,fun c hc=>?_,Nat.le_refl _,?_,?_⟩
 ·refine (hg.block g hgl (fun e=>?_)).trans h.row
  obtain ⟨_,c1,h1⟩:=q1j h.out g e.symm
  rw [h.row] at h1
  simp only [Option.some.injEq,Obj.cells.injEq] at h1
  exact absurd h1.2.1 (by decide)
 ·rw [List.length_append,List.map_append,List.flatten_append]
  simpa [slc] using ho
 ·rcases List.mem_append.1 hc with hc | hc
  ·exact h.cut c hc
  ·simp only [List.mem_cons,List.not_mem_nil,or_false] at hc
   subst hc
   exact ⟨f,rfl,hMl.symm,rfl,by show f+(k+1-f)<=k+1;omega,by show _=_;rw [List.take_of_length_le (by rw [hMl];exact Nat.le_refl _)],by show 0<k+1-f;omega⟩
 ·rw [hch,List.map_append,h.c1]
  simp only [chSt,if_true,List.map_cons,List.map_nil]
  rw [List.drop_append_of_le_length (by rw [h.len];exact h.fk),List.map_append,h.c2]
  simp
 ·rw [hch]
  simp [chSt,h.len]
structure Chs (w:World) (B:Nat) (v:Value) (C:List Sx):Prop where
 row:w.ownsRow B 47 1 v C.length (C.map slc).flatten
 im:∀c∈C,c.M.length=c.l/\(∃g p,B<=g/\g<w.heap.size/\c.a=some ⟨g,p,none⟩/\∀i (h:i<c.M.length),w.rangeAt g (p+i*2) (imc c.M[i]))/\∀m∈c.M,OIm w B m
theorem ChK.fin {w wr:World} {R:List Rc} {g n f:Nat} {v:Value} {Q:List Im} {C:List Sx} (h:ChK w wr R g n n f v Q C):Chs wr w.heap.size v C:=by
 refine ⟨h.out,fun c hc=>?_⟩
 obtain ⟨p,h1,h2,h3,h4,h5,h6⟩:=h.cut c hc
 have hrow:=h.row
 rw [Nat.sub_self,List.replicate_zero,List.append_nil] at hrow
 refine ⟨h2.symm,⟨g,p*2,h.lo,(gE hrow),h1,fun i hi=>?_⟩,fun m hm=>?_⟩
 ·have hpi:p+i<Q.length:=by rw [h.len];omega
  have e:c.M[i]=Q[p+i]:=by
   have:c.M[i]?=Q[p+i]?:=by
    rw [h5,List.getElem?_take,if_pos (by omega),List.getElem?_drop]
   rw [List.getElem?_eq_getElem hi,List.getElem?_eq_getElem hpi] at this
   exact Option.some.inj this
  rw [e]
  refine q2a hrow _ (fun j u hu=>?_)
  have hj:j<2:=(List.getElem?_eq_some_iff.1 hu).1
  have:=q6o imc 2 (fun _=>rfl) Q (p+i) hpi j hj
  rw [show p*2+i*2+j=(p+i)*2+j by omega]
  simpa [this] using hu
 ·refine h.byt m ?_
  rw [h5] at hm
  exact List.mem_of_mem_drop (List.mem_of_mem_take hm)
theorem infSl:(Tryz.prog.info? 47).map (fun i=>(i.zero,i.size,i.bytes))=some (some (.slice none 0 0),1,24):=by kernel_rfl
set_option maxHeartbeats 1000000 in
theorem z3n (a:Option Addr) (cap:Nat) (R:List Rc) (w:World) (h:Recs w a R) (hl:R.length<=1000) (h0:0<R.length) (hla:(R[R.length-1]'(by omega)).l=false):
  Calls Tryz.prog 83 #[.slice a R.length cap] w fun e w'=>e=.returned (.tuple #[.slice none 0 0,.int .i64 11])/\w=w':=by
 obtain ⟨b,o,rfl,hbl,hr⟩:=h.tb h0
 obtain ⟨n,hn⟩:=nm R.length
 have hr1:=hr (R.length-1) (by omega)
 have hc:w.cell? ⟨b,o+(R.length-1)*3+2,none⟩=some (.bool false):=by
  have:=hr1 2 (.bool R[R.length-1].l) rfl
  rwa [hla] at this
 rw [hn] at hc hl h0 ⊢
 have hsub:((n:Int)-1)=((n-1:Nat):Int):=by omega
 have hgt:(0:Int)<(n:Int):=by omega
 have HL:Box (n-1<n):=⟨by omega⟩
 clear hr hr1 hla h hbl
 go_enter Tryz.func83,Tryz.ntmps83
 go_wp2_with (refine atIdx 90 ?_;(try rw [hsub]);refine q4u (by rfl) _ _ (q0p 90 95 Tryz.underlying90 3 infoRc _ _ rfl b o n cap (n-1) rfl rfl HL.out) ?_)
 go_ret2
 exact ⟨rfl,rfl⟩
set_option maxRecDepth 20000 in
set_option maxHeartbeats 4000000 in
theorem z4q (a:Option Addr) (cap:Nat) (R:List Rc) (w:World) (h:Recs w a R) (hl:R.length<=1000) (hp0:0<R.length) (hla:∀h0:0<R.length,(R[R.length-1]'(by omega)).l=true):
  Calls Tryz.prog 83 #[.slice a R.length cap] w fun e w'=>∃v C,e=.returned (.tuple #[v,.int .i64 0])/\Chs w' w.heap.size v C/\C.map (fun c=>c.M.map pl)=(chS (R.map rpl)).1/\Below w.heap.size w w':=by
 have HM:Box (∀x,Below w.heap.size w x->Recs x a R):=⟨fun x hx=>h.below hx⟩
 obtain ⟨n,hn⟩:=nm R.length
 have HN:Box (R.length=n):=⟨hn⟩
 have HMK:Box (32*n<=281474976710656/\n<=9223372036854775807):=⟨by omega,by omega⟩
 obtain ⟨g,hg⟩:=nm w.heap.size
 obtain ⟨w1,hw1⟩:=nm (w.alloc (.cells ((List.replicate n zim).map imc).flatten.toArray 79))
 have HK0:Box (ChK w w1 R g n 0 0 (.slice none 0 0) [] []):=⟨by
  refine ⟨by rw [<-hw1];simp only [List.nil_append,Nat.sub_zero];exact q0g hg,rfl,by simp,fun m hm=>by simp at hm,by rw [<-hw1];exact (Below.refl _ _).alloc (Nat.le_refl _) _,Nat.le_of_eq hg,World.ownsRow_nil _ _ _ _,fun c hc=>by simp at hc,Nat.le_refl _,by simp [chS],by simp [chS]⟩⟩
 have HMC:Box (w.alloc (.cells (madeCells #[.int .u64 0,.slice none 0 0] (n*2)) 79)=w1):=⟨by rw [<-hw1,q8l imc 2 (fun _=>rfl) (by decide) zim #[.int .u64 0,.slice none 0 0] rfl n]⟩
 have HOK:Box (∀wr,Below w.heap.size w wr->∀k,∀hk:k<R.length,(∃b o,a=some ⟨b,o,none⟩/\wr.rangeAt b (o+k*3) (rcc R[k])/\b<wr.heap.size)/\Bytes wr R[k].m.ba R[k].m.bl R[k].m.bs/\N64 R[k].m.blk/\R[k].m.bl<1000000):=⟨fun wr hK k hk=>by
  obtain ⟨b,o,rfl,hbl,hr⟩:=(HM.out wr hK).tb (by omega)
  exact ⟨⟨b,o,rfl,hr k hk,hbl⟩,(HM.out wr hK).byt _ (List.getElem_mem hk)⟩⟩
 have hla':∀h0:0<n,∃b o,a=some ⟨b,o,none⟩/\w.cell? ⟨b,o+(n-1)*3+2,none⟩=some (.bool true):=fun h0=>by
  obtain ⟨⟨b,o,e,hr,_⟩,_⟩:=HOK.out w (Below.refl _ _) (n-1) (by omega)
  refine ⟨b,o,e,?_⟩
  have:=hr 2 (.bool (R[n-1]'(by omega)).l) rfl
  have e2:=hla (by omega)
  simp only [hn] at e2
  rwa [e2] at this
 rw [hn] at hl hp0 ⊢
 clear h hla hw1 HM
 have key:∀(P:Prop),P->P:=fun _ h=>h
 go_enter Tryz.func83,Tryz.ntmps83
 obtain ⟨b0,o0,hae,hcl⟩:=hla' (by omega)
 have hz':(0:Int)<(n:Int):=by omega
 have hsub:((n:Int)-1)=((n-1:Nat):Int):=by omega
 have HLn:Box (n-1<n):=⟨by omega⟩
 subst hae
 go_upto_region 5 with (first
  | (refine atIdx 90 ?_;(try rw [hsub]);refine q4u (by rfl) _ _ (q0p 90 95 Tryz.underlying90 3 infoRc _ _ rfl b0 o0 n cap (n-1) rfl rfl HLn.out) ?_)
  | (refine atMake _ ?_;refine q0b rfl _ _ (q3u 47 79 _ _ rfl _ 2 32 Tryz.underlying47 infIm n rfl rfl HMK.out.1 HMK.out.2) ?_))
 have hcz:(Value.agg #[.int .u64 0,.slice none 0 0]).cells=#[.int .u64 0,.slice none 0 0]:=rfl
 (try simp only [HMC.out])
 clear hcz hcl hsub HLn
 clear hla' hz'
 go_wp2
 go_loopw [4,6,27] (fun v fv i wr=>∃(k f:Nat) (Q:List Im) (C:List Sx),k<=n/\f<=k/\i=.int .i64 (k:Int)/\fv=.int .i64 (f:Int)/\Box (ChK w wr R g n k f v Q C)) (fun _ _ i _=>n-(intOf i).toNat)
 case atStart=>exact ⟨0,0,[],[],Nat.zero_le _,Nat.le_refl _,rfl,rfl,HK0⟩
 case round=>
  obtain ⟨k,f,Q,C,hk,hfk,rfl,rfl,HK⟩:=hrel
  by_cases hlt:k<n
  ·have hlt1:decide ((k:Int)<(n:Int))=true:=by simp;omega
   have hkm:k<R.length:=by have:=HN.out;omega
   obtain ⟨⟨b,o,hae,hrg,hbw⟩,hF⟩:=HOK.out wr HK.out.bel k hkm
   have HMI:Box (∀wx m',Below wr.heap.size wr wx->pl m'=pl R[k].m->OIm wx w.heap.size m'->ChM w (wx.setCells g (k*2) (imc m')) R g n k f u4 Q C m'):=⟨fun wx m' h1 h2 h3=>HK.out.mid HN.out hlt h1 m' h2 h3⟩
   have HGO:Box (∀wy m',ChM w wy R g n k f u4 Q C m'->pl m'=pl R[k].m->R[k].l=false->∃Q' C',ChK w wy R g n (k+1) f u4 Q' C'):=⟨fun wy m' h1 h2 h3=>⟨_,_,h1.go hkm h2 h3⟩⟩
   have HEN:Box (∀wy w' m' v',ChM w wy R g n k f u4 Q C m'->pl m'=pl R[k].m->R[k].l=true->w'.ownsRow w.heap.size 47 1 v' (C.length+1) ((C.map slc).flatten++[.slice (some ⟨g,f*2,none⟩) (k+1-f) (k+1-f)])->wy.grownBy w' u4.ownBlock->∃Q' C',ChK w w' R g n (k+1) (k+1) v' Q' C'):=⟨fun wy w' m' v' h1 h2 h3 h4 h5=>by obtain ⟨C',hC'⟩:=h1.ends hkm h2 h3 h4 h5;exact ⟨_,C',hC'⟩⟩
   obtain ⟨⟨⟨blk,ba,bl,bc,bs⟩,lst⟩,hmm⟩:∃m,R[k]=m:=⟨_,rfl⟩
   rw [hmm] at hF HMI HGO HEN hrg
   simp only at hF HMI HGO HEN
   have HR:Box (wr.rangeAt b (o+k*3) [.int .u64 blk,.slice ba bl bc,.bool lst]):=⟨hrg⟩
   have HF2:Box (∀x,Below wr.heap.size wr x->Bytes x ba bl bs):=⟨fun x hx=>hF.1.below hx⟩
   have HF3:Box (N64 blk/\bl<1000000):=⟨hF.2.1,hF.2.2⟩
   have HROW:Box (∀x,Below wr.heap.size wr x->x.there g (k*2) 2):=⟨fun x hx=>q0z ((hx.block g (gE HK.out.row)).trans HK.out.row) (by
    have:=q2k imc 2 (fun _=>rfl) (Q++List.replicate (n-k) zim)
    simp only [List.length_append,List.length_replicate,HK.out.len] at this
    simp only [List.size_toArray]
    rw [this]
    omega)⟩
   have HBL:Box (w.heap.size<=wr.heap.size/\C.length<=1000000):=⟨HK.out.bel.size,by
    have h1:=congrArg List.length HK.out.c1
    have h2:∀L:List ((Int × List Int) × Bool),∀s:List (List (Int × List Int)) × List (Int × List Int),(L.foldl chSt s).1.length<=s.1.length+L.length:=by
     intro L
     induction L with
     | nil=>intro s;simp
     | cons x L ih=>
      intro s
      have:=ih (chSt s x)
      have h3:(chSt s x).1.length<=s.1.length+1:=by unfold chSt;split<;>simp
      simp only [List.foldl_cons,List.length_cons]
      omega
    have h3:=h2 ((R.map rpl).take k) ([],[])
    simp only [List.length_map] at h1
    have h4:(chS ((R.map rpl).take k)).1.length<=0+((R.map rpl).take k).length:=h3
    simp only [List.length_take,List.length_map] at h4
    omega⟩
   have HLT:Box (k<n/\f<=k):=⟨hlt,hfk⟩
   have hw4:IntKind.i64.wrap ((k:Int)+1)=((k+1:Nat):Int):=by rw [IntKind.wrap_i64];omega
   clear hF hmm hkm hrg hbw HOK
   simp only [Option.some.injEq,Addr.mk.injEq,and_true] at hae
   rw [hae.1,hae.2]
   clear hae
   go_upto_region 9 with (first
    | (refine atIdx 90 ?_;refine q0b rfl _ _ (q0p 90 95 Tryz.underlying90 3 infoRc _ _ rfl b o n cap k rfl rfl HLT.out.1) ?_)
    | (refine atLoad 95 ?_;refine q0c rfl 95 _ _ rfl Tryz.underlying95 rfl b (o+k*3) rfl [.int .u64 blk,.slice ba bl bc,.bool lst] infoRc HR.out ?_)
    | (refine atAlloc _ ?_;refine q0b rfl _ _ (q0e 95 rfl _ zeroRc) ?_)
    | (refine atStore _ ?_;refine q0o wr #[.int .u64 0,.slice none 0 0,.bool false] #[.int .u64 blk,.slice ba bl bc,.bool lst] infoRc rfl (by simp [Value.oneCell']) rfl _ _ rfl rfl rfl rfl ?_;intro x1 h1 hb1;have H1:Box (x1.heap[wr.heap.size]?=some (.cells #[.int .u64 blk,.slice ba bl bc,.bool lst] 95 (0,0))/\Below wr.heap.size wr x1):=⟨h1,hb1⟩;clear h1 hb1))
   obtain ⟨B,hB⟩:=nm wr.heap.size
   simp only [hB]
   have HBX:Box (x1.rangeAt B 0 [.int .u64 blk,.slice ba bl bc]/\x1.cell? ⟨B,2,none⟩=some (.bool lst)/\B<x1.heap.size/\B≠g):=⟨by
    have h3:=H1.out
    rw [hB] at h3
    refine ⟨q2a h3.1 _ (fun j v hv=>?_),by rw [cell_of_row _ _ _ _ _ _ h3.1];rfl,(gE h3.1),?_⟩
    ·match j,hv with
     | 0,hv=>simpa using hv
     | 1,hv=>simpa using hv
     | j+2,hv=>simp at hv
    ·have:=(gE HK.out.row)
     omega⟩
   have HOW:Box (Calls Tryz.prog 69 #[.agg #[.int .u64 blk,.slice ba bl bc]] x1 fun e w'=>∃m',e=.returned (.agg (imc m').toArray)/\Owned x1 w' ⟨blk,ba,bl,bc,bs⟩ m'):=⟨z1m ⟨blk,ba,bl,bc,bs⟩ x1 (HF2.out x1 H1.out.2) HF3.out.1 HF3.out.2⟩
   clear hB
   go_upto_region 10 with (first
    | (refine atLoad 79 ?_;refine q0c rfl 79 _ _ rfl Tryz.underlying79 rfl B 0 rfl [.int .u64 blk,.slice ba bl bc] infoIm HBX.out.1 ?_)
    | (go_at_call 69;refine HOW.out.mono ?_;rintro e x3 ⟨⟨mb,ma,ml,mc,ms⟩,rfl,hO⟩;have H3:Box (Below x1.heap.size x1 x3/\Below wr.heap.size wr x3/\pl ⟨mb,ma,ml,mc,ms⟩=pl ⟨blk,ba,bl,bc,bs⟩/\OIm x3 w.heap.size ⟨mb,ma,ml,mc,ms⟩):=⟨hO.2.2.2,q0a H1.out.2 hO.2.2.2,hO.1,hO.2.2.1.low (by have:=H1.out.2.size;have:=HBL.out.1;omega)⟩;clear hO)
    | (refine atIdx 47 ?_;refine q0b rfl _ _ (q0p 47 79 Tryz.underlying47 2 infoIm _ _ rfl g 0 n n k rfl rfl HLT.out.1) ?_;rw [Nat.zero_add])
    | (refine atStore _ ?_;refine q5d rfl 79 _ _ rfl g (k*2) #[.int .u64 mb,.slice ma ml mc] rfl rfl (HROW.out x3 H3.out.2.1) infoIm (by simp [Value.oneCell']) ?_))
   obtain ⟨y,hy⟩:=nm (x3.setCells g (k*2) (imc ⟨mb,ma,ml,mc,ms⟩))
   have hy2:x3.setCells g (k*2) #[.int .u64 mb,.slice ma ml mc].toList=y:=hy
   have hy3:x3.setCells g (k*2) [.int .u64 mb,.slice ma ml mc]=y:=hy
   (try simp only [hy2])
   have HCM:Box (ChM w y R g n k f u4 Q C ⟨mb,ma,ml,mc,ms⟩):=⟨by rw [<-hy];exact HMI.out x3 _ H3.out.2.1 H3.out.2.2.1 H3.out.2.2.2⟩
   have c2:y.cell? ⟨B,2,none⟩=some (.bool lst):=by
    rw [<-hy]
    exact q2y (q0t _ _ _ _ _ (But.refl _ _)) ((H3.out.1.cell HBX.out.2.2.1).trans HBX.out.2.1) HBX.out.2.2.2
   clear hy hy2 hy3 HOW
   cases lst
   ·obtain ⟨Q',C',hQ'⟩:=HGO.out y _ HCM.out H3.out.2.2.1 rfl
    have HQ':Box _:=⟨hQ'⟩
    clear hQ'
    go_wp2
    go_roundw
    case rel=>exact ⟨k+1,f,Q',C',HLT.out.1,by have:=HLT.out.2;omega,by go_num,rfl,HQ'⟩
    case measure=>simp [intOf];have:=HLT.out.1;omega
   ·have HCU:Box (f<k+1/\k+1<=n):=⟨by omega,by omega⟩
    have HKS:Box (((k:Int)+1)=((k+1:Nat):Int)):=⟨by omega⟩
    have HOC:Box (y.ownsRow w.heap.size 47 1 u4 C.length (C.map slc).flatten/\w.heap.size<=y.heap.size):=⟨HCM.out.out,HCM.out.bel.size⟩
    go_wp2_with (first
     | (refine atSlice _ ?_;(try rw [HKS.out]);refine q0b rfl _ _ (exec_cut3 (.tmp 41) (.tmp 42) (.tmp 44) (.tmp 46) rfl g n f (k+1) rfl rfl rfl rfl HCU.out.1 HCU.out.2) ?_)
     | (at_builtin;refine q1s 24 47 Tryz.underlying24 1 24 _ infSl rfl (by decide) rfl (.tmp 40) (.tmp 48) rfl w.heap.size C.length u4 (C.map slc).flatten [.slice (some ⟨g,f*2,none⟩) (k+1-f) (k+1-f)] y rfl rfl rfl HOC.out.1 rfl (by simp [Value.oneCell']) HBL.out.2 (by decide) (by decide) HOC.out.2 ?_;intro v5 x5 hown hgr;have H5:Box (∃Q' C',ChK w x5 R g n (k+1) (k+1) v5 Q' C'):=⟨HEN.out y x5 _ v5 HCM.out H3.out.2.2.1 rfl hown hgr⟩;clear hown hgr))
    obtain ⟨Q',C',hQ'⟩:=H5.out
    go_roundw
    case rel=>exact ⟨k+1,k+1,Q',C',HLT.out.1,Nat.le_refl _,by go_num,by go_num,⟨hQ'⟩⟩
    case measure=>simp [intOf];have:=HLT.out.1;omega
  ·obtain rfl:k=n:=by omega
   have hlt1:decide ((k:Int)<(k:Int))=false:=by simp
   have HFI:Box _:=⟨HK.out.fin⟩
   have HC1:Box (C.map (fun c=>c.M.map pl)=(chS (R.map rpl)).1/\Below w.heap.size w wr):=⟨by
    have:=HK.out.c1
    rwa [List.take_of_length_le (by simp;have:=HN.out;omega)] at this,HK.out.bel⟩
   go_wp2
   go_ret2
   exact ⟨_,C,rfl,HFI.out,HC1.out.1,HC1.out.2⟩
set_option maxHeartbeats 1000000 in
theorem z4l (a:Option Addr) (n cap:Nat) (HZ:Box (n=0)) (w:World):
  Calls Tryz.prog 83 #[.slice a n cap] w fun e w'=>e=.returned (.tuple #[.slice none 0 0,.int .i64 0])/\Below w.heap.size w w':=by
 obtain ⟨w1,hw1⟩:=nm (w.alloc (.cells (madeCells #[.int .u64 0,.slice none 0 0] (n*2)) 79))
 have HB:Box (Below w.heap.size w w1):=⟨by rw [<-hw1];exact (Below.refl _ _).alloc (Nat.le_refl _) _⟩
 have hz':¬(0:Int)<(n:Int):=by have:=HZ.out;omega
 have HMK:Box (32*n<=281474976710656/\n<=9223372036854775807):=⟨by have:=HZ.out;omega,by have:=HZ.out;omega⟩
 obtain ⟨g0,hg0⟩:=nm w.heap.size
 go_enter Tryz.func83,Tryz.ntmps83
 go_upto_region 5 with (refine atMake _ ?_;refine q0b rfl _ _ (q3u 47 79 _ _ rfl _ 2 32 Tryz.underlying47 infIm n rfl rfl HMK.out.1 HMK.out.2) ?_)
 have hcz:(Value.agg #[.int .u64 0,.slice none 0 0]).cells=#[.int .u64 0,.slice none 0 0]:=rfl
 (try simp only [hcz,hw1,hg0])
 clear hcz hw1 hz'
 go_wp2
 go_loopw [4,27] (fun v i wr=>v=.slice none 0 0/\i=.int .i64 0/\Box (w1=wr)) (fun _ _ _=>0)
 case atStart=>exact ⟨rfl,rfl,⟨rfl⟩⟩
 case round=>
  obtain ⟨rfl,rfl,HW⟩:=hrel
  have hz1:decide ((0:Int)<(n:Int))=false:=by simp;have:=HZ.out;omega
  go_wp2
  go_ret2
  exact ⟨rfl,HW.out▸HB.out⟩
theorem z7m (a:Option Addr) (cap:Nat) (R:List Rc) (w:World) (h:Recs w a R) (hl:R.length<=1000) (hla:∀h0:0<R.length,(R[R.length-1]'(by omega)).l=true):
  Calls Tryz.prog 83 #[.slice a R.length cap] w fun e w'=>∃v C,e=.returned (.tuple #[v,.int .i64 0])/\Chs w' w.heap.size v C/\C.map (fun c=>c.M.map pl)=(chS (R.map rpl)).1/\Below w.heap.size w w':=by
 by_cases h0:0<R.length
 ·exact z4q a cap R w h hl h0 hla
 ·obtain rfl:R=[]:=List.eq_nil_of_length_eq_zero (by omega)
  exact (z4l a 0 cap ⟨rfl⟩ w).mono fun e w' ⟨h1,h2⟩=>⟨_,[],h1,⟨World.ownsRow_nil _ _ _ _,fun c hc=>by simp at hc⟩,by simp [chS],h2⟩
end Go.Proofs.YtjejnlebpcjidaaGreatDoor
