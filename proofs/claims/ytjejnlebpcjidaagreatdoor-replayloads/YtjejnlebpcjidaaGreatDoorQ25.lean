/-
 What the law's images answers: blocks filled up with noughts, in new memory. And what follows it.
-/
import Derived.Test.YtjejnlebpcjidaaGreatDoorQ23
set_option linter.unusedVariables false
set_option maxRecDepth 100000
set_option maxRecDepth 100000
namespace Go.Proofs.YtjejnlebpcjidaaGreatDoor
open Go.RowKit Plain
theorem q6j {w w':World} {o:Obj} {row:Option Nat} (h:(w.alloc o).grownBy w' row):w.grownBy w' row:=
 ⟨h.os,h.tape,h.output,Nat.le_trans (by simp) h.size,fun k hk hn=>(h.block k (by simp;omega) hn).trans (Below.heap_alloc w o k hk)⟩
theorem q1s {ops:Array Oper} {rest:List Oper} {o:Oper} {act:Act} {w:World} {Q:Exit->Act->World->Prop} (t e:TypeId) (ht:Tryz.prog.underlying t=some (.slice e)) (sz bytes:Nat) (z:Value) (hi:(Tryz.prog.info? e).map (fun i=>(i.zero,i.size,i.bytes))=some (some z,sz,bytes)) (hzs:z.cells.size=sz) (hsz:0<sz) (hgd:o.guard=none) (s x:Operand)
  (ho:o.op=.call {callee:=.builtin .append,args:=#[s,x],argTypes:=#[t,t]}) (B n:Nat) (v:Value) (xs cs:List Value) (wn:World) (hs:act.eval s=v) (hx:act.eval x=.slice (some ⟨wn.heap.size,0,none⟩) 1 1) (hw:w=wn.alloc (.cells cs.toArray e)) (hown:wn.ownsRow B e sz v n xs) (hcs:cs.length=sz) (h1:∀u∈cs,u.oneCell'=true) (hn:n<=1000000) (hby:bytes<=1000) (hb0:0<bytes) (hB:B<=wn.heap.size)
  (h:∀v' w',w'.ownsRow B e sz v' (n+1) (xs++cs)->wn.grownBy w' v.ownBlock->wpList Tryz.prog ops Q rest (act.put o.dst v') w'):wpList Tryz.prog ops Q (o::rest) act w:=by
 obtain ⟨i0,hi1,hz0,hz1,hz2⟩:=info_parts hi
 subst hw
 have hm:(n+1)*bytes<=140737488355328:=Nat.le_trans (Nat.mul_le_mul (show n+1<=1000001 by omega) hby) (by decide)
 refine wpList_append_own _ hgd s x t ho B e i0 z sz bytes ht hi1 hz0 hz1 hz2 hzs hsz v n xs hs (q2v hown ((Below.refl _ _).alloc (Nat.le_refl _) _)) ⟨wn.heap.size,0,none⟩ 1 1 cs hx (by rw [hcs,Nat.one_mul]) (q3d wn cs e) h1 (by unfold maxLen;omega) hm (by simp;omega) ?_
 intro v' w' h2 h3 _
 exact h v' w' h2 (q6j h3)
theorem z0u (L:List Int) (n:Nat):List.replicate n (Value.int .u8 0)=((L.take 0++List.replicate (n-0) 0).map (Value.int .u8)):=by simp
theorem z0r (L:List Int) (n k:Nat) (hk:k<n) (hL:k<L.length):((L.take k++List.replicate (n-k) 0).map (Value.int .u8)).toArray.setIfInBounds k (.int .u8 (L.getD k 0))=((L.take (k+1)++List.replicate (n-(k+1)) 0).map (Value.int .u8)).toArray:=by
 obtain ⟨m,hm⟩:∃m,n-k=m+1:=⟨n-k-1,by omega⟩
 have hm':n-(k+1)=m:=by omega
 have hl:(L.take k).length=k:=by simp;omega
 rw [hm,hm',List.take_succ_eq_append_getElem hL,List.setIfInBounds_toArray,<-List.map_set]
 congr 2
 rw [List.set_append_right _ _ (by omega),hl,Nat.sub_self,List.replicate_succ,List.set_cons_zero,List.append_assoc]
 simp [List.getD,hL]
theorem q7s (L:List Int) (n k:Nat) (h:k=L.length/\k<=n∨k=n/\k<=L.length):L.take k++List.replicate (n-k) 0=padTo L n:=by
 unfold padTo
 rcases h with ⟨rfl,h⟩ | ⟨rfl,h⟩
 ·rw [List.take_of_length_le (Nat.le_refl _),List.take_of_length_le h]
 ·rw [show k-k=k-L.length by omega]
def szP (short:Bool) (i:Nat):Nat:=if short=true/\i=1 then 159 else 160
def imgP (short:Bool) (L:List (Int × List Int)):List (Int × List Int):=L.mapIdx fun i x=>(x.1,padTo x.2 (szP short i))
theorem q7z (short:Bool) (L:List (Int × List Int)):(imgP short L).length=L.length:=by simp [imgP]
theorem z6c (short:Bool) (L:List (Int × List Int)) (i:Nat) (h:i<L.length):(imgP short L)[i]'(by rw [q7z];exact h)=(L[i].1,padTo L[i].2 (szP short i)):=by simp [imgP]
theorem q8w (L:List Int) (n:Nat) (h:Byt L):Byt (padTo L n):=q1x _ _ (q8g L n h) (q2g _)
structure Ig (w wr:World) (short:Bool) (M:List Im) (k:Nat) (v:Value) (X:List Im):Prop where
 im:OImgs wr w.heap.size v X
 len:X.length=k
 pls:X.map pl=(imgP short (M.map pl)).take k
 bel:Below w.heap.size w wr
theorem Ig.step {w wr wk w':World} {short:Bool} {M:List Im} {k:Nat} {v v':Value} {X:List Im} (h:Ig w wr short M k v X) (hk:k<M.length) (nn:Nat) (hnn:nn=szP short k) (hb:Below wr.heap.size wr wk) (hr:wk.heap[wr.heap.size]?=some (.cells ((padTo M[k].bs nn).map (Value.int .u8)).toArray 5 (0,0))) (hn6:N64 M[k].blk) (hB:Byt M[k].bs)
  (ho:w'.ownsRow w.heap.size 79 2 v' (k+1) ((X.map imc).flatten++[.int .u64 M[k].blk,.slice (some ⟨wr.heap.size,0,none⟩) nn nn])) (hg:wk.grownBy w' v.ownBlock):Ig w w' short M (k+1) v' (X++[⟨M[k].blk,some ⟨wr.heap.size,0,none⟩,nn,nn,padTo M[k].bs nn⟩]):=by
 have hrow:wk.ownsRow w.heap.size 79 2 v X.length (X.map imc).flatten:=q2v h.im.row hb
 have hnew:OIm wk w.heap.size ⟨M[k].blk,some ⟨wr.heap.size,0,none⟩,nn,nn,padTo M[k].bs nn⟩:=by
  refine ⟨(Out.of_row (w:=w) (w':=wk) (q4g _ _) ?_ h.bel.size hr (q0a h.bel hb)).2.1,q8w _ _ hB,hn6⟩
  unfold maxLen szP at *
  split at hnn<;>omega
 refine ⟨⟨?_,fun m hm=>?_⟩,by simp [h.len],?_,?_⟩
 ·have:(X++[(⟨M[k].blk,some ⟨wr.heap.size,0,none⟩,nn,nn,padTo M[k].bs nn⟩:Im)]).length=k+1:=by simp [h.len]
  rw [this,List.map_append,List.flatten_append]
  simpa [imc] using ho
 ·rcases List.mem_append.1 hm with hm | hm
  ·exact ((h.im.byt m hm).to hb).grown hrow (by decide) hg
  ·simp only [List.mem_cons,List.not_mem_nil,or_false] at hm
   subst hm
   exact hnew.grown hrow (by decide) hg
 ·have hk2:k<(imgP short (M.map pl)).length:=by rw [q7z];simpa using hk
  rw [List.map_append,h.pls,List.take_succ_eq_append_getElem hk2,z6c short (M.map pl) k (by simpa using hk)]
  simp [pl,hnn]
 ·exact (q0a h.bel hb).grown hg (q0a h.bel hb).size (fun j hj=>(q1j hrow j hj).1)
set_option maxRecDepth 20000 in
set_option maxHeartbeats 4000000 in
theorem z7v (a:Option Addr) (cap:Nat) (M:List Im) (short:Bool) (w:World) (h:Imgs w a M) (hl:M.length<=1000):
  Calls Tryz.prog 10 #[.slice a M.length cap,.bool short] w fun e w'=>∃v X,e=.returned v/\Ig w w' short M M.length v X:=by
 obtain ⟨i0,hi,hz0,hz1,hz2⟩:=info_parts info5
 have HM:Box (∀x,Below w.heap.size w x->Imgs x a M):=⟨fun x hx=>h.below hx⟩
 clear h
 go_enter Tryz.func10,Tryz.ntmps10
 go_wp2
 go_loopw [5,6] (fun v i wr=>∃(k:Nat) (X:List Im),k<=M.length/\i=.int .i64 (k:Int)/\Box (Ig w wr short M k v X)) (fun _ i _=>M.length-(intOf i).toNat)
 case atStart=>exact ⟨0,[],Nat.zero_le _,rfl,⟨⟨World.ownsRow_nil _ _ _ _,fun m hm=>by simp at hm⟩,rfl,by simp,Below.refl _ _⟩⟩
 case round=>
  obtain ⟨k,X,hk,rfl,HG⟩:=hrel
  obtain ⟨wo,rfl⟩:∃wo,wo=wr:=⟨_,rfl⟩
  by_cases hlt:k<M.length
  ·have hlt1:decide ((k:Int)<(M.length:Int))=true:=by simp;omega
   obtain ⟨b,o,hae,hbl,hr⟩:=(HM.out wo HG.out.bel).tb (by omega)
   subst hae
   have hby:=(HM.out wo HG.out.bel).byt M[k] (List.getElem_mem hlt)
   have HML:Box (k<M.length):=⟨hlt⟩
   obtain ⟨⟨blk,ba,bl,bc,bs⟩,hmm⟩:∃m,M[k]=m:=⟨_,rfl⟩
   rw [hmm] at hby
   simp only at hby
   have hrk:=hr k hlt
   rw [hmm] at hrk
   have HR:Box (∀x,Below wo.heap.size wo x->x.cell? ⟨b,o+k*2,none⟩=some (.int .u64 blk)/\x.cell? ⟨b,o+k*2+1,none⟩=some (.slice ba bl bc)/\Bytes x ba bl bs):=⟨fun x hx=>⟨(hx.cell hbl).trans (hrk 0 _ rfl),(hx.cell hbl).trans (hrk 1 _ rfl),hby.1.below hx⟩⟩
   have HL:Box (bs.length=bl/\bl<=maxLen/\Byt bs/\N64 blk):=⟨hby.1.1,Nat.le_trans hby.2.2.1 hby.2.2.2,hby.1.2.1,hby.2.1⟩
   have hbl2:bl<=9223372036854775807:=by have:=HL.out.2.1;unfold maxLen at this;omega
   have HST:Box (∀(nn:Nat) (wr w':World) (v':Value),nn=szP short k->Below wo.heap.size wo wr->wr.heap[wo.heap.size]?=some (.cells ((padTo bs nn).map (Value.int .u8)).toArray 5 (0,0))->w'.ownsRow w.heap.size 79 2 v' (k+1) ((X.map imc).flatten++[.int .u64 blk,.slice (some ⟨wo.heap.size,0,none⟩) nn nn])->wr.grownBy w' u5.ownBlock->∃X',Ig w w' short M (k+1) v' X'):=⟨fun nn wr w' v' h1 h2 h3 h4 h5=>by
    have:=HG.out.step hlt nn h1 h2 (by rw [hmm];exact h3) (by rw [hmm];exact HL.out.2.2.2) (by rw [hmm];exact HL.out.2.2.1) (by rw [hmm];exact h4) h5
    exact ⟨_,this⟩⟩
   have hw4:IntKind.i64.wrap ((k:Int)+1)=((k+1:Nat):Int):=by rw [IntKind.wrap_i64];omega
   have HB0:Box (w.heap.size<=wo.heap.size/\wo.ownsRow w.heap.size 79 2 u5 k (X.map imc).flatten):=⟨HG.out.bel.size,by have:=HG.out.im.row;rwa [HG.out.len] at this⟩
   clear hr hby hmm hrk hbl
   by_cases hsh:short=true/\k=1
   ·obtain ⟨hsh1,hsh2⟩:=hsh
    have HSZ:Box (159=szP short k):=⟨by simp [szP,hsh1,hsh2]⟩
    have hk1':((k:Int)==1)=true:=by simp [hsh2]
    clear hsh2
    subst hsh1
    go_upto_region 9 with (at_make;refine wpList_make_full _ rfl (.tmp 21) (.tmp 21) 57 rfl _ 5 i0 (.int .u8 0) 1 Tryz.underlying57 hi hz0 hz1 _ _ _ _ 159 rfl rfl rfl rfl (by rw [hz2];omega) (by unfold maxLen;omega) (Nat.le_refl _) ?_;intro x1 hown hgrow;have HR1:Box (x1.heap[wo.heap.size]?=some (.cells ((bs.take 0++List.replicate (159-0) 0).map (Value.int .u8)).toArray 5 (0,0))/\Below wo.heap.size wo x1):=⟨z0u bs 159▸q5y hown,(Below.refl _ _).grown hgrow (Nat.le_refl _) (by simp)⟩;clear hown hgrow)
    obtain ⟨g,hgs⟩:=nm wo.heap.size
    simp only [hgs] at HR1 HST ⊢
    have HGS:Box (wo.heap.size=g):=⟨hgs⟩
    clear hgs
    go_wp2
    go_loopw [9] (fun j wr=>∃kk:Nat,kk<=bl/\kk<=159/\j=.int .i64 (kk:Int)/\Box (wr.heap[g]?=some (.cells ((bs.take kk++List.replicate (159-kk) 0).map (Value.int .u8)).toArray 5 (0,0))/\Below g wo wr)) (fun j _=>159-(intOf j).toNat)
    case atStart=>exact ⟨0,Nat.zero_le _,Nat.zero_le _,rfl,HR1⟩
    case round=>
     clear HR1
     obtain ⟨kk,hk1,hk2,rfl,HK⟩:=hrel
     have HRk:=HR.out wr (HGS.out▸HK.out.2)
     by_cases hc1:kk<bl
     ·by_cases hc2:kk<159
      ·have hd1:decide ((kk:Int)<(bl:Int))=true:=by simp;omega
       have hd2:decide ((kk:Int)<159)=true:=by simp;omega
       obtain ⟨c0,c1,hB⟩:=HRk
       obtain ⟨bb,oo,rfl,_,hcl⟩:=hB.2.2 (by omega)
       have hcb:=hcl kk hc1
       have hf:wr.frozen? ⟨g,kk,none⟩=false:=frozen_of_row wr g kk _ 5 HK.out.1
       obtain ⟨vv,hcv⟩:=q6t wr g kk _ 5 HK.out.1 (by simp;have:=HL.out.1;omega)
       have HN:Box ((wr.setCell ⟨g,kk,none⟩ (.int .u8 (bs.getD kk 0))).heap[g]?=some (.cells ((bs.take (kk+1)++List.replicate (159-(kk+1)) 0).map (Value.int .u8)).toArray 5 (0,0))/\Below g wo (wr.setCell ⟨g,kk,none⟩ (.int .u8 (bs.getD kk 0)))):=⟨by rw [heap_setCell_same wr g kk _ 5 _ HK.out.1,z0r bs 159 kk hc2 (by rw [HL.out.1];exact hc1)],q2i HK.out.2 (Nat.le_refl _) _⟩
       have hw5:IntKind.i64.wrap ((kk:Int)+1)=((kk+1:Nat):Int):=by rw [IntKind.wrap_i64];omega
       generalize bs.getD kk 0=z at hcb HN
       clear hcl hB
       go_wp2_with (refine atIdx 47 ?_;refine q0b rfl _ _ (q0p 47 79 Tryz.underlying47 2 infoIm _ _ rfl b o M.length cap k rfl rfl HML.out) ?_)
       go_roundw
       case rel=>exact ⟨kk+1,by omega,by omega,by go_num,HN⟩
       case measure=>simp [intOf];omega
      ·have hkn:kk=159:=by omega
       have hd1:decide ((kk:Int)<(bl:Int))=true:=by simp;omega
       have hd2:decide ((kk:Int)<159)=false:=by simp;omega
       have HE:Box (wr.heap[g]?=some (.cells ((padTo bs 159).map (Value.int .u8)).toArray 5 (0,0))/\Below g wo wr):=⟨by rw [<-q7s bs 159 kk (.inr ⟨hkn,by rw [HL.out.1];omega⟩)];exact HK.out.1,HK.out.2⟩
       obtain ⟨c0,c1,hB⟩:=HRk
       clear hB HK hkn hk1 hk2
       have HOW:Box (wr.ownsRow w.heap.size 79 2 u5 k (X.map imc).flatten/\w.heap.size<=wr.heap.size):=⟨q2v HB0.out.2 (HGS.out▸HE.out.2),Nat.le_trans HB0.out.1 HE.out.2.size⟩
       have HL2:Box (k<=1000000):=⟨by have:=HML.out;omega⟩
       go_wp2_with (first
        | (refine atIdx 47 ?_;refine q0b rfl _ _ (q0p 47 79 Tryz.underlying47 2 infoIm _ _ rfl b o M.length cap k rfl rfl HML.out) ?_)
        | (refine atBuild 79 ?_;refine q0b rfl _ _ (q0n 79 [(0,.tmp 54),(1,.tmp 55)] rfl [(0,.int .u64 blk),(1,.slice (some ⟨g,0,none⟩) 159 159)] rfl _ (q3r _ _ _ _)) ?_)
        | (at_builtin;refine q1s 47 79 Tryz.underlying47 2 32 _ infIm rfl (by decide) rfl (.tmp 49) (.tmp 57) rfl w.heap.size k u5 (X.map imc).flatten [.int .u64 blk,.slice (some ⟨g,0,none⟩) 159 159] wr rfl rfl rfl HOW.out.1 rfl (by simp [Value.oneCell']) HL2.out (by decide) (by decide) HOW.out.2 ?_;intro v3 x3 hown hgr;have H3:Box (∃X',Ig w x3 _ M (k+1) v3 X'):=⟨HST.out 159 wr x3 v3 HSZ.out HE.out.2 HE.out.1 hown hgr⟩;clear hown hgr))
       obtain ⟨X',hX'⟩:=H3.out
       exact ⟨⟨k+1,X',HML.out,by go_num,⟨hX'⟩⟩,by simp [intOf];have:=HML.out;omega⟩
     ·have hd1:decide ((kk:Int)<(bl:Int))=false:=by simp;omega
      have HE:Box (wr.heap[g]?=some (.cells ((padTo bs 159).map (Value.int .u8)).toArray 5 (0,0))/\Below g wo wr):=⟨by rw [<-q7s bs 159 kk (.inl ⟨by rw [HL.out.1];omega,hk2⟩)];exact HK.out.1,HK.out.2⟩
      obtain ⟨c0,c1,hB⟩:=HRk
      clear hB HK hk1 hk2
      have HOW:Box (wr.ownsRow w.heap.size 79 2 u5 k (X.map imc).flatten/\w.heap.size<=wr.heap.size):=⟨q2v HB0.out.2 (HGS.out▸HE.out.2),Nat.le_trans HB0.out.1 HE.out.2.size⟩
      have HL2:Box (k<=1000000):=⟨by have:=HML.out;omega⟩
      go_wp2_with (first
       | (refine atIdx 47 ?_;refine q0b rfl _ _ (q0p 47 79 Tryz.underlying47 2 infoIm _ _ rfl b o M.length cap k rfl rfl HML.out) ?_)
       | (refine atBuild 79 ?_;refine q0b rfl _ _ (q0n 79 [(0,.tmp 54),(1,.tmp 55)] rfl [(0,.int .u64 blk),(1,.slice (some ⟨g,0,none⟩) 159 159)] rfl _ (q3r _ _ _ _)) ?_)
       | (at_builtin;refine q1s 47 79 Tryz.underlying47 2 32 _ infIm rfl (by decide) rfl (.tmp 49) (.tmp 57) rfl w.heap.size k u5 (X.map imc).flatten [.int .u64 blk,.slice (some ⟨g,0,none⟩) 159 159] wr rfl rfl rfl HOW.out.1 rfl (by simp [Value.oneCell']) HL2.out (by decide) (by decide) HOW.out.2 ?_;intro v3 x3 hown hgr;have H3:Box (∃X',Ig w x3 _ M (k+1) v3 X'):=⟨HST.out 159 wr x3 v3 HSZ.out HE.out.2 HE.out.1 hown hgr⟩;clear hown hgr))
      obtain ⟨X',hX'⟩:=H3.out
      exact ⟨⟨k+1,X',HML.out,by go_num,⟨hX'⟩⟩,by simp [intOf];have:=HML.out;omega⟩
   ·have HSZ:Box (160=szP short k):=⟨by simp [szP,hsh]⟩
    by_cases hsh1:short=true
    ·have hk1':((k:Int)==1)=false:=by simp;intro e;exact hsh ⟨hsh1,by omega⟩
     subst hsh1
     clear hsh
     go_upto_region 9 with (at_make;refine wpList_make_full _ rfl (.tmp 21) (.tmp 21) 57 rfl _ 5 i0 (.int .u8 0) 1 Tryz.underlying57 hi hz0 hz1 _ _ _ _ 160 rfl rfl rfl rfl (by rw [hz2];omega) (by unfold maxLen;omega) (Nat.le_refl _) ?_;intro x1 hown hgrow;have HR1:Box (x1.heap[wo.heap.size]?=some (.cells ((bs.take 0++List.replicate (160-0) 0).map (Value.int .u8)).toArray 5 (0,0))/\Below wo.heap.size wo x1):=⟨z0u bs 160▸q5y hown,(Below.refl _ _).grown hgrow (Nat.le_refl _) (by simp)⟩;clear hown hgrow)
     obtain ⟨g,hgs⟩:=nm wo.heap.size
     simp only [hgs] at HR1 HST ⊢
     have HGS:Box (wo.heap.size=g):=⟨hgs⟩
     clear hgs
     go_wp2
     go_loopw [9] (fun j wr=>∃kk:Nat,kk<=bl/\kk<=160/\j=.int .i64 (kk:Int)/\Box (wr.heap[g]?=some (.cells ((bs.take kk++List.replicate (160-kk) 0).map (Value.int .u8)).toArray 5 (0,0))/\Below g wo wr)) (fun j _=>160-(intOf j).toNat)
     case atStart=>exact ⟨0,Nat.zero_le _,Nat.zero_le _,rfl,HR1⟩
     case round=>
      clear HR1
      obtain ⟨kk,hk1,hk2,rfl,HK⟩:=hrel
      have HRk:=HR.out wr (HGS.out▸HK.out.2)
      by_cases hc1:kk<bl
      ·by_cases hc2:kk<160
       ·have hd1:decide ((kk:Int)<(bl:Int))=true:=by simp;omega
        have hd2:decide ((kk:Int)<160)=true:=by simp;omega
        obtain ⟨c0,c1,hB⟩:=HRk
        obtain ⟨bb,oo,rfl,_,hcl⟩:=hB.2.2 (by omega)
        have hcb:=hcl kk hc1
        have hf:wr.frozen? ⟨g,kk,none⟩=false:=frozen_of_row wr g kk _ 5 HK.out.1
        obtain ⟨vv,hcv⟩:=q6t wr g kk _ 5 HK.out.1 (by simp;have:=HL.out.1;omega)
        have HN:Box ((wr.setCell ⟨g,kk,none⟩ (.int .u8 (bs.getD kk 0))).heap[g]?=some (.cells ((bs.take (kk+1)++List.replicate (160-(kk+1)) 0).map (Value.int .u8)).toArray 5 (0,0))/\Below g wo (wr.setCell ⟨g,kk,none⟩ (.int .u8 (bs.getD kk 0)))):=⟨by rw [heap_setCell_same wr g kk _ 5 _ HK.out.1,z0r bs 160 kk hc2 (by rw [HL.out.1];exact hc1)],q2i HK.out.2 (Nat.le_refl _) _⟩
        have hw5:IntKind.i64.wrap ((kk:Int)+1)=((kk+1:Nat):Int):=by rw [IntKind.wrap_i64];omega
        generalize bs.getD kk 0=z at hcb HN
        clear hcl hB
        go_wp2_with (refine atIdx 47 ?_;refine q0b rfl _ _ (q0p 47 79 Tryz.underlying47 2 infoIm _ _ rfl b o M.length cap k rfl rfl HML.out) ?_)
        go_roundw
        case rel=>exact ⟨kk+1,by omega,by omega,by go_num,HN⟩
        case measure=>simp [intOf];omega
       ·have hkn:kk=160:=by omega
        have hd1:decide ((kk:Int)<(bl:Int))=true:=by simp;omega
        have hd2:decide ((kk:Int)<160)=false:=by simp;omega
        have HE:Box (wr.heap[g]?=some (.cells ((padTo bs 160).map (Value.int .u8)).toArray 5 (0,0))/\Below g wo wr):=⟨by rw [<-q7s bs 160 kk (.inr ⟨hkn,by rw [HL.out.1];omega⟩)];exact HK.out.1,HK.out.2⟩
        obtain ⟨c0,c1,hB⟩:=HRk
        clear hB HK hkn hk1 hk2
        have HOW:Box (wr.ownsRow w.heap.size 79 2 u5 k (X.map imc).flatten/\w.heap.size<=wr.heap.size):=⟨q2v HB0.out.2 (HGS.out▸HE.out.2),Nat.le_trans HB0.out.1 HE.out.2.size⟩
        have HL2:Box (k<=1000000):=⟨by have:=HML.out;omega⟩
        go_wp2_with (first
         | (refine atIdx 47 ?_;refine q0b rfl _ _ (q0p 47 79 Tryz.underlying47 2 infoIm _ _ rfl b o M.length cap k rfl rfl HML.out) ?_)
         | (refine atBuild 79 ?_;refine q0b rfl _ _ (q0n 79 [(0,.tmp 54),(1,.tmp 55)] rfl [(0,.int .u64 blk),(1,.slice (some ⟨g,0,none⟩) 160 160)] rfl _ (q3r _ _ _ _)) ?_)
         | (at_builtin;refine q1s 47 79 Tryz.underlying47 2 32 _ infIm rfl (by decide) rfl (.tmp 49) (.tmp 57) rfl w.heap.size k u5 (X.map imc).flatten [.int .u64 blk,.slice (some ⟨g,0,none⟩) 160 160] wr rfl rfl rfl HOW.out.1 rfl (by simp [Value.oneCell']) HL2.out (by decide) (by decide) HOW.out.2 ?_;intro v3 x3 hown hgr;have H3:Box (∃X',Ig w x3 _ M (k+1) v3 X'):=⟨HST.out 160 wr x3 v3 HSZ.out HE.out.2 HE.out.1 hown hgr⟩;clear hown hgr))
        obtain ⟨X',hX'⟩:=H3.out
        exact ⟨⟨k+1,X',HML.out,by go_num,⟨hX'⟩⟩,by simp [intOf];have:=HML.out;omega⟩
      ·have hd1:decide ((kk:Int)<(bl:Int))=false:=by simp;omega
       have HE:Box (wr.heap[g]?=some (.cells ((padTo bs 160).map (Value.int .u8)).toArray 5 (0,0))/\Below g wo wr):=⟨by rw [<-q7s bs 160 kk (.inl ⟨by rw [HL.out.1];omega,hk2⟩)];exact HK.out.1,HK.out.2⟩
       obtain ⟨c0,c1,hB⟩:=HRk
       clear hB HK hk1 hk2
       have HOW:Box (wr.ownsRow w.heap.size 79 2 u5 k (X.map imc).flatten/\w.heap.size<=wr.heap.size):=⟨q2v HB0.out.2 (HGS.out▸HE.out.2),Nat.le_trans HB0.out.1 HE.out.2.size⟩
       have HL2:Box (k<=1000000):=⟨by have:=HML.out;omega⟩
       go_wp2_with (first
        | (refine atIdx 47 ?_;refine q0b rfl _ _ (q0p 47 79 Tryz.underlying47 2 infoIm _ _ rfl b o M.length cap k rfl rfl HML.out) ?_)
        | (refine atBuild 79 ?_;refine q0b rfl _ _ (q0n 79 [(0,.tmp 54),(1,.tmp 55)] rfl [(0,.int .u64 blk),(1,.slice (some ⟨g,0,none⟩) 160 160)] rfl _ (q3r _ _ _ _)) ?_)
        | (at_builtin;refine q1s 47 79 Tryz.underlying47 2 32 _ infIm rfl (by decide) rfl (.tmp 49) (.tmp 57) rfl w.heap.size k u5 (X.map imc).flatten [.int .u64 blk,.slice (some ⟨g,0,none⟩) 160 160] wr rfl rfl rfl HOW.out.1 rfl (by simp [Value.oneCell']) HL2.out (by decide) (by decide) HOW.out.2 ?_;intro v3 x3 hown hgr;have H3:Box (∃X',Ig w x3 _ M (k+1) v3 X'):=⟨HST.out 160 wr x3 v3 HSZ.out HE.out.2 HE.out.1 hown hgr⟩;clear hown hgr))
       obtain ⟨X',hX'⟩:=H3.out
       exact ⟨⟨k+1,X',HML.out,by go_num,⟨hX'⟩⟩,by simp [intOf];have:=HML.out;omega⟩
    ·have hsh2:short=false:=by simpa using hsh1
     subst hsh2
     clear hsh hsh1
     go_upto_region 9 with (at_make;refine wpList_make_full _ rfl (.tmp 21) (.tmp 21) 57 rfl _ 5 i0 (.int .u8 0) 1 Tryz.underlying57 hi hz0 hz1 _ _ _ _ 160 rfl rfl rfl rfl (by rw [hz2];omega) (by unfold maxLen;omega) (Nat.le_refl _) ?_;intro x1 hown hgrow;have HR1:Box (x1.heap[wo.heap.size]?=some (.cells ((bs.take 0++List.replicate (160-0) 0).map (Value.int .u8)).toArray 5 (0,0))/\Below wo.heap.size wo x1):=⟨z0u bs 160▸q5y hown,(Below.refl _ _).grown hgrow (Nat.le_refl _) (by simp)⟩;clear hown hgrow)
     obtain ⟨g,hgs⟩:=nm wo.heap.size
     simp only [hgs] at HR1 HST ⊢
     have HGS:Box (wo.heap.size=g):=⟨hgs⟩
     clear hgs
     go_wp2
     go_loopw [9] (fun j wr=>∃kk:Nat,kk<=bl/\kk<=160/\j=.int .i64 (kk:Int)/\Box (wr.heap[g]?=some (.cells ((bs.take kk++List.replicate (160-kk) 0).map (Value.int .u8)).toArray 5 (0,0))/\Below g wo wr)) (fun j _=>160-(intOf j).toNat)
     case atStart=>exact ⟨0,Nat.zero_le _,Nat.zero_le _,rfl,HR1⟩
     case round=>
      clear HR1
      obtain ⟨kk,hk1,hk2,rfl,HK⟩:=hrel
      have HRk:=HR.out wr (HGS.out▸HK.out.2)
      by_cases hc1:kk<bl
      ·by_cases hc2:kk<160
       ·have hd1:decide ((kk:Int)<(bl:Int))=true:=by simp;omega
        have hd2:decide ((kk:Int)<160)=true:=by simp;omega
        obtain ⟨c0,c1,hB⟩:=HRk
        obtain ⟨bb,oo,rfl,_,hcl⟩:=hB.2.2 (by omega)
        have hcb:=hcl kk hc1
        have hf:wr.frozen? ⟨g,kk,none⟩=false:=frozen_of_row wr g kk _ 5 HK.out.1
        obtain ⟨vv,hcv⟩:=q6t wr g kk _ 5 HK.out.1 (by simp;have:=HL.out.1;omega)
        have HN:Box ((wr.setCell ⟨g,kk,none⟩ (.int .u8 (bs.getD kk 0))).heap[g]?=some (.cells ((bs.take (kk+1)++List.replicate (160-(kk+1)) 0).map (Value.int .u8)).toArray 5 (0,0))/\Below g wo (wr.setCell ⟨g,kk,none⟩ (.int .u8 (bs.getD kk 0)))):=⟨by rw [heap_setCell_same wr g kk _ 5 _ HK.out.1,z0r bs 160 kk hc2 (by rw [HL.out.1];exact hc1)],q2i HK.out.2 (Nat.le_refl _) _⟩
        have hw5:IntKind.i64.wrap ((kk:Int)+1)=((kk+1:Nat):Int):=by rw [IntKind.wrap_i64];omega
        generalize bs.getD kk 0=z at hcb HN
        clear hcl hB
        go_wp2_with (refine atIdx 47 ?_;refine q0b rfl _ _ (q0p 47 79 Tryz.underlying47 2 infoIm _ _ rfl b o M.length cap k rfl rfl HML.out) ?_)
        go_roundw
        case rel=>exact ⟨kk+1,by omega,by omega,by go_num,HN⟩
        case measure=>simp [intOf];omega
       ·have hkn:kk=160:=by omega
        have hd1:decide ((kk:Int)<(bl:Int))=true:=by simp;omega
        have hd2:decide ((kk:Int)<160)=false:=by simp;omega
        have HE:Box (wr.heap[g]?=some (.cells ((padTo bs 160).map (Value.int .u8)).toArray 5 (0,0))/\Below g wo wr):=⟨by rw [<-q7s bs 160 kk (.inr ⟨hkn,by rw [HL.out.1];omega⟩)];exact HK.out.1,HK.out.2⟩
        obtain ⟨c0,c1,hB⟩:=HRk
        clear hB HK hkn hk1 hk2
        have HOW:Box (wr.ownsRow w.heap.size 79 2 u5 k (X.map imc).flatten/\w.heap.size<=wr.heap.size):=⟨q2v HB0.out.2 (HGS.out▸HE.out.2),Nat.le_trans HB0.out.1 HE.out.2.size⟩
        have HL2:Box (k<=1000000):=⟨by have:=HML.out;omega⟩
        go_wp2_with (first
         | (refine atIdx 47 ?_;refine q0b rfl _ _ (q0p 47 79 Tryz.underlying47 2 infoIm _ _ rfl b o M.length cap k rfl rfl HML.out) ?_)
         | (refine atBuild 79 ?_;refine q0b rfl _ _ (q0n 79 [(0,.tmp 54),(1,.tmp 55)] rfl [(0,.int .u64 blk),(1,.slice (some ⟨g,0,none⟩) 160 160)] rfl _ (q3r _ _ _ _)) ?_)
         | (at_builtin;refine q1s 47 79 Tryz.underlying47 2 32 _ infIm rfl (by decide) rfl (.tmp 49) (.tmp 57) rfl w.heap.size k u5 (X.map imc).flatten [.int .u64 blk,.slice (some ⟨g,0,none⟩) 160 160] wr rfl rfl rfl HOW.out.1 rfl (by simp [Value.oneCell']) HL2.out (by decide) (by decide) HOW.out.2 ?_;intro v3 x3 hown hgr;have H3:Box (∃X',Ig w x3 _ M (k+1) v3 X'):=⟨HST.out 160 wr x3 v3 HSZ.out HE.out.2 HE.out.1 hown hgr⟩;clear hown hgr))
        obtain ⟨X',hX'⟩:=H3.out
        exact ⟨⟨k+1,X',HML.out,by go_num,⟨hX'⟩⟩,by simp [intOf];have:=HML.out;omega⟩
      ·have hd1:decide ((kk:Int)<(bl:Int))=false:=by simp;omega
       have HE:Box (wr.heap[g]?=some (.cells ((padTo bs 160).map (Value.int .u8)).toArray 5 (0,0))/\Below g wo wr):=⟨by rw [<-q7s bs 160 kk (.inl ⟨by rw [HL.out.1];omega,hk2⟩)];exact HK.out.1,HK.out.2⟩
       obtain ⟨c0,c1,hB⟩:=HRk
       clear hB HK hk1 hk2
       have HOW:Box (wr.ownsRow w.heap.size 79 2 u5 k (X.map imc).flatten/\w.heap.size<=wr.heap.size):=⟨q2v HB0.out.2 (HGS.out▸HE.out.2),Nat.le_trans HB0.out.1 HE.out.2.size⟩
       have HL2:Box (k<=1000000):=⟨by have:=HML.out;omega⟩
       go_wp2_with (first
        | (refine atIdx 47 ?_;refine q0b rfl _ _ (q0p 47 79 Tryz.underlying47 2 infoIm _ _ rfl b o M.length cap k rfl rfl HML.out) ?_)
        | (refine atBuild 79 ?_;refine q0b rfl _ _ (q0n 79 [(0,.tmp 54),(1,.tmp 55)] rfl [(0,.int .u64 blk),(1,.slice (some ⟨g,0,none⟩) 160 160)] rfl _ (q3r _ _ _ _)) ?_)
        | (at_builtin;refine q1s 47 79 Tryz.underlying47 2 32 _ infIm rfl (by decide) rfl (.tmp 49) (.tmp 57) rfl w.heap.size k u5 (X.map imc).flatten [.int .u64 blk,.slice (some ⟨g,0,none⟩) 160 160] wr rfl rfl rfl HOW.out.1 rfl (by simp [Value.oneCell']) HL2.out (by decide) (by decide) HOW.out.2 ?_;intro v3 x3 hown hgr;have H3:Box (∃X',Ig w x3 _ M (k+1) v3 X'):=⟨HST.out 160 wr x3 v3 HSZ.out HE.out.2 HE.out.1 hown hgr⟩;clear hown hgr))
       obtain ⟨X',hX'⟩:=H3.out
       exact ⟨⟨k+1,X',HML.out,by go_num,⟨hX'⟩⟩,by simp [intOf];have:=HML.out;omega⟩
  ·obtain rfl:k=M.length:=by omega
   have hlt1:decide ((M.length:Int)<(M.length:Int))=false:=by simp
   go_wp2
   go_ret
   exact ⟨_,_,rfl,HG.out⟩
theorem putP_lo (x:(Int × List Int) × Bool) (t:Nat) (ht:t<8):(putP x).getD t 0=byteAt (hd x.2) t:=by
 unfold putP
 rw [List.append_assoc,q2b _ _ _ (by rw [q0f];omega),q2m _ _ _ ht]
theorem putP_mid (x:(Int × List Int) × Bool) (t:Nat) (ht:t<8):(putP x).getD (8+t) 0=byteAt x.1.1 t:=by
 unfold putP
 rw [List.append_assoc,q2o,q0f,if_neg (by omega),show 8+t-8=t by omega,q2b _ _ _ (by rw [q0f];omega),q2m _ _ _ ht]
theorem num_at (L:List Int) (p:Nat) (x:Int) (h:∀t,t<8->L.getD (p+t) 0=byteAt x t) (hx:N64 x):num L p 8=x:=by
 rw [z2d L (bytesOf x 8) p 0 8 (fun t ht=>by rw [h t ht,Nat.zero_add,q2m _ _ _ ht]),q9d x 8 8 (Nat.le_refl _)]
 exact Int.emod_eq_of_lt hx.1 (by have:=hx.2;omega)
theorem z2f (x:(Int × List Int) × Bool):num (putP x) 0 8=hd x.2:=num_at _ _ _ (fun t ht=>by rw [Nat.zero_add];exact putP_lo x t ht) (hd_bd _)
theorem num_putP8 (x:(Int × List Int) × Bool) (h:N64 x.1.1):num (putP x) 8 8=x.1.1:=num_at _ _ _ (fun t ht=>putP_mid x t ht) h
theorem drop_putP (x:(Int × List Int) × Bool):(putP x).drop 16=x.1.2:=by
 unfold putP
 rw [List.drop_append,List.drop_of_length_le (by simp [q0f])]
 simp [q0f]
theorem fit_putP (x:(Int × List Int) × Bool) (h:x.1.2.length=160):fitR (putP x):=⟨q8e x h,by rw [z2f];unfold hd;split<;>simp⟩
theorem getP_putP (x:(Int × List Int) × Bool) (h:N64 x.1.1):getP (putP x)=x:=by
 obtain ⟨⟨b,L⟩,l⟩:=x
 unfold getP
 rw [z2f,num_putP8 _ h,drop_putP]
 cases l<;>simp [hd]
def z160:List Int:=List.replicate 160 0
theorem q6b:z160.length=160:=List.length_replicate
theorem z5e:Byt z160:=q2g 160
end Go.Proofs.YtjejnlebpcjidaaGreatDoor
