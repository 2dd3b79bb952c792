/-
 What the reference's Of answers, for all bytes.
-/
import Derived.Test.YtjejnlebpcjidaaGreatDoorQ05
set_option linter.unusedVariables false
set_option maxRecDepth 100000
set_option maxRecDepth 100000
namespace Go.Proofs.YtjejnlebpcjidaaGreatDoor.Dig
open Go.RowKit Go.Proofs.YtjejnlebpcjidaaGreatDoor.Dig.Plain
def slen:Value->Nat
 | .slice _ n _=>n
 | _=>0
def hiT (x:Int) (i:Nat):List Int:=(lo x 8).take i
theorem hiT_succ (x:Int) (i:Nat) (h:i<8):hiT x (i+1)=hiT x i++[byteAt x (7-i)]:=by
 rcases (by omega:i=0∨i=1∨i=2∨i=3∨i=4∨i=5∨i=6∨i=7) with rfl | rfl | rfl | rfl | rfl | rfl | rfl | rfl<;>rfl
theorem pad_is (M:List Int) (z:Nat) (hz:zs M.length=z):(M++128::List.replicate z 0)++hiT (M.length*8) 8=M++padT M:=by
 rw [padT,hz,tailK,hiT,List.take_of_length_le (by rw [z2o];omega)]
 simp
set_option maxRecDepth 20000 in
set_option maxHeartbeats 1000000 in
theorem rof_any (a:Option Addr) (len cap:Nat) (M:List Int) (w:World) (hb:Bytes w a len M) (hl:len<=900000):
  Calls Tryz.prog 78 #[.slice a len cap] w fun e w'=>e=.returned (.agg (u8s (sha M)))/\Below w.heap.size w w':=by
 have hML:=hb.1
 have hMb:=hb.2.1
 obtain ⟨S,HS⟩:∃S,Hid (w.heap.size=S):=⟨_,rfl⟩
 obtain ⟨z,HZ⟩:∃z,Hid (zs len=z):=⟨_,rfl⟩
 have hz:z=(119-len%64)%64:=by rw [<-HZ.out];rfl
 have HB0:Box (Bytes w a len M):=⟨hb⟩
 clear hb
 have HZ32:Hid (fil8 [] 32=#[.int .u8 0,.int .u8 0,.int .u8 0,.int .u8 0,.int .u8 0,.int .u8 0,.int .u8 0,.int .u8 0,.int .u8 0,.int .u8 0,.int .u8 0,.int .u8 0,.int .u8 0,.int .u8 0,.int .u8 0,.int .u8 0,.int .u8 0,.int .u8 0,.int .u8 0,.int .u8 0,.int .u8 0,.int .u8 0,.int .u8 0,.int .u8 0,.int .u8 0,.int .u8 0,.int .u8 0,.int .u8 0,.int .u8 0,.int .u8 0,.int .u8 0,.int .u8 0]):=rfl
 go_enter Tryz.func78,Tryz.ntmps78
 go_wp2_with (first
  | (at_builtin;refine q1m rfl (.tmp 10) (.tmp 11) rfl (w.heap.size+1) 0 len cap (.slice none 0 0) [] M a _ rfl rfl (World.ownsRow_nil _ _ _ _) (HB0.out.below ((Below.refl _ _).alloc (Nat.le_refl _) _)) (by omega) (Below.refl _ _) (by simp) ?_;intro v1 w1 H1)
  | (at_builtin;refine q6k rfl (.tmp 13) (.tmp 14) rfl (w.heap.size+1) (0+len) v1 ([]++M) 128 _ rfl rfl H1.out.1 (by omega) H1.out.2.1 H1.out.2.2 ?_;intro v2 w2 H2))
 rw [<-HZ32.out,HS.out] at H2
 have HW0:Box ((w.alloc (.cells (fil8 [] 32) 23)).heap[S]?=some (.cells (fil8 [] 32) 23 (0,0))/\Below S w (w.alloc (.cells (fil8 [] 32) 23))):=⟨q0g HS.out,by rw [<-HS.out];exact (Below.refl _ _).alloc (Nat.le_refl _) _⟩
 rw [HS.out]
 have H2':Box (w2.ownsRow (S+1) 5 1 v2 (len+1+0) ((M++128::List.replicate 0 0).map (Value.int .u8))/\Below (S+1) (w.alloc (.cells (fil8 [] 32) 23)) w2/\S+1<=w2.heap.size):=⟨by simpa using H2.out.1,H2.out.2⟩
 generalize w.alloc (.cells (fil8 [] 32) 23)=w0 at HW0 H2'
 clear H1 H2
 go_loopw [3] (fun v wr=>∃j:Nat,j<=z/\Box (wr.ownsRow (S+1) 5 1 v (len+1+j) ((M++128::List.replicate j 0).map (Value.int .u8))/\Below (S+1) w0 wr/\S+1<=wr.heap.size)) (fun v _=>len+1+z-slen v)
 case atStart=>exact ⟨0,Nat.zero_le _,H2'⟩
 case round=>
  clear H2'
  obtain ⟨j,hj,HB⟩:=hrel
  obtain ⟨av,cv,hv⟩:=q1z HB.out.1
  subst hv
  obtain ⟨n,HN⟩:∃n,Hid (len+1+j=n):=⟨_,rfl⟩
  have hn:len+1+j=n:=HN.out
  rw [HN.out]
  rw [HN.out] at HB
  by_cases hlt:j<z
  ·have hne:¬(n:Int)%64=56:=by omega
   have hnl:n<=1000000:=by omega
   go_wp2_with (at_builtin;refine q6k rfl (.tmp 20) (.tmp 21) rfl (S+1) n _ _ 0 w0 rfl rfl HB.out.1 (by omega) HB.out.2.1 HB.out.2.2 ?_;intro v3 w3 H3)
   go_roundw
   case rel=>
    refine ⟨j+1,by omega,⟨?_,H3.out.2⟩⟩
    have:=H3.out.1
    rw [<-hn] at this
    rw [List.replicate_succ',<-List.cons_append,<-List.append_assoc]
    exact this
   case measure=>
    obtain ⟨a3,c3,rfl⟩:=q1z H3.out.1
    simp only [slen]
    omega
  ·have hjz:j=z:=by omega
   subst hjz
   have heq:(n:Int)%64=56:=by omega
   have hnl:n<=1000000:=by omega
   have HPD:Box ((M++128::List.replicate j 0)++hiT (len*8) 8=M++padT M):=⟨by have:=pad_is M j (by rw [hML];exact HZ.out);rwa [hML] at this⟩
   have hYb:Byt (M++128::List.replicate j 0):=q1x _ _ hMb (q4h _ _ (by omega) (q2g _))
   obtain ⟨Y,HY⟩:∃Y,Box (M++128::List.replicate j 0=Y):=⟨_,⟨rfl⟩⟩
   rw [HY.out] at HB HPD hYb
   have hn64:(n+8)%64=0:=by omega
   have HNB:Hid (n+8=64*((n+8) / 64)):=by show _=_;omega
   have HSH:Box (dgl (blk (M++padT M) ((n+8) / 64)) 32=sha M):=⟨by
    rw [sha,hML,HZ.out,show len+j+9=n+8 by omega]⟩
   clear hz hj hlt hn hn64
   go_wp2
   clear heq
   go_loopw [3,5] (fun v i wr=>∃k:Nat,k<=8/\i=.int .i64 k/\Box (wr.ownsRow (S+1) 5 1 v (n+k) ((Y++hiT (len*8) k).map (Value.int .u8))/\Below (S+1) w0 wr/\S+1<=wr.heap.size)) (fun _ i _=>8-(intOf i).toNat)
   case atStart=>exact ⟨0,by omega,rfl,⟨by simpa [hiT] using HB.out.1,HB.out.2⟩⟩
   case round=>
    clear HB
    obtain ⟨k,hk,rfl,HB⟩:=hrel
    obtain ⟨av,cv,hv⟩:=q1z HB.out.1
    subst hv
    by_cases hlt:k<8
    ·obtain ⟨q,HQ⟩:∃q,Hid (8*(7-k)=q):=⟨_,rfl⟩
     have e1:56-8*(k:Int)=(q:Int):=by have:=HQ.out;omega
     have lq:q<=56:=by have:=HQ.out;omega
     have HBy:Box (hiT (len*8) (k+1)=hiT (len*8) k++[(len:Int)*8 / 2 ^ q%256]):=⟨by rw [hiT_succ _ k hlt,byteAt,HQ.out]⟩
     go_wp2_with (at_builtin;refine q6k rfl (.tmp 31) (.tmp 39) rfl (S+1) (n+k) _ _ _ w0 rfl rfl HB.out.1 (by omega) HB.out.2.1 HB.out.2.2 ?_;intro v3 w3 H3)
     go_roundw
     case rel=>
      refine ⟨k+1,by omega,by go_num,⟨?_,H3.out.2⟩⟩
      have:=H3.out.1
      rw [HBy.out,<-List.append_assoc]
      exact this
     case measure=>simp [intOf];omega
    ·have hk8:k=8:=by omega
     subst hk8
     obtain ⟨b1,b2,b3⟩:=HB.out
     rw [HPD.out] at b1
     have hPb:Byt (M++padT M):=q1x _ _ hMb (byt_padT M)
     have hBy:=q2p b1 hPb
     obtain ⟨P,HP⟩:∃P,Box (M++padT M=P):=⟨_,⟨rfl⟩⟩
     rw [HP.out] at hBy HSH
     obtain ⟨G,HG⟩:∃G,Hid (wr.heap.size=G):=⟨_,rfl⟩
     have HWR:Box (Bytes wr av (n+8) P/\Below S w wr/\wr.heap[S]?=some (.cells (fil8 [] 32) 23 (0,0))):=⟨hBy,HW0.out.2.trans (b2.mono (Nat.le_succ S)),(b2.block S (Nat.lt_succ_self S)).trans HW0.out.1⟩
     have hSG:S+1<=G:=by rw [<-HG.out];exact b3
     clear HB b1 b2 b3 hPb hBy HPD hYb HW0 HB0 hk hlt HP HY HZ
     go_wp2_with (refine q5e hh rfl rfl (.tmp 6) (.tmp 41) rfl wr.heap.size _ rfl rfl (q0g rfl) rfl wr.heap.size wr ((Below.refl _ _).alloc (Nat.le_refl _) _) (Nat.le_refl _) ?_;intro x1 HX1)
     obtain ⟨w4,H4⟩:∃w4,Box (wr=w4):=⟨_,⟨rfl⟩⟩
     have HX1':Box (x1.heap[G]?=some (.cells (u32s (blk P 0)) 179 (0,0))/\Below G w4 x1):=⟨by rw [<-HG.out];exact HX1.out.1,by rw [<-HG.out,<-H4.out];exact HX1.out.2.1⟩
     rw [HG.out]
     rw [H4.out] at HWR HG
     clear HX1
     go_loopw [7] (fun i x=>∃p k:Nat,Hid (p=64*k/\k<=(n+8) / 64)/\i=.int .i64 p/\Box (x.heap[G]?=some (.cells (u32s (blk P k)) 179 (0,0))/\Below G w4 x)) (fun i _=>n+8-(intOf i).toNat)
     case atStart=>exact ⟨0,0,⟨rfl,Nat.zero_le _⟩,rfl,HX1'⟩
     case round=>
      clear HX1'
      obtain ⟨p,k,HT,rfl,HB⟩:=hrel
      by_cases hlt:p<n+8
      ·have hsz:(u32s (blk P k)).size=8:=by rw [q1q,q2z]
       have hp:p+64<=n+8:=by have:=HNB.out;have:=HT.out;omega
       have hks:k+1<=(n+8) / 64:=by have:=HNB.out;have:=HT.out;omega
       have HBL:Box (Calls Tryz.prog 99 #[.agg (u32s (blk P k)),.slice av (n+8) cv,.int .i64 p] wr fun e w'=>e=.returned (.agg (u32s (blk P (k+1))))/\Below wr.heap.size wr w'):=⟨by
        have h1:=HT.out.1
        rw [blk,<-h1]
        exact q8o (blk P k) P av (n+8) cv p wr (q2z P k) (wrd_blk P k) (HWR.out.1.below (by rw [HG.out];exact HB.out.2)) hp (by omega)⟩
       have hsz2:(u32s (blk P (k+1))).size=8:=by rw [q1q,q2z]
       obtain ⟨X,HX⟩:∃X,Box (blk P k=X):=⟨_,⟨rfl⟩⟩
       obtain ⟨X2,HX2⟩:∃X,Box (blk P (k+1)=X):=⟨_,⟨rfl⟩⟩
       rw [HX.out] at HBL HB hsz
       rw [HX2.out] at HBL hsz2
       have hGl:G<wr.heap.size:=(gE HB.out.1)
       have HGL:Hid _:=hGl
       clear hGl
       go_wp2_with (first
        | (refine wpList_load_row rfl 179 (.tmp 6) rfl G rfl 179 (u32s X) (0,0) _ HB.out.1 Tryz.underlying179 rfl (by rw [hsz];kernel_rfl) ?_)
        | (go_at_call 99;refine Calls.mono HBL.out ?_;rintro e w6 ⟨rfl,hb6⟩;have H6:Box (w6.heap[G]?=some (.cells (u32s X) 179 (0,0))/\Below G w4 w6):=⟨(hb6.block G HGL.out).trans HB.out.1,HB.out.2.trans (hb6.mono (Nat.le_of_lt HGL.out))⟩;clear hb6)
        | (refine q5e X2 hsz2 rfl (.tmp 6) (.tmp 51) rfl G _ rfl rfl H6.out.1 hsz G w4 H6.out.2 (Nat.le_refl _) ?_;intro x7 H7))
       go_roundw
       case rel=>exact ⟨p+64,k+1,⟨by have:=HT.out.1;omega,hks⟩,by go_num,⟨by rw [HX2.out];exact H7.out.1,H7.out.2.1⟩⟩
       case measure=>simp [intOf];omega
      ·have hkn:k=(n+8) / 64:=by have:=HNB.out;have:=HT.out;omega
       obtain ⟨ws,HWS⟩:∃X,Box (blk P k=X):=⟨_,⟨rfl⟩⟩
       rw [HWS.out] at HB
       have HDG:Box (dgl ws 32=sha M):=⟨by rw [<-HWS.out,hkn];exact HSH.out⟩
       have h8:ws.length=8:=by rw [<-HWS.out];exact q2z _ _
       have hwrd:Wrd ws:=by rw [<-HWS.out];exact wrd_blk _ _
       obtain ⟨O,HO⟩:∃O,Hid (wr.heap.size=O):=⟨_,rfl⟩
       have hGO:G<O:=by rw [<-HO.out];exact (gE HB.out.1)
       clear HSH HWS hkn HNB
       go_wp2
       rw [HO.out,<-HZ32.out]
       have HX:Box ((wr.alloc (.cells (fil8 [] 32) 23)).heap[G]?=some (.cells (u32s ws) 179 (0,0))/\(wr.alloc (.cells (fil8 [] 32) 23)).heap[O]?=some (.cells (fil8 (dgl ws 0) 32) 23 (0,0))/\Below G w4 (wr.alloc (.cells (fil8 [] 32) 23))):=⟨q0i HB.out.1,q0g HO.out,HB.out.2.alloc (by rw [HO.out];omega) _⟩
       generalize wr.alloc (.cells (fil8 [] 32) 23)=x8 at HX ⊢
       clear HB HT hlt
       go_loopw [9] (fun i x=>∃k:Nat,k<=32/\i=.int .i64 k/\Box (x.heap[G]?=some (.cells (u32s ws) 179 (0,0))/\x.heap[O]?=some (.cells (fil8 (dgl ws k) 32) 23 (0,0))/\Below G w4 x)) (fun i _=>32-(intOf i).toNat)
       case atStart=>exact ⟨0,by omega,rfl,HX⟩
       case round=>
        clear HX
        obtain ⟨k,hk,rfl,HWr⟩:=hrel
        by_cases hlt:k<32
        ·obtain ⟨q,HQ⟩:∃q,Hid (k / 4=q):=⟨_,rfl⟩
         obtain ⟨r,HR⟩:∃r,Hid (k%4=r):=⟨_,rfl⟩
         obtain ⟨m,HM⟩:∃m,Hid (24-8*r=m):=⟨_,rfl⟩
         have hq:k / 4=q:=HQ.out
         have hr:k%4=r:=HR.out
         have eq1:(k:Int) / 4=(q:Int):=by omega
         have eq2:(k:Int)%4=(r:Int):=by omega
         have eq3:24-8*(r:Int)=(m:Int):=by have:=HM.out;omega
         have lq:q<8:=by omega
         have lr:r<4:=by omega
         have lm:m<=24:=by have:=HM.out;omega
         have c1:=q0x wr G q ws _ _ HWr.out.1 (by omega)
         obtain ⟨b1,b2⟩:=hwrd q
         have HD:Hid (dgb ws k=ws.getD q 0 / 2 ^ m%256):=by rw [Hid,dgb,hq,hr,HM.out]
         generalize ws.getD q 0=y at c1 b1 b2 HD
         have hln:=q4m ws k
         have f1:wr.frozen? ⟨O,k,none⟩=false:=frozen_of_row wr _ _ _ 23 HWr.out.2.1
         obtain ⟨v,hcw⟩:∃v,wr.cell? ⟨O,k,none⟩=some v:=by
          obtain ⟨v,hv⟩:=q3t (dgl ws k) 32 k hlt (by omega)
          exact ⟨v,by rw [cell_of_row _ _ _ _ _ _ HWr.out.2.1];exact hv⟩
         have HW3:Box ((wr.setCell ⟨O,k,none⟩ (.int .u8 (dgb ws k))).heap[G]?=some (.cells (u32s ws) 179 (0,0))/\(wr.setCell ⟨O,k,none⟩ (.int .u8 (dgb ws k))).heap[O]?=some (.cells (fil8 (dgl ws (k+1)) 32) 23 (0,0))/\Below G w4 (wr.setCell ⟨O,k,none⟩ (.int .u8 (dgb ws k)))):=by
          have hoth:∀k',k'≠O->(wr.setCell ⟨O,k,none⟩ (.int .u8 (dgb ws k))).heap[k']?=wr.heap[k']?:=fun k' hk=>heap_setCell_other wr ⟨O,k,none⟩ k' _ (fun e=>hk e)
          obtain ⟨a1,a2,a3⟩:=HWr.out
          refine ⟨(hoth _ (by omega)).trans a1,?_,⟨a3.os,a3.tape,a3.output,by simpa using a3.size,fun k hk=>(hoth k (by omega)).trans (a3.block k hk)⟩⟩
          rw [heap_setCell_same wr _ k _ 23 _ a2,dgl,<-q5x _ _ _ (by omega),hln]
         clear hq hr hln HQ HR HM
         go_wp2
         go_roundw
         case rel=>exact ⟨k+1,by omega,by go_num,by rw [<-HD.out];exact HW3⟩
         case measure=>simp [intOf];omega
        ·have hk32:k=32:=by omega
         subst hk32
         obtain ⟨a1,a2,a3⟩:=HWr.out
         obtain ⟨X,HX⟩:∃X,Box (sha M=X):=⟨_,⟨rfl⟩⟩
         rw [q3v _ 32 (q4m ws 32),HDG.out,HX.out] at a2
         have hXl:(u8s X).size=32:=by rw [<-HX.out,q0h,q6c]
         have hS5:wr.heap[S]?=some (.cells (fil8 [] 32) 23 (0,0)):=(a3.block S (by omega)).trans HWR.out.2.2
         have HF:Box ((u8s X).size=32/\(u8s X).all (·.oneCell')=true/\wr.heap[O]?=some (.cells (u8s X) 23 (0,0))/\wr.heap[S]?=some (.cells (fil8 [] 32) 23 (0,0))/\Below S w wr):=⟨hXl,q1r X,a2,hS5,HWR.out.2.1.trans (a3.mono (by omega))⟩
         clear a1 a2 a3 hXl HDG HWr hS5 HWR
         go_wp2_with (first | (refine wpList_load_row rfl 23 _ rfl O rfl 23 (u8s X) (0,0) _ HF.out.2.2.1 Tryz.underlying23 rfl (by rw [HF.out.1];kernel_rfl) ?_) | (refine wpList_store_row rfl 23 _ _ rfl S (u8s X) rfl rfl 23 (fil8 [] 32) HF.out.2.2.2.1 (by rw [HF.out.1];kernel_rfl) (by rw [HF.out.1];rfl) HF.out.2.1 ?_))
         (try simp only [Exit.inBlock,Exit.then])
         refine bodyPost_ret (results_cell_row (p:=2) (ty:=23) rfl _ _ S 23 (u8s X) (0,0) _ rfl (setRow_heap _ _ _ _ _ _ HF.out.2.2.2.1) Tryz.underlying23 rfl (by rw [HF.out.1];kernel_rfl)) rfl ?_
         exact ⟨by rw [HX.out],by rw [HS.out];exact below_setRow HF.out.2.2.2.2 (Nat.le_refl _) _⟩
end Go.Proofs.YtjejnlebpcjidaaGreatDoor.Dig
