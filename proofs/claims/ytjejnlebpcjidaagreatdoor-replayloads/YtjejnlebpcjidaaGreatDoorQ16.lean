/-
 What the reference's Block answers, for every key, counter and nonce. And what follows it.
-/
import Derived.Lib.SlBytesConst
import Derived.Test.YtjejnlebpcjidaaGreatDoorQ14
set_option linter.unusedVariables false
set_option maxRecDepth 100000
set_option maxRecDepth 100000
namespace Go.Proofs.YtjejnlebpcjidaaGreatDoor.Seal
open Go.RowKit Go.Proofs.YtjejnlebpcjidaaGreatDoor.Plain Go.Proofs.YtjejnlebpcjidaaGreatDoor.Seal.Plain
def ex16:List Int:=[101,120,112,97,110,100,32,51,50,45,98,121,116,101,32,107]
theorem byt_ex16:Byt ex16:=by
 intro i
 by_cases h:i<16
 ·have key:∀j:Fin 16,0<=ex16.getD j.val 0/\ex16.getD j.val 0<=255:=by decide +kernel
  exact key ⟨i,h⟩
 ·rw [q7r _ _ (by show 16<=i;omega)];omega
theorem four_is:wds ex16 4=four:=by decide +kernel
theorem qa_low (j:Nat) (h:j<4):qa j 0=j/\qa j 1=4+j/\qa j 2=8+j/\qa j 3=12+j:=by
 have key:∀j:Fin 4,qa j.val 0=j.val/\qa j.val 1=4+j.val/\qa j.val 2=8+j.val/\qa j.val 3=12+j.val:=by decide +kernel
 exact key ⟨j,h⟩
theorem qa_high (j:Nat) (h:j<4):qa (4+j) 0=j/\qa (4+j) 1=4+(j+1)%4/\qa (4+j) 2=8+(j+2)%4/\qa (4+j) 3=12+(j+3)%4:=by
 have key:∀j:Fin 4,qa (4+j.val) 0=j.val/\qa (4+j.val) 1=4+(j.val+1)%4/\qa (4+j.val) 2=8+(j.val+2)%4/\qa (4+j.val) 3=12+(j.val+3)%4:=by decide +kernel
 exact key ⟨j,h⟩
theorem at_k (a:Option Addr) (len cap:Nat) (B:List Int) (p:Nat) (pi:Int) (w:World) (hb:Bytes w a len B) (hl:len<=1000) (hi:p+4<=len) (h:pi=p):
  Calls Tryz.prog 117 #[.slice a len cap,.int .i64 pi] w fun e w'=>e=.returned (.int .u32 (num B p 4))/\w=w':=by
 subst h;exact at_any a len cap B p w hb hl hi
theorem z2r (L:List Int) (a b c d:Nat) (ai bi ci di:Int) (w:World) (hL:L.length=16) (hw:Wrd L) (ha:a<16) (hb:b<16) (hc:c<16) (hd:d<16) (h1:ai=a) (h2:bi=b) (h3:ci=c) (h4:di=d) (L':List Int) (hL':qr L a b c d=L'):
  Calls Tryz.prog 118 #[.agg (u32s L),.int .i64 ai,.int .i64 bi,.int .i64 ci,.int .i64 di] w fun e w'=>e=.returned (.agg (u32s L'))/\Below w.heap.size w w':=by
 subst h1;subst h2;subst h3;subst h4;subst hL';exact z4a L a b c d w hL hw ha hb hc hd
structure Rb (w wr:World) (S T R G E:Nat) (K N X:List Int):Prop where
 key:wr.heap[S]?=some (.cells (u8s K) 23 (0,0))
 non:wr.heap[T]?=some (.cells (u8s N) 157 (0,0))
 res:wr.heap[R]?=some (.cells (fil8 [] 64) 180 (0,0))
 wds:wr.heap[G]?=some (.cells (fil X 16) 214 (0,0))
 exp:wr.heap[E]?=some (.cells (u8s ex16) 5 (16,17))
 bel:Below S w wr
theorem Rb.step {w wr:World} {S T R G E:Nat} {K N X:List Int} (h:Rb w wr S T R G E K N X) (n1:S≠G) (n2:T≠G) (n3:R≠G) (n4:E≠G) (n5:S<=G) (i:Nat) (hi:X.length=i) (hX:i<16) (v:Int):Rb w (wr.setCell ⟨G,i,none⟩ (.int .u32 v)) S T R G E K N (X++[v]):=by
 subst hi
 exact ⟨by rw [heap_setCell_other wr ⟨G,X.length,none⟩ S _ n1];exact h.key,by rw [heap_setCell_other wr ⟨G,X.length,none⟩ T _ n2];exact h.non,by rw [heap_setCell_other wr ⟨G,X.length,none⟩ R _ n3];exact h.res,
  by rw [heap_setCell_same wr G X.length _ 214 _ h.wds,z0h X 16 v hX],by rw [heap_setCell_other wr ⟨G,X.length,none⟩ E _ n4];exact h.exp,q2i h.bel n5 _⟩
theorem Rb.cell {w wr:World} {S T R G E:Nat} {K N X:List Int} (h:Rb w wr S T R G E K N X) (i:Nat) (hi:i<16) (hX:X.length<=16):∃v,wr.cell? ⟨G,i,none⟩=some v:=by
 obtain ⟨v,hv⟩:=q4t X 16 i hi hX
 exact ⟨v,by rw [cell_of_row _ _ _ _ _ _ h.wds];exact hv⟩
theorem Rb.frozen {w wr:World} {S T R G E:Nat} {K N X:List Int} (h:Rb w wr S T R G E K N X) (i:Nat):wr.frozen? ⟨G,i,none⟩=false:=frozen_of_row wr G i _ 214 h.wds
theorem rowB {w:World} {g n:Nat} {X:List Int} {t:TypeId} {fr:Nat × Nat} (h:w.heap[g]?=some (.cells (u8s X) t fr)) (hX:Byt X) (hl:X.length=n):Bytes w (some ⟨g,0,none⟩) n X:=by
 have:=q1c hX h
 rwa [hl] at this
structure Rv (w wr:World) (S R G V:Nat) (B L:List Int):Prop where
 res:wr.heap[R]?=some (.cells (fil8 [] 64) 180 (0,0))
 wds:wr.heap[G]?=some (.cells (u32s B) 214 (0,0))
 mix:wr.heap[V]?=some (.cells (u32s L) 214 (0,0))
 len:L.length=16
 wrd:Wrd L
 bel:Below S w wr
theorem Rv.on {w wr wx:World} {S R G V:Nat} {B L:List Int} (h:Rv w wr S R G V B L) (hS:S<=wr.heap.size) (hb:Below wr.heap.size wr wx):Rv w wx S R G V B L:=
 ⟨q2f h.res hb,q2f h.wds hb,q2f h.mix hb,h.len,h.wrd,h.bel.trans (hb.mono hS)⟩
theorem Rv.lay {w wr:World} {S R G V:Nat} {B L:List Int} (h:Rv w wr S R G V B L) (n1:R≠V) (n2:G≠V) (n3:S<=V) (L':List Int) (hl:L'.length=16) (hw:Wrd L'):Rv w (wr.setRow V (u32s L')) S R G V B L':=
 ⟨by rw [setRow_other _ _ _ _ n1];exact h.res,by rw [setRow_other _ _ _ _ n2];exact h.wds,setRow_heap _ _ _ _ _ _ h.mix,hl,hw,below_setRow h.bel n3 _⟩
structure Ro (w wr:World) (S R G V O:Nat) (B M X:List Int):Prop where
 res:wr.heap[R]?=some (.cells (fil8 [] 64) 180 (0,0))
 wds:wr.heap[G]?=some (.cells (u32s B) 214 (0,0))
 mix:wr.heap[V]?=some (.cells (u32s M) 214 (0,0))
 out:wr.heap[O]?=some (.cells (fil8 X 64) 180 (0,0))
 bel:Below S w wr
theorem Ro.drewN {w wr:World} {S R G V O:Nat} {B M X:List Int} (h:Ro w wr S R G V O B M X) (n:Nat):Ro w (wr.drewN n) S R G V O B M X:=⟨h.res,h.wds,h.mix,h.out,h.bel.os,h.bel.tape,h.bel.output,h.bel.size,h.bel.block⟩
theorem Ro.put {w wr:World} {S R G V O:Nat} {B M X:List Int} (h:Ro w wr S R G V O B M X) (n1:R≠O) (n2:G≠O) (n3:V≠O) (n4:S<=O) (i:Nat) (hi:X.length=i) (hX:i<64) (v:Int):Ro w (wr.setCell ⟨O,i,none⟩ (.int .u8 v)) S R G V O B M (X++[v]):=by
 subst hi
 exact ⟨by rw [heap_setCell_other wr ⟨O,X.length,none⟩ R _ n1];exact h.res,by rw [heap_setCell_other wr ⟨O,X.length,none⟩ G _ n2];exact h.wds,by rw [heap_setCell_other wr ⟨O,X.length,none⟩ V _ n3];exact h.mix,
  by rw [heap_setCell_same wr O X.length _ 180 _ h.out,q5x X 64 v hX],q2i h.bel n4 _⟩
set_option maxRecDepth 20000 in
set_option maxHeartbeats 4000000 in
theorem z7l (K N:List Int) (c:Int) (w:World) (hK:Byt K) (hKl:K.length=32) (hN:Byt N) (hNl:N.length=12) (hc:W32 c):
  Calls Tryz.prog 98 #[.agg (u8s K),.int .u32 c,.agg (u8s N)] w fun e w'=>e=.returned (.agg (u8s (blk K c N)))/\Below w.heap.size w w':=by
 obtain ⟨S,hS⟩:=nm w.heap.size
 have HS:Hid (w.heap.size=S):=hS
 have A4:=q9r hS (.cells (u8s K) 23) (.cells (u8s N) 157) (.cells (fil8 [] 64) 180) (.cells (fil [] 16) 214)
 have H0':Box (((((w.alloc (.cells (u8s K) 23)).alloc (.cells (u8s N) 157)).alloc (.cells (fil8 [] 64) 180)).alloc (.cells (fil [] 16) 214)).heap[S]?=some (.cells (u8s K) 23 (0,0))/\((((w.alloc (.cells (u8s K) 23)).alloc (.cells (u8s N) 157)).alloc (.cells (fil8 [] 64) 180)).alloc (.cells (fil [] 16) 214)).heap[S+1]?=some (.cells (u8s N) 157 (0,0))/\((((w.alloc (.cells (u8s K) 23)).alloc (.cells (u8s N) 157)).alloc (.cells (fil8 [] 64) 180)).alloc (.cells (fil [] 16) 214)).heap[S+1+1]?=some (.cells (fil8 [] 64) 180 (0,0))/\((((w.alloc (.cells (u8s K) 23)).alloc (.cells (u8s N) 157)).alloc (.cells (fil8 [] 64) 180)).alloc (.cells (fil [] 16) 214)).heap[S+1+1+1]?=some (.cells (fil [] 16) 214 (0,0))/\Below S w ((((w.alloc (.cells (u8s K) 23)).alloc (.cells (u8s N) 157)).alloc (.cells (fil8 [] 64) 180)).alloc (.cells (fil [] 16) 214))):=⟨A4⟩
 have z16:fil [] 16=#[.int .u32 0,.int .u32 0,.int .u32 0,.int .u32 0,.int .u32 0,.int .u32 0,.int .u32 0,.int .u32 0,.int .u32 0,.int .u32 0,.int .u32 0,.int .u32 0,.int .u32 0,.int .u32 0,.int .u32 0,.int .u32 0]:=rfl
 have z64:=z64e
 rw [z16,z64] at H0'
 have kc:=fun (w:World) (C:Array Value) (n c:Nat)=>Lib.run_convert_bytes_const (P:=Tryz.prog) w 57 5 C n c Tryz.underlying57 Tryz.underlying5
 have HW:Box (Wrd (beg K c N)):=⟨wrd_beg K c N hK hc hN⟩
 clear hS z16 z64 A4
 go_enter Tryz.func98,Tryz.ntmps98
 go_upto_region 2 with fail
 rw [HS.out]
 generalize (((w.alloc (.cells (u8s K) 23)).alloc _).alloc _).alloc _=x0 at H0' ⊢
 obtain ⟨T,HT⟩:∃T,Box (S+1=T):=⟨_,⟨rfl⟩⟩
 rw [HT.out] at H0' ⊢
 obtain ⟨R,HR⟩:∃R,Box (T+1=R):=⟨_,⟨rfl⟩⟩
 rw [HR.out] at H0' ⊢
 obtain ⟨G,HG⟩:∃G,Box (R+1=G):=⟨_,⟨rfl⟩⟩
 rw [HG.out] at H0' ⊢
 have hGx:=(gE H0'.out.2.2.2.1)
 have H0:Box (Rb w (x0.alloc (.cells (u8s ex16) 5 (16,17))) S T R G x0.heap.size K N (wds ex16 0)):=⟨q0i H0'.out.1,q0i H0'.out.2.1,q0i H0'.out.2.2.1,q0i H0'.out.2.2.2.1,q0g rfl,H0'.out.2.2.2.2.alloc (by have:=HT.out;have:=HR.out;have:=HG.out;omega) _⟩
 have zex:u8s ex16=#[.int .u8 101,.int .u8 120,.int .u8 112,.int .u8 97,.int .u8 110,.int .u8 100,.int .u8 32,.int .u8 51,.int .u8 50,.int .u8 45,.int .u8 98,.int .u8 121,.int .u8 116,.int .u8 101,.int .u8 32,.int .u8 107]:=rfl
 rw [zex] at H0
 clear zex
 go_wp2
 have hST:S≠G/\T≠G/\R≠G/\x0.heap.size≠G/\S<=G/\S<=R:=by have:=HT.out;have:=HR.out;have:=HG.out;omega
 generalize x0.alloc (.cells _ 5 (16,17))=x1 at H0 ⊢
 generalize x0.heap.size=E at H0 hST ⊢
 obtain ⟨n1,n2,n3,n4,n5,n6⟩:=hST
 clear HT HR HG H0' kc hGx
 go_loopw [9] (fun i wr=>∃k:Nat,k<=4/\i=.int .i64 k/\Box (Rb w wr S T R G E K N (wds ex16 k))) (fun i _=>4-(intOf i).toNat)
 case atStart=>exact ⟨0,by omega,rfl,H0⟩
 case round=>
  clear H0
  obtain ⟨k,hk,rfl,HB⟩:=hrel
  by_cases hlt9:k<4
  ·have hX:(wds ex16 k).length=k:=by rw [q1y]
   obtain ⟨v,hcw⟩:=HB.out.cell (k) (by omega) (by rw [hX];omega)
   have f1:=HB.out.frozen (k)
   have HN:=HB.out.step n1 n2 n3 n4 n5 (k) hX (by omega) (num ex16 (4*k) 4)
   rw [show wds ex16 k++[num ex16 (4*k) 4]=wds ex16 (k+1) from rfl] at HN
   have HM:Box (Rb w (wr.setCell ⟨G,k,none⟩ (.int .u32 (num ex16 (4*k) 4))) S T R G E K N (wds ex16 (k+1))):=⟨HN⟩
   clear HN hX
   have HC:Box (Calls Tryz.prog 117 #[.slice (some ⟨E,0,none⟩) 16 16,.int .i64 (4*(k:Int))] wr fun e w'=>e=.returned (.int .u32 (num ex16 (4*k) 4))/\wr=w'):=⟨at_k _ 16 16 ex16 (4*k) _ wr (rowB HB.out.exp byt_ex16 rfl) (by omega) (by omega) (by simp)⟩
   generalize num ex16 (4*k) 4=x at HC HM
   go_wp2_with (go_at_call 117;refine HC.out.mono ?_;rintro e w' ⟨rfl,rfl⟩)
   go_roundw
   case rel=>exact ⟨k+1,by omega,by go_num,HM⟩
   case measure=>simp [intOf];omega
  ·have HK9:Box (k=4):=⟨by omega⟩
   rw [HK9.out] at HB
   have H1:Box (Rb w wr S T R G E K N (four++wds K 0)):=⟨by rw [show wds K 0=[] from rfl,List.append_nil,<-four_is];exact HB.out⟩
   have h4:four.length=4:=rfl
   clear HB
   go_wp2
   rename_i _ ax _ _ _
   clear ax
   go_loopw [10] (fun i wr=>∃k:Nat,k<=8/\i=.int .i64 k/\Box (Rb w wr S T R G E K N (four++wds K k))) (fun i _=>8-(intOf i).toNat)
   case atStart=>exact ⟨0,by omega,rfl,H1⟩
   case round=>
    clear H1
    obtain ⟨k,hk,rfl,HB⟩:=hrel
    by_cases hlt10:k<8
    ·have hX:(four++wds K k).length=4+k:=by rw [List.length_append,q1y,h4]
     obtain ⟨v,hcw⟩:=HB.out.cell (4+k) (by omega) (by rw [hX];omega)
     have f1:=HB.out.frozen (4+k)
     have HN:=HB.out.step n1 n2 n3 n4 n5 (4+k) hX (by omega) (num K (4*k) 4)
     rw [List.append_assoc,show wds K k++[num K (4*k) 4]=wds K (k+1) from rfl] at HN
     have HM:Box (Rb w (wr.setCell ⟨G,4+k,none⟩ (.int .u32 (num K (4*k) 4))) S T R G E K N (four++wds K (k+1))):=⟨HN⟩
     clear HN hX
     have HC:Box (Calls Tryz.prog 117 #[.slice (some ⟨S,0,none⟩) 32 32,.int .i64 (4*(k:Int))] wr fun e w'=>e=.returned (.int .u32 (num K (4*k) 4))/\wr=w'):=⟨at_k _ 32 32 K (4*k) _ wr (rowB HB.out.key hK hKl) (by omega) (by omega) (by simp)⟩
     generalize num K (4*k) 4=x at HC HM
     go_wp2_with (go_at_call 117;refine HC.out.mono ?_;rintro e w' ⟨rfl,rfl⟩)
     go_roundw
     case rel=>exact ⟨k+1,by omega,by go_num,HM⟩
     case measure=>simp [intOf];omega
    ·have HK10:Box (k=8):=⟨by omega⟩
     rw [HK10.out] at HB
     obtain ⟨Y,HY⟩:=named (four++wds K 8)
     have hYl:Y.length=12:=by rw [<-HY.out];simp [q1y,h4]
     rw [HY.out] at HB
     obtain ⟨v,hcw⟩:=HB.out.cell 12 (by omega) (by omega)
     have f1:=HB.out.frozen 12
     have HN:=HB.out.step n1 n2 n3 n4 n5 12 hYl (by omega) c
     obtain ⟨Z,HZ⟩:=named (Y++[c])
     have hZl:Z.length=13:=by rw [<-HZ.out];simp [hYl]
     have HEb:Box (Z++wds N 3=beg K c N):=⟨by rw [<-HZ.out,<-HY.out];rfl⟩
     rw [HZ.out] at HN
     have H2:Box (Rb w (wr.setCell ⟨G,12,none⟩ (.int .u32 c)) S T R G E K N (Z++wds N 0)):=⟨by rw [show wds N 0=[] from rfl,List.append_nil];exact HN⟩
     clear HN HB HZ HY hYl
     go_wp2
     rename_i _ ax _ _ _
     clear ax
     generalize wr.setCell ⟨G,12,none⟩ (.int .u32 c)=x1 at H2 ⊢
     clear hcw f1
     go_loopw [11] (fun i wr=>∃k:Nat,k<=3/\i=.int .i64 k/\Box (Rb w wr S T R G E K N (Z++wds N k))) (fun i _=>3-(intOf i).toNat)
     case atStart=>exact ⟨0,by omega,rfl,H2⟩
     case round=>
      clear H2
      obtain ⟨k,hk,rfl,HB⟩:=hrel
      by_cases hlt11:k<3
      ·have hX:(Z++wds N k).length=13+k:=by rw [List.length_append,q1y,hZl]
       obtain ⟨v,hcw⟩:=HB.out.cell (13+k) (by omega) (by rw [hX];omega)
       have f1:=HB.out.frozen (13+k)
       have HN:=HB.out.step n1 n2 n3 n4 n5 (13+k) hX (by omega) (num N (4*k) 4)
       rw [List.append_assoc,show wds N k++[num N (4*k) 4]=wds N (k+1) from rfl] at HN
       have HM:Box (Rb w (wr.setCell ⟨G,13+k,none⟩ (.int .u32 (num N (4*k) 4))) S T R G E K N (Z++wds N (k+1))):=⟨HN⟩
       clear HN hX
       have HC:Box (Calls Tryz.prog 117 #[.slice (some ⟨T,0,none⟩) 12 12,.int .i64 (4*(k:Int))] wr fun e w'=>e=.returned (.int .u32 (num N (4*k) 4))/\wr=w'):=⟨at_k _ 12 12 N (4*k) _ wr (rowB HB.out.non hN hNl) (by omega) (by omega) (by simp)⟩
       generalize num N (4*k) 4=x at HC HM
       go_wp2_with (go_at_call 117;refine HC.out.mono ?_;rintro e w' ⟨rfl,rfl⟩)
       go_roundw
       case rel=>exact ⟨k+1,by omega,by go_num,HM⟩
       case measure=>simp [intOf];omega
      ·have HK11:Box (k=3):=⟨by omega⟩
       rw [HK11.out] at HB
       rw [HEb.out] at HB
       have hBw:=HW.out
       have HBe:Box (∀X,beg K c N=X->blk K c N=cb (rn X 10) X 16):=⟨fun X hX=>by subst hX;rfl⟩
       have hBl:(beg K c N).length=16:=q7l K c N
       obtain ⟨B,EB⟩:=named (beg K c N)
       rw [EB.out] at HB hBw hBl
       have HF:=HBe.out B EB.out
       have HFb:Box (blk K c N=cb (rn B 10) B 16):=⟨HF⟩
       have HW1:=HB.out.wds
       rw [q6p B 16 hBl] at HW1
       have HB1:Box (wr.heap[R]?=some (.cells (fil8 [] 64) 180 (0,0))/\wr.heap[G]?=some (.cells (u32s B) 214 (0,0))/\Below S w wr/\S<=wr.heap.size/\R<wr.heap.size/\G<wr.heap.size):=⟨HB.out.res,HW1,HB.out.bel,by have:=(gE HB.out.key);omega,(gE HB.out.res),(gE HW1)⟩
       clear HF HBe EB HW1 HB HW HEb
       go_wp2_with (first
        | (refine q5j wr B hBl ?old ?hold rfl (.tmp 12) (.tmp 55) rfl rfl rfl ?hv ?_;(case hv=>rfl);(case hold=>rfl);intro z hz hb;have H3:Box (Rv w z S R G wr.heap.size B (rn B 0)):=⟨q2f HB1.out.1 hb,q2f HB1.out.2.1 hb,hz,hBl,hBw,HB1.out.2.2.1.trans (hb.mono HB1.out.2.2.2.1)⟩;clear hz hb)
        | (refine q3w G B hBl HB1.out.2.1 rfl (.tmp 7) rfl rfl ?_))
       rename_i _ ax _ _ _
       clear ax
       obtain ⟨V,HV⟩:∃V,Box (wr.heap.size=V):=⟨_,⟨rfl⟩⟩
       rw [HV.out] at H3 ⊢
       have hV:R≠V/\G≠V/\S<=V:=by have h1:=HB1.out.2.2.2;rw [HV.out] at h1;omega
       obtain ⟨v1,v2,v3⟩:=hV
       clear HB1 HV
       go_loopw [13] (fun i wr=>∃k:Nat,k<=10/\i=.int .i64 k/\Box (Rv w wr S R G V B (rn B k))) (fun i _=>10-(intOf i).toNat)
       case atStart=>exact ⟨0,by omega,rfl,H3⟩
       case round=>
        clear H3
        obtain ⟨k,hk,rfl,HV0⟩:=hrel
        by_cases hlt13:k<10
        ·obtain ⟨L0,E0⟩:=named (rn B k)
         rw [E0.out] at HV0
         go_wp2
         rw [show decide ((k:Int)<10)=true from by simp;omega]
         go_loopw [14] (fun i wr=>∃j:Nat,j<=4/\i=.int .i64 j/\Box (Rv w wr S R G V B (row L0 j))) (fun i _=>4-(intOf i).toNat)
         case atStart=>exact ⟨0,by omega,rfl,HV0⟩
         case round=>
          clear HV0
          obtain ⟨j,hj,rfl,HR0⟩:=hrel
          by_cases hlt14:j<4
          ·have hq:=qa_low j hlt14
           have HP:Box (qr (row L0 j) j (4+j) (8+j) (12+j)=row L0 (j+1)):=⟨by show _=qr (row L0 j) (qa j 0) (qa j 1) (qa j 2) (qa j 3);rw [hq.1,hq.2.1,hq.2.2.1,hq.2.2.2]⟩
           clear hq
           obtain ⟨M,EM⟩:=named (row L0 j)
           rw [EM.out] at HP HR0
           obtain ⟨M',EM'⟩:=named (row L0 (j+1))
           rw [EM'.out] at HP
           have hM'l:M'.length=16:=by rw [<-HP.out,q8z,HR0.out.len]
           have hM'w:Wrd M':=by rw [<-HP.out];exact wrd_qr _ _ _ _ _ HR0.out.wrd
           have hMs:(u32s M').size=16:=by rw [q1q,hM'l]
           go_wp2_with (first
            | (refine wpList_store_row rfl 214 (.tmp 12) (.tmp 72) rfl V (u32s M') rfl rfl 214 (u32s M) H5.out.mix (by rw [hMs];kernel_rfl) (by rw [hMs,q1q];exact H5.out.len) (q2l M') ?_)
            | (go_at_call 118;refine (z2r M j (4+j) (8+j) (12+j) _ _ _ _ wr HR0.out.len HR0.out.wrd (by omega) (by omega) (by omega) (by omega) (by simp) (by simp) (by simp) (by simp) M' HP.out).mono ?_;rintro e w5 ⟨rfl,hb5⟩;have H5:Box (Rv w w5 S R G V B M):=⟨HR0.out.on (by have:=(gE HR0.out.mix);omega) hb5⟩;clear hb5)
            | (refine q3w V M HR0.out.len HR0.out.mix rfl (.tmp 12) rfl rfl ?_))
           have H6:Box (Rv w (w5.setRow V (u32s M')) S R G V B (row L0 (j+1))):=⟨by rw [EM'.out];exact H5.out.lay v1 v2 v3 M' hM'l hM'w⟩
           go_roundw
           case rel=>exact ⟨j+1,by omega,by go_num,H6⟩
           case measure=>simp [intOf];omega
          ·have HJ14:Box (j=4):=⟨by omega⟩
           rw [HJ14.out] at HR0
           go_wp2
           go_loopw [15] (fun i wr=>∃j:Nat,j<=4/\i=.int .i64 j/\Box (Rv w wr S R G V B (row L0 (4+j)))) (fun i _=>4-(intOf i).toNat)
           case atStart=>exact ⟨0,by omega,rfl,HR0⟩
           case round=>
            clear HR0
            obtain ⟨j,hj,rfl,HR0⟩:=hrel
            by_cases hlt15:j<4
            ·have hq:=qa_high j hlt15
             have HP:Box (qr (row L0 (4+j)) j (4+(j+1)%4) (8+(j+2)%4) (12+(j+3)%4)=row L0 ((4+j)+1)):=⟨by show _=qr (row L0 (4+j)) (qa (4+j) 0) (qa (4+j) 1) (qa (4+j) 2) (qa (4+j) 3);rw [hq.1,hq.2.1,hq.2.2.1,hq.2.2.2]⟩
             clear hq
             obtain ⟨r1,hr1⟩:=nm ((j+1)%4)
             have er1:((j:Int)+1)%4=(r1:Int):=by omega
             have rl1:r1<4:=by omega
             rw [hr1] at HP
             obtain ⟨r2,hr2⟩:=nm ((j+2)%4)
             have er2:((j:Int)+2)%4=(r2:Int):=by omega
             have rl2:r2<4:=by omega
             rw [hr2] at HP
             obtain ⟨r3,hr3⟩:=nm ((j+3)%4)
             have er3:((j:Int)+3)%4=(r3:Int):=by omega
             have rl3:r3<4:=by omega
             rw [hr3] at HP
             obtain ⟨M,EM⟩:=named (row L0 (4+j))
             rw [EM.out] at HP HR0
             obtain ⟨M',EM'⟩:=named (row L0 ((4+j)+1))
             rw [EM'.out] at HP
             have hM'l:M'.length=16:=by rw [<-HP.out,q8z,HR0.out.len]
             have hM'w:Wrd M':=by rw [<-HP.out];exact wrd_qr _ _ _ _ _ HR0.out.wrd
             have hMs:(u32s M').size=16:=by rw [q1q,hM'l]
             go_wp2_with (first
              | (refine wpList_store_row rfl 214 (.tmp 12) (.tmp 91) rfl V (u32s M') rfl rfl 214 (u32s M) H5.out.mix (by rw [hMs];kernel_rfl) (by rw [hMs,q1q];exact H5.out.len) (q2l M') ?_)
              | (go_at_call 118;refine (z2r M j (4+r1) (8+r2) (12+r3) _ _ _ _ wr HR0.out.len HR0.out.wrd (by omega) (by omega) (by omega) (by omega) (by simp) (by simp) (by simp) (by simp) M' HP.out).mono ?_;rintro e w5 ⟨rfl,hb5⟩;have H5:Box (Rv w w5 S R G V B M):=⟨HR0.out.on (by have:=(gE HR0.out.mix);omega) hb5⟩;clear hb5)
              | (refine q3w V M HR0.out.len HR0.out.mix rfl (.tmp 12) rfl rfl ?_))
             have H6:Box (Rv w (w5.setRow V (u32s M')) S R G V B (row L0 ((4+j)+1))):=⟨by rw [EM'.out];exact H5.out.lay v1 v2 v3 M' hM'l hM'w⟩
             go_roundw
             case rel=>exact ⟨j+1,by omega,by go_num,H6⟩
             case measure=>simp [intOf];omega
            ·have HJ15:Box (j=4):=⟨by omega⟩
             rw [HJ15.out] at HR0
             have H7:Box (Rv w wr S R G V B (rn B (k+1))):=⟨by rw [rn,E0.out];exact HR0.out⟩
             clear HR0
             go_wp2
             go_roundw
             case rel=>exact ⟨k+1,by omega,by go_num,H7⟩
             case measure=>simp [intOf];omega
        ·have HKt:Box (k=10):=⟨by omega⟩
         rw [HKt.out] at HV0
         obtain ⟨M,EM⟩:=named (rn B 10)
         rw [EM.out] at HV0 HFb
         have hMl:=HV0.out.len
         have hMw:=HV0.out.wrd
         have O0:Box (Ro w (wr.alloc (.cells (fil8 [] 64) 180)) S R G V wr.heap.size B M ((cb M B 16).take 0)):=⟨q0i HV0.out.res,q0i HV0.out.wds,q0i HV0.out.mix,q0g rfl,HV0.out.bel.alloc (by have:=(gE HV0.out.mix);omega) _⟩
         have hO:R<wr.heap.size/\G<wr.heap.size/\V<wr.heap.size:=⟨(gE HV0.out.res),(gE HV0.out.wds),(gE HV0.out.mix)⟩
         have z64:=z64e
         rw [z64] at O0
         clear z64 HV0
         go_wp2
         rename_i _ ax _ _ _
         clear ax
         generalize wr.alloc (.cells _ 180)=x4 at O0 ⊢
         generalize wr.heap.size=O at O0 hO ⊢
         obtain ⟨o1,o2,o3⟩:=hO
         go_loopw [17] (fun i wr=>∃k:Nat,k<=64/\i=.int .i64 k/\Box (Ro w wr S R G V O B M ((cb M B 16).take k))) (fun i _=>64-(intOf i).toNat)
         case atStart=>exact ⟨0,by omega,rfl,O0⟩
         case round=>
          clear O0
          obtain ⟨i,hi,rfl,HO⟩:=hrel
          by_cases hlt17:i<64
          ·have hcb:(cb M B 16).take (i+1)=(cb M B 16).take i++[byteAt (ow M B (i / 4)) (i%4)]:=by
            have hl:i<(cb M B 16).length:=by rw [q3s];omega
            rw [List.take_succ_eq_append_getElem hl,<-cb_at M B 16 i (by omega)]
            simp [List.getD,hl]
           have hlen:((cb M B 16).take i).length=i:=by rw [List.length_take,q3s];omega
           have e4:(i:Int) / 4=((i / 4:Nat):Int):=by omega
           have er:(i:Int)%4=((i%4:Nat):Int):=by omega
           have hq:i / 4<16:=by omega
           have hr:i%4<4:=by omega
           have hcb':(cb M B 16).take (i+1)=(cb M B 16).take i++[ow M B (i / 4) / 2 ^ (8*(i%4))%256]:=hcb
           generalize i / 4=q at hcb' e4 hq
           generalize i%4=r at hcb' er hr
           clear hcb
           have cV:=q0x wr V q M _ _ HO.out.mix (by omega)
           have cG:=q0x wr G q B _ _ HO.out.wds (by omega)
           have hm:=hMw q
           have hb:=hBw q
           have HX:Box ((M.getD q 0+B.getD q 0)%4294967296=ow M B q):=⟨rfl⟩
           generalize M.getD q 0=mq at cV hm HX
           generalize B.getD q 0=bq at cG hb HX
           obtain ⟨m0,m1⟩:=hm
           obtain ⟨b0,b1⟩:=hb
           have HKP:Box (((cb M B 16).take (i+1)=(cb M B 16).take i++[ow M B q / 2 ^ (8*r)%256])/\((cb M B 16).take i).length=i/\(i:Int)%4=(r:Int)/\r<4/\M.length=16/\R<O/\G<O/\V<O/\S<=V):=⟨hcb',hlen,er,hr,hMl,o1,o2,o3,v3⟩
           clear hcb' hlen er hr hMl o1 o2 o3 v1 v2 v3 n1 n2 n3 n4 n5 n6 hMw hBw hBl h4 hZl hKl hNl hK hN hc HS HFb EM HK9 HK10 HK11 HKt hlt9 hlt10 hlt11 hlt13
           go_wp2
           go_quiet (fail)
           obtain ⟨hcb',hlen,er,hr,hMl,o1,o2,o3,v3⟩:=HKP.out
           have HD:Box (Ro w (wr.drewN nq) S R G V O B M ((cb M B 16).take i)):=⟨HO.out.drewN nq⟩
           clear cV cG HO
           generalize wr.drewN nq=y1 at HD ⊢
           clear nq
           have hx:=W32.ow M B q
           rw [<-HX.out] at hx hcb'
           clear HX
           generalize (mq+bq)%4294967296=x at hx hcb' ⊢
           obtain ⟨x0',x1'⟩:=hx
           obtain ⟨v,cv⟩:∃v,y1.cell? ⟨O,i,none⟩=some v:=by
            obtain ⟨v,hv⟩:=q3t ((cb M B 16).take i) 64 i hlt17 (by omega)
            exact ⟨v,by rw [cell_of_row _ _ _ _ _ _ HD.out.out];exact hv⟩
           have fv:y1.frozen? ⟨O,i,none⟩=false:=frozen_of_row y1 O i _ 180 HD.out.out
           have HN:Box (Ro w (y1.setCell ⟨O,i,none⟩ (.int .u8 (x / 2 ^ (8*r)%256))) S R G V O B M ((cb M B 16).take (i+1))):=⟨by rw [hcb'];exact HD.out.put (by omega) (by omega) (by omega) (by omega) i hlen hlt17 _⟩
           have s1:IntKind.u64.wrap (8*(r:Int))=8*(r:Int):=by rw [IntKind.wrap_u64];omega
           clear HD hcb' hlen e4 hq m0 m1 b0 b1 hMl HKP o1 o2 o3 v3
           go_wp2
           go_roundw
           case rel=>exact ⟨i+1,by omega,by go_num,HN⟩
           case measure=>simp [intOf];omega
          ·obtain rfl:i=64:=by omega
           rw [List.take_of_length_le (by rw [q3s];omega),<-HFb.out] at HO
           obtain ⟨X,HX⟩:=named (blk K c N)
           have hXl:X.length=64:=by rw [<-HX.out];exact q2z K c N
           rw [HX.out] at HO
           have hsz:(u8s X).size=64:=by rw [q0h,hXl]
           have hall:=q1r X
           have HWo:=HO.out.out
           rw [q3v X 64 hXl] at HWo
           have HF:Box (wr.heap[O]?=some (.cells (u8s X) 180 (0,0))/\wr.heap[R]?=some (.cells (fil8 [] 64) 180 (0,0))/\Below S w wr):=⟨HWo,HO.out.res,HO.out.bel⟩
           clear HWo HO
           go_wp2_with (first | (refine wpList_load_row rfl 180 _ rfl O rfl 180 (u8s X) (0,0) _ HF.out.1 Tryz.underlying180 rfl (by rw [hsz];kernel_rfl) ?_) | (refine wpList_store_row rfl 180 _ _ rfl R (u8s X) rfl rfl 180 (fil8 [] 64) HF.out.2.1 (by rw [hsz];kernel_rfl) (by rw [hsz];rfl) hall ?_))
           (try simp only [Exit.inBlock,Exit.then])
           refine bodyPost_ret (results_cell_row (p:=6) (ty:=180) rfl _ _ R 180 (u8s X) (0,0) _ rfl (setRow_heap _ _ _ _ _ _ HF.out.2.1) Tryz.underlying180 rfl (by rw [hsz];kernel_rfl)) rfl ?_
           exact ⟨by rw [HX.out],by rw [HS.out];exact below_setRow HF.out.2.2 n6 _⟩
end Go.Proofs.YtjejnlebpcjidaaGreatDoor.Seal
namespace Go.Proofs.YtjejnlebpcjidaaGreatDoor.Seal
open Go.RowKit Go.Proofs.YtjejnlebpcjidaaGreatDoor.Plain Go.Proofs.YtjejnlebpcjidaaGreatDoor.Seal.Plain
theorem rput_k (x' x n:Int) (N:Nat) (w:World) (hx:0<=x/\x<=18446744073709551615) (hN:n=(N:Int)) (h8:N<=8) (h1:1<=N) (he:x'=x):
  Calls Tryz.prog 75 #[.int .u64 x',.int .i64 n] w fun e w'=>∃b off cap',e=.returned (.slice (some ⟨b,off,none⟩) N cap')/\Bytes w' (some ⟨b,off,none⟩) N (bytesOf x N)/\Below w.heap.size w w'/\w.heap.size<=b:=by
 subst he
 refine (q7b x' n N w hx (by omega) (by omega)).mono ?_
 rintro e w' ⟨a',cap',he,ho⟩
 have hB:=ho.bytes (q1e _ _)
 obtain ⟨b,off,rfl,_⟩:=hB.2.2 (by omega)
 exact ⟨b,off,cap',he,hB,ho.2.2,q2c ho.2.1 b rfl⟩
structure Nr (w wr:World) (S:Nat) (X:List Int):Prop where
 res:wr.heap[S]?=some (.cells (fil8 [] 12) 157 (0,0))
 out:wr.heap[S+1]?=some (.cells (fil8 X 12) 157 (0,0))
 bel:Below S w wr
theorem Nr.on {w wr wx:World} {S:Nat} {X:List Int} (h:Nr w wr S X) (hb:Below wr.heap.size wr wx):Nr w wx S X:=by
 have l1:=(gE h.res)
 exact ⟨q2f h.res hb,q2f h.out hb,h.bel.trans (hb.mono (by omega))⟩
theorem Nr.put {w wr:World} {S:Nat} {X:List Int} (h:Nr w wr S X) (i:Nat) (hi:X.length=i) (hX:i<12) (v:Int):Nr w (wr.setCell ⟨S+1,i,none⟩ (.int .u8 v)) S (X++[v]):=by
 subst hi
 exact ⟨by rw [heap_setCell_other wr ⟨S+1,X.length,none⟩ S _ (fun e=>by simp at e)];exact h.res,by rw [heap_setCell_same wr (S+1) X.length _ 157 _ h.out,q5x X 12 v hX],q2i h.bel (by omega) _⟩
theorem q9b {wr:World} {b off n G i:Nat} {L:List Int} {v:Value} (h:Bytes wr (some ⟨b,off,none⟩) n L) (hn:0<n) (hne:b≠G):Bytes (wr.setCell ⟨G,i,none⟩ v) (some ⟨b,off,none⟩) n L:=by
 refine ⟨h.1,h.2.1,fun _=>?_⟩
 obtain ⟨b',off',he,hlt,hc⟩:=h.2.2 hn
 simp only [Option.some.injEq,Addr.mk.injEq,and_true] at he
 obtain ⟨rfl,rfl⟩:=he
 refine ⟨b,off,rfl,by simpa using hlt,fun j hj=>?_⟩
 rw [<-hc j hj]
 simp only [World.cell?,heap_setCell_other wr ⟨G,i,none⟩ b v hne]
theorem q9s {wr:World} {b off n:Nat} {L:List Int} (h:Bytes wr (some ⟨b,off,none⟩) n L) (i:Nat) (hi:i<n):wr.cell? ⟨b,off+i,none⟩=some (.int .u8 (L.getD i 0)):=by
 obtain ⟨b',off',he,hlt,hc⟩:=h.2.2 (by omega)
 simp only [Option.some.injEq,Addr.mk.injEq,and_true] at he
 obtain ⟨rfl,rfl⟩:=he
 exact hc i hi
set_option maxRecDepth 20000 in
set_option maxHeartbeats 1000000 in
theorem z0b (p v:Int) (w:World) (hp:W32 p) (hv:0<=v/\v<=18446744073709551615):
  Calls Tryz.prog 77 #[.int .u32 p,.int .u64 v] w fun e w'=>e=.returned (.agg (u8s (non p v)))/\Below w.heap.size w w':=by
 obtain ⟨hp0,hp1⟩:=hp
 obtain ⟨S,hS⟩:=nm w.heap.size
 have HS:Hid (w.heap.size=S):=hS
 have I0:Box (Nr w ((w.alloc (.cells (fil8 [] 12) 157)).alloc (.cells (fil8 [] 12) 157)) S (bytesOf p 0)):=⟨q0i (q0g hS),q0g (by simp [hS]),by rw [<-hS];exact ((Below.refl _ _).alloc (Nat.le_refl _) _).alloc (by simp) _⟩
 have z12:fil8 [] 12=#[.int .u8 0,.int .u8 0,.int .u8 0,.int .u8 0,.int .u8 0,.int .u8 0,.int .u8 0,.int .u8 0,.int .u8 0,.int .u8 0,.int .u8 0,.int .u8 0]:=rfl
 rw [z12] at I0
 have C1:Box (∀x,Calls Tryz.prog 75 #[.int .u64 p,.int .i64 4] x fun e w'=>∃b off cap',e=.returned (.slice (some ⟨b,off,none⟩) 4 cap')/\Bytes w' (some ⟨b,off,none⟩) 4 (bytesOf p 4)/\Below x.heap.size x w'/\x.heap.size<=b):=⟨fun x=>rput_k p p 4 4 x ⟨by omega,by omega⟩ rfl (by omega) (by omega) rfl⟩
 have C2:Box (∀x,Calls Tryz.prog 75 #[.int .u64 v,.int .i64 8] x fun e w'=>∃b off cap',e=.returned (.slice (some ⟨b,off,none⟩) 8 cap')/\Bytes w' (some ⟨b,off,none⟩) 8 (bytesOf v 8)/\Below x.heap.size x w'/\x.heap.size<=b):=⟨fun x=>rput_k v v 8 8 x hv rfl (by omega) (by omega) rfl⟩
 have s1:IntKind.u64.wrap p=p:=by rw [IntKind.wrap_u64];omega
 clear hS z12 hv
 go_enter Tryz.func77,Tryz.ntmps77
 go_upto_region 2 with fail
 rw [HS.out]
 generalize (w.alloc (.cells _ 157)).alloc _=x0 at I0 ⊢
 go_wp2_with (first
  | (go_at_call 75;refine (C2.out w1).mono ?_;rintro e w2 ⟨b2,off2,c2,rfl,hB2,hb2,hl2⟩;have hn2:b2≠S+1:=(by have:=(gE H1.out.1.out);omega);have H2:Box (Nr w w2 S (bytesOf p 0)/\Bytes w2 (some ⟨b1,off1,none⟩) 4 (bytesOf p 4)/\Bytes w2 (some ⟨b2,off2,none⟩) 8 (bytesOf v 8)):=⟨H1.out.1.on hb2,H1.out.2.below hb2,hB2⟩;clear hB2 hb2 hl2)
  | (go_at_call 75;refine (C1.out x0).mono ?_;rintro e w1 ⟨b1,off1,c1,rfl,hB1,hb1,hl1⟩;have hn1:b1≠S+1:=(by have:=(gE I0.out.out);omega);have H1:Box (Nr w w1 S (bytesOf p 0)/\Bytes w1 (some ⟨b1,off1,none⟩) 4 (bytesOf p 4)):=⟨I0.out.on hb1,hB1⟩;clear hB1 hb1 hl1))
 clear I0 H1 C1 C2 s1
 go_loopw [8] (fun i wr=>∃k:Nat,k<=4/\i=.int .i64 k/\Box (Nr w wr S (bytesOf p k)/\Bytes wr (some ⟨b1,off1,none⟩) 4 (bytesOf p 4)/\Bytes wr (some ⟨b2,off2,none⟩) 8 (bytesOf v 8))) (fun i _=>4-(intOf i).toNat)
 case atStart=>exact ⟨0,by omega,rfl,H2⟩
 case round=>
  clear H2
  obtain ⟨k,hk,rfl,HB⟩:=hrel
  by_cases hlt:k<4
  ·have cb:=q9s HB.out.2.1 k hlt
   rw [q2m p 4 k hlt] at cb
   have hy:=q5a p k
   obtain ⟨u,cu⟩:∃u,wr.cell? ⟨S+1,k,none⟩=some u:=by
    obtain ⟨u,hu⟩:=q3t (bytesOf p k) 12 k (by omega) (by rw [q0f];omega)
    exact ⟨u,by rw [cell_of_row _ _ _ _ _ _ HB.out.1.out];exact hu⟩
   have fv:wr.frozen? ⟨S+1,k,none⟩=false:=frozen_of_row wr _ _ _ 157 HB.out.1.out
   have HN:Box (Nr w (wr.setCell ⟨S+1,k,none⟩ (.int .u8 (byteAt p k))) S (bytesOf p (k+1))/\Bytes (wr.setCell ⟨S+1,k,none⟩ (.int .u8 (byteAt p k))) (some ⟨b1,off1,none⟩) 4 (bytesOf p 4)/\Bytes (wr.setCell ⟨S+1,k,none⟩ (.int .u8 (byteAt p k))) (some ⟨b2,off2,none⟩) 8 (bytesOf v 8)):=⟨HB.out.1.put k (q0f p k) (by omega) _,q9b HB.out.2.1 (by omega) hn1,q9b HB.out.2.2 (by omega) hn2⟩
   generalize byteAt p k=y at cb hy HN
   obtain ⟨y0,y1⟩:=hy
   clear HB
   go_wp2
   go_roundw
   case rel=>exact ⟨k+1,by omega,by go_num,HN⟩
   case measure=>simp [intOf];omega
  ·have HK:Box (k=4):=⟨by omega⟩
   rw [HK.out] at HB
   have H3:Box (Nr w wr S (bytesOf p 4++bytesOf v 0)/\Bytes wr (some ⟨b2,off2,none⟩) 8 (bytesOf v 8)):=⟨by rw [show bytesOf v 0=[] from rfl,List.append_nil];exact HB.out.1,HB.out.2.2⟩
   clear HB
   go_wp2
   go_loopw [9] (fun i wr=>∃k:Nat,k<=8/\i=.int .i64 k/\Box (Nr w wr S (bytesOf p 4++bytesOf v k)/\Bytes wr (some ⟨b2,off2,none⟩) 8 (bytesOf v 8))) (fun i _=>8-(intOf i).toNat)
   case atStart=>exact ⟨0,by omega,rfl,H3⟩
   case round=>
    clear H3
    obtain ⟨k,hk,rfl,HB⟩:=hrel
    by_cases hlt9:k<8
    ·have cb:=q9s HB.out.2 k hlt9
     rw [q2m v 8 k hlt9] at cb
     have hy:=q5a v k
     have hX:(bytesOf p 4++bytesOf v k).length=4+k:=by rw [List.length_append,q0f,q0f]
     obtain ⟨u,cu⟩:∃u,wr.cell? ⟨S+1,4+k,none⟩=some u:=by
      obtain ⟨u,hu⟩:=q3t (bytesOf p 4++bytesOf v k) 12 (4+k) (by omega) (by omega)
      exact ⟨u,by rw [cell_of_row _ _ _ _ _ _ HB.out.1.out];exact hu⟩
     have fv:wr.frozen? ⟨S+1,4+k,none⟩=false:=frozen_of_row wr _ _ _ 157 HB.out.1.out
     have HN:Box (Nr w (wr.setCell ⟨S+1,4+k,none⟩ (.int .u8 (byteAt v k))) S (bytesOf p 4++bytesOf v (k+1))/\Bytes (wr.setCell ⟨S+1,4+k,none⟩ (.int .u8 (byteAt v k))) (some ⟨b2,off2,none⟩) 8 (bytesOf v 8)):=⟨by
      have:=HB.out.1.put (4+k) hX (by omega) (byteAt v k)
      rw [List.append_assoc] at this
      exact this,q9b HB.out.2 (by omega) hn2⟩
     generalize byteAt v k=y at cb hy HN
     obtain ⟨y0,y1⟩:=hy
     clear HB hX
     go_wp2
     go_roundw
     case rel=>exact ⟨k+1,by omega,by go_num,HN⟩
     case measure=>simp [intOf];omega
    ·have HK8:Box (k=8):=⟨by omega⟩
     rw [HK8.out] at HB
     obtain ⟨X,HX⟩:=named (non p v)
     have hXl:X.length=12:=by rw [<-HX.out];exact q4p p v
     have HI:=HB.out.1
     rw [show bytesOf p 4++bytesOf v 8=non p v from rfl,HX.out] at HI
     have hsz:(u8s X).size=12:=by rw [q0h,hXl]
     have hall:=q1r X
     have HW:=HI.out
     rw [q3v X 12 hXl] at HW
     have HF:Box (wr.heap[S+1]?=some (.cells (u8s X) 157 (0,0))/\wr.heap[S]?=some (.cells (fil8 [] 12) 157 (0,0))/\Below S w wr):=⟨HW,HI.res,HI.bel⟩
     clear HW HI HB
     go_wp2_with (first | (refine wpList_load_row rfl 157 _ rfl (S+1) rfl 157 (u8s X) (0,0) _ HF.out.1 Tryz.underlying157 rfl (by rw [hsz];kernel_rfl) ?_) | (refine wpList_store_row rfl 157 _ _ rfl S (u8s X) rfl rfl 157 (fil8 [] 12) HF.out.2.1 (by rw [hsz];kernel_rfl) (by rw [hsz];rfl) hall ?_))
     (try simp only [Exit.inBlock,Exit.then])
     refine bodyPost_ret (results_cell_row (p:=4) (ty:=157) rfl _ _ S 157 (u8s X) (0,0) _ rfl (setRow_heap _ _ _ _ _ _ HF.out.2.1) Tryz.underlying157 rfl (by rw [hsz];kernel_rfl)) rfl ?_
     exact ⟨by rw [HX.out],by rw [HS.out];exact below_setRow HF.out.2.2 (Nat.le_refl _) _⟩
end Go.Proofs.YtjejnlebpcjidaaGreatDoor.Seal
