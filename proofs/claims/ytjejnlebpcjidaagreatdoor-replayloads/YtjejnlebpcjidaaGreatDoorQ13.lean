/-
 ChaCha20 as plain reckoning on whole numbers, in the spelling of the walks; nothing of the program is said here. And what follows it.
-/
import Derived.Test.YtjejnlebpcjidaaGreatDoorQ00
import Derived.Test.YtjejnlebpcjidaaGreatDoorRows
import Derived.WalkKit
import Derived.WalkSpells
import Derived.WalkLawsBesides
import Derived.BigRegion
import Derived.Deep.RegionWith
import Derived.Deep.QuietTactic
import Derived.BigQuiet
import Derived.Deep.Cut
import Derived.Deep.CutRange
import Derived.Test.YtjejnlebpcjidaaGreatDoorQ01
set_option linter.unusedVariables false
set_option maxRecDepth 100000
set_option maxRecDepth 100000
namespace Go.Proofs.YtjejnlebpcjidaaGreatDoor.Seal.Plain
open Go.Proofs.YtjejnlebpcjidaaGreatDoor.Plain Go.RowKit
def rotl (x:Int) (k:Nat):Int:=bits .or .u32 (x*2 ^ k%4294967296) (x / 2 ^ (32-k))
theorem W32.rotl (x:Int) (k:Nat):W32 (rotl x k):=W32.bits _ _ _
theorem and31 (n:Nat) (h':n<=31):bits .and .u64 (n:Int) 31=(n:Int):=by
 have key:∀n:Fin 32,bits .and .u64 (n.val:Int) 31=(n.val:Int):=by decide +kernel
 exact key ⟨n,by omega⟩
def ad (L:List Int) (a b:Nat):List Int:=L.set a ((L.getD a 0+L.getD b 0)%4294967296)
def tn (L:List Int) (d a n:Nat):List Int:=L.set d (rotl (bits .xor .u32 (L.getD d 0) (L.getD a 0)) n)
theorem length_ad (L:List Int) (a b:Nat):(ad L a b).length=L.length:=by simp [ad]
theorem length_tn (L:List Int) (d a n:Nat):(tn L d a n).length=L.length:=by simp [tn]
theorem z6u (L:List Int) (a b:Nat) (h:Wrd L):Wrd (ad L a b):=q9a _ _ _ h (W32.wrap _)
theorem z5j (L:List Int) (d a n:Nat) (h:Wrd L):Wrd (tn L d a n):=q9a _ _ _ h (W32.rotl _ _)
def qr (L:List Int) (a b c d:Nat):List Int:=tn (ad (tn (ad (tn (ad (tn (ad L a b) d a 16) c d) b c 12) a b) d a 8) c d) b c 7
theorem q8z (L:List Int) (a b c d:Nat):(qr L a b c d).length=L.length:=by simp [qr,length_ad,length_tn]
theorem wrd_qr (L:List Int) (a b c d:Nat) (h:Wrd L):Wrd (qr L a b c d):=z5j _ _ _ _ (z6u _ _ _ (z5j _ _ _ _ (z6u _ _ _ (z5j _ _ _ _ (z6u _ _ _ (z5j _ _ _ _ (z6u _ _ _ h)))))))
def qt:List Int:=[0,4,8,12,1,5,9,13,2,6,10,14,3,7,11,15,0,5,10,15,1,6,11,12,2,7,8,13,3,4,9,14]
def qa (j i:Nat):Nat:=(qt.getD (4*j+i) 0).toNat
theorem qa_lt (j i:Nat) (hj:j<8) (hi:i<4):qa j i<16/\qt.getD (4*j+i) 0=(qa j i:Int):=by
 have key:∀k:Fin 32,(qt.getD k.val 0).toNat<16/\qt.getD k.val 0=((qt.getD k.val 0).toNat:Int):=by decide +kernel
 exact key ⟨4*j+i,by omega⟩
def row (L:List Int):Nat->List Int
 | 0=>L
 | j+1=>qr (row L j) (qa j 0) (qa j 1) (qa j 2) (qa j 3)
def rn (L:List Int):Nat->List Int
 | 0=>L
 | k+1=>row (rn L k) 8
theorem z7h (L:List Int) (j:Nat):(row L j).length=L.length:=by
 induction j with
 | zero=>rfl
 | succ j ih=>rw [row,q8z,ih]
theorem wrd_row (L:List Int) (j:Nat) (h:Wrd L):Wrd (row L j):=by
 induction j with
 | zero=>exact h
 | succ j ih=>exact wrd_qr _ _ _ _ _ ih
theorem length_rn (L:List Int) (k:Nat):(rn L k).length=L.length:=by
 induction k with
 | zero=>rfl
 | succ k ih=>rw [rn,z7h,ih]
theorem wrd_rn (L:List Int) (k:Nat) (h:Wrd L):Wrd (rn L k):=by
 induction k with
 | zero=>exact h
 | succ k ih=>exact wrd_row _ _ ih
def wds (B:List Int):Nat->List Int
 | 0=>[]
 | k+1=>wds B k++[num B (4*k) 4]
theorem q1y (B:List Int) (k:Nat):(wds B k).length=k:=by
 induction k with
 | zero=>rfl
 | succ k ih=>simp [wds,ih]
theorem W32.num (B:List Int) (p:Nat) (h:Byt B):W32 (num B p 4):=q8x B p h 4
theorem wrd_wds (B:List Int) (k:Nat) (h:Byt B):Wrd (wds B k):=by
 induction k with
 | zero=>exact z4x
 | succ k ih=>exact z0v _ _ ih (wrd_one _ (W32.num B _ h))
def four:List Int:=[1634760805,857760878,2036477234,1797285236]
def beg (K:List Int) (c:Int) (N:List Int):List Int:=four++wds K 8++[c]++wds N 3
theorem q7l (K:List Int) (c:Int) (N:List Int):(beg K c N).length=16:=by simp [beg,q1y,four]
theorem wrd_four:Wrd four:=by
 intro i
 by_cases h:i<4
 ·have key:∀j:Fin 4,0<=four.getD j.val 0/\four.getD j.val 0<4294967296:=by decide +kernel
  exact key ⟨i,h⟩
 ·rw [q7r _ _ (by show 4<=i;omega)];simp [W32]
theorem wrd_beg (K:List Int) (c:Int) (N:List Int) (hK:Byt K) (hc:W32 c) (hN:Byt N):Wrd (beg K c N):=
 z0v _ _ (z0v _ _ (z0v _ _ wrd_four (wrd_wds _ _ hK)) (wrd_one _ hc)) (wrd_wds _ _ hN)
def ow (X Y:List Int) (i:Nat):Int:=(X.getD i 0+Y.getD i 0)%4294967296
theorem W32.ow (X Y:List Int) (i:Nat):W32 (ow X Y i):=W32.wrap _
def cb (X Y:List Int):Nat->List Int
 | 0=>[]
 | i+1=>cb X Y i++bytesOf (ow X Y i) 4
theorem q3s (X Y:List Int) (i:Nat):(cb X Y i).length=4*i:=by
 induction i with
 | zero=>rfl
 | succ i ih=>simp [cb,ih,q0f];omega
theorem byt_cb (X Y:List Int) (i:Nat):Byt (cb X Y i):=by
 induction i with
 | zero=>exact q5i
 | succ i ih=>exact q1x _ _ ih (q1e _ _)
theorem cb_at (X Y:List Int) (n i:Nat) (h:i<4*n):(cb X Y n).getD i 0=byteAt (ow X Y (i / 4)) (i%4):=by
 induction n with
 | zero=>omega
 | succ n ih=>
  rw [cb,q2o,q3s]
  by_cases hi:i<4*n
  ·rw [if_pos hi,ih hi]
  ·rw [if_neg hi,q2m _ _ _ (by omega)]
   have e1:i / 4=n:=by omega
   have e2:i%4=i-4*n:=by omega
   rw [e1,e2]
def blk (K:List Int) (c:Int) (N:List Int):List Int:=cb (rn (beg K c N) 10) (beg K c N) 16
theorem q2z (K:List Int) (c:Int) (N:List Int):(blk K c N).length=64:=q3s _ _ _
theorem z1d (K:List Int) (c:Int) (N:List Int):Byt (blk K c N):=byt_cb _ _ _
def non (p v:Int):List Int:=bytesOf p 4++bytesOf v 8
theorem q4p (p v:Int):(non p v).length=12:=by simp [non,q0f]
theorem z4c (p v:Int):Byt (non p v):=q1x _ _ (q1e _ _) (q1e _ _)
def stm (K:List Int) (c:Int) (N:List Int) (i:Nat):Int:=(blk K ((c+(i / 64:Nat))%4294967296) N).getD (i%64) 0
def xr (x y:Int):Int:=bits .xor .u8 x y
theorem xr_bd (x b:Int):0<=xr x b/\xr x b<=255:=by
 unfold xr bits
 rw [IntKind.wrap_u8]
 omega
def cr (K:List Int) (c:Int) (N B:List Int):Nat->List Int
 | 0=>[]
 | i+1=>cr K c N B i++[xr (B.getD i 0) (stm K c N i)]
theorem q2q (K:List Int) (c:Int) (N B:List Int) (n:Nat):(cr K c N B n).length=n:=by
 induction n with
 | zero=>rfl
 | succ n ih=>simp [cr,ih]
theorem q8t (K:List Int) (c:Int) (N B:List Int) (n:Nat):Byt (cr K c N B n):=by
 induction n with
 | zero=>exact q5i
 | succ n ih=>exact q1x _ _ ih (q4h _ _ (xr_bd _ _) q5i)
theorem cr_at (K:List Int) (c:Int) (N B:List Int) (n i:Nat) (h:i<n):(cr K c N B n).getD i 0=xr (B.getD i 0) (stm K c N i):=by
 induction n with
 | zero=>omega
 | succ n ih=>
  rw [cr,q2o,q2q]
  by_cases hi:i<n
  ·rw [if_pos hi,ih hi]
  ·obtain rfl:i=n:=by omega
   simp
end Go.Proofs.YtjejnlebpcjidaaGreatDoor.Seal.Plain
namespace Go.Proofs.YtjejnlebpcjidaaGreatDoor.Seal.Plain
end Go.Proofs.YtjejnlebpcjidaaGreatDoor.Seal.Plain
namespace Go.Proofs.YtjejnlebpcjidaaGreatDoor.Seal
open Go.RowKit Go.Proofs.YtjejnlebpcjidaaGreatDoor.Plain Go.Proofs.YtjejnlebpcjidaaGreatDoor.Seal.Plain
theorem rot_any (x:Int) (n:Nat) (w:World) (h:W32 x) (hn:1<=n) (hn':n<=31):
  Calls Tryz.prog 135 #[.int .u32 x,.int .i64 n] w fun e w'=>e=.returned (.int .u32 (rotl x n))/\w=w':=by
 obtain ⟨h0,h1⟩:=h
 have hb:=and31 n hn'
 have HR:Hid (bits .or .u32 (x*2 ^ n%4294967296) (x / 2 ^ (32-n))=rotl x n):=by unfold rotl;rfl
 go_enter Tryz.func135,Tryz.ntmps135
 go_wp2
 go_ret
 exact ⟨by rw [<-HR.out];rfl,rfl⟩
theorem left_any (x:Int) (n:Nat) (w:World) (h:W32 x) (hn:1<=n) (hn':n<=31):
  Calls Tryz.prog 132 #[.int .u32 x,.int .u64 n] w fun e w'=>e=.returned (.int .u32 (rotl x n))/\w=w':=by
 obtain ⟨h0,h1⟩:=h
 have HR:Hid (bits .or .u32 (x*2 ^ n%4294967296) (x / 2 ^ (32-n))=rotl x n):=by unfold rotl;rfl
 go_enter Tryz.func132,Tryz.ntmps132
 go_wp2
 go_ret
 exact ⟨by rw [<-HR.out];rfl,rfl⟩
theorem z6m (x k:Int) (w:World) (h:W32 x) (hn:1<=k) (hn':k<=31):
  Calls Tryz.prog 132 #[.int .u32 x,.int .u64 k] w fun e w'=>e=.returned (.int .u32 (rotl x k.toNat))/\w=w':=by
 obtain ⟨n,rfl⟩:=Int.eq_ofNat_of_zero_le (by omega:0<=k)
 exact left_any x n w h (by omega) (by omega)
def Ws (w:World) (S:Nat) (L:List Int):Prop:=L.length=16/\Wrd L/\w.heap[S]?=some (.cells (u32s L) 214 (0,0))
theorem Ws.cell {w:World} {S:Nat} {L:List Int} (h:Ws w S L) (i:Nat) (hi:i<16):w.cell? ⟨S,i,none⟩=some (.int .u32 (L.getD i 0)):=q0x w S i L _ _ h.2.2 (by rw [h.1];exact hi)
theorem Ws.frozen {w:World} {S:Nat} {L:List Int} (h:Ws w S L) (i:Nat):w.frozen? ⟨S,i,none⟩=false:=frozen_of_row w S i _ 214 h.2.2
theorem Ws.set {w:World} {S:Nat} {L:List Int} (h:Ws w S L) (i:Nat) (v:Int) (hv:W32 v):Ws (w.setCell ⟨S,i,none⟩ (.int .u32 v)) S (L.set i v):=
 ⟨by simp [h.1],q9a _ _ _ h.2.1 hv,by rw [heap_setCell_same w S i _ 214 _ h.2.2,q8f]⟩
theorem Ws.drew {w:World} {S:Nat} {L:List Int} (h:Ws w S L):Ws w.drew S L:=h
theorem Ws.below {w w':World} {S:Nat} {L:List Int} (h:Ws w S L) (hb:Below w.heap.size w w'):Ws w' S L:=
 ⟨h.1,h.2.1,(hb.block _ (gE h.2.2)).trans h.2.2⟩
set_option maxHeartbeats 1000000 in
theorem turn_any (S d a n:Nat) (L:List Int) (w:World) (h:Ws w S L) (hd:d<16) (ha:a<16) (hn:1<=n) (hn':n<=31):
  Calls Tryz.prog 140 #[.int .i64 d,.int .i64 a,.int .i64 n,.pointer (some ⟨S,0,none⟩)] w fun e w'=>e=.returned (.tuple #[])/\Ws w' S (tn L d a n)/\But S w w':=by
 have c1:=h.cell d hd
 have c2:=h.cell a ha
 have f1:=h.frozen d
 have HN:Box (∀x y:Int,L.getD d 0=x->L.getD a 0=y->Ws (w.drew.setCell ⟨S,d,none⟩ (.int .u32 (rotl (bits .xor .u32 x y) n))) S (tn L d a n)/\But S w (w.drew.setCell ⟨S,d,none⟩ (.int .u32 (rotl (bits .xor .u32 x y) n)))):=
  ⟨fun x y hx hy=>by subst hx;subst hy;exact ⟨h.drew.set d _ (W32.rotl _ _),(But.refl S w).drew.setCell _ _⟩⟩
 obtain ⟨x,HX⟩:∃x,Box (L.getD d 0=x):=⟨_,⟨rfl⟩⟩
 obtain ⟨y,HY⟩:∃x,Box (L.getD a 0=x):=⟨_,⟨rfl⟩⟩
 rw [HX.out] at c1
 rw [HY.out] at c2
 have HF:=HN.out x y HX.out HY.out
 have hxy:W32 (bits .xor .u32 x y):=W32.bits _ _ _
 have HG:Box _:=⟨HF⟩
 clear HF HN h
 go_enter Tryz.func140,Tryz.ntmps140
 go_wp2
 go_region_with (go_at_call 135;refine (rot_any _ _ _ hxy hn hn').mono ?_;rintro e w' ⟨rfl,rfl⟩)
 all_goals (go_end0;exact ⟨rfl,HG.out⟩)
end Go.Proofs.YtjejnlebpcjidaaGreatDoor.Seal
namespace Go.Proofs.YtjejnlebpcjidaaGreatDoor.Seal.Plain
end Go.Proofs.YtjejnlebpcjidaaGreatDoor.Seal.Plain
namespace Go.Proofs.YtjejnlebpcjidaaGreatDoor.Seal
open Go.RowKit Go.Proofs.YtjejnlebpcjidaaGreatDoor.Plain Go.Proofs.YtjejnlebpcjidaaGreatDoor.Seal.Plain
def Qs (w wx:World) (S:Nat) (L:List Int):Prop:=Ws wx S L/\wx.heap[S+1]?=some (.cells (fil [] 16) 214 (0,0))/\Below S w wx
theorem Qs.step {w wx:World} {S:Nat} {L:List Int} (h:Qs w wx S L) (i:Nat) (v:Int) (hv:W32 v):Qs w (wx.drew.setCell ⟨S,i,none⟩ (.int .u32 v)) S (L.set i v):=
 ⟨h.1.drew.set i v hv,by rw [heap_setCell_other wx.drew ⟨S,i,none⟩ (S+1) _ (fun e=>by simp at e)];exact h.2.1,q2i (w':=wx.drew) ⟨h.2.2.os,h.2.2.tape,h.2.2.output,h.2.2.size,h.2.2.block⟩ (Nat.le_refl _) _⟩
set_option maxRecDepth 20000 in
set_option maxHeartbeats 4000000 in
theorem z4a (L:List Int) (a b c d:Nat) (w:World) (hL:L.length=16) (hw:Wrd L) (ha:a<16) (hb:b<16) (hc:c<16) (hd:d<16):
  Calls Tryz.prog 118 #[.agg (u32s L),.int .i64 a,.int .i64 b,.int .i64 c,.int .i64 d] w fun e w'=>e=.returned (.agg (u32s (qr L a b c d)))/\Below w.heap.size w w':=by
 obtain ⟨S,hS⟩:=nm w.heap.size
 have HS:Hid (w.heap.size=S):=hS
 have z16:(fil [] 16)=#[.int .u32 0,.int .u32 0,.int .u32 0,.int .u32 0,.int .u32 0,.int .u32 0,.int .u32 0,.int .u32 0,.int .u32 0,.int .u32 0,.int .u32 0,.int .u32 0,.int .u32 0,.int .u32 0,.int .u32 0,.int .u32 0]:=rfl
 have Q0:Box (Qs w ((w.alloc (.cells (u32s L) 214)).alloc (.cells (fil [] 16) 214)) S L):=⟨⟨hL,hw,q0i (q0g hS)⟩,q0g (by simp [hS]),by rw [<-hS];exact ((Below.refl _ _).alloc (Nat.le_refl _) _).alloc (by simp) _⟩
 rw [z16] at Q0
 clear hS z16 hw hL
 go_enter Tryz.func118,Tryz.ntmps118
 go_wp2
 rw [HS.out]
 generalize (w.alloc (.cells (u32s L) 214)).alloc _=x0 at Q0 ⊢
 go_cut [] from 11 (fun wx=>Box (Qs w wx S (ad L a b)))
 case first=>
  obtain ⟨x,HX⟩:∃x,Box (L.getD a 0=x):=⟨_,⟨rfl⟩⟩
  obtain ⟨y,HY⟩:∃x,Box (L.getD b 0=x):=⟨_,⟨rfl⟩⟩
  have c1:=Q0.out.1.cell a ha
  have c2:=Q0.out.1.cell b hb
  have f1:=Q0.out.1.frozen a
  have b1:=Q0.out.1.2.1 a
  have b2:=Q0.out.1.2.1 b
  rw [HX.out] at c1 b1
  rw [HY.out] at c2 b2
  obtain ⟨b3,b4⟩:=b1
  obtain ⟨b5,b6⟩:=b2
  have HN:Box (Qs w (x0.drew.setCell ⟨S,a,none⟩ (.int .u32 ((x+y)%4294967296))) S (ad L a b)):=⟨by have:=Q0.out.step a _ (W32.wrap (x+y));rw [ad,HX.out,HY.out];exact this⟩
  go_region
  all_goals (go_wp2_with fail;go_meet;exact HN)
 case rest=>
 obtain ⟨L1,E1⟩:=named (ad L a b)
 rw [E1.out] at hcut
 have Q1:=hcut
 clear hcut Q0
 rename World=>x1
 go_wp2_with fail
 go_cut [] from 20 (fun wx=>Box (Qs w wx S (tn L1 d a 16)))
 case first=>
  obtain ⟨x,HX⟩:∃x,Box (L1.getD d 0=x):=⟨_,⟨rfl⟩⟩
  obtain ⟨y,HY⟩:∃x,Box (L1.getD a 0=x):=⟨_,⟨rfl⟩⟩
  have c1:=Q1.out.1.cell d hd
  have c2:=Q1.out.1.cell a ha
  have f1:=Q1.out.1.frozen d
  have b1:=Q1.out.1.2.1 d
  have b2:=Q1.out.1.2.1 a
  rw [HX.out] at c1 b1
  rw [HY.out] at c2 b2
  obtain ⟨b3,b4⟩:=b1
  obtain ⟨b5,b6⟩:=b2
  have HN:Box (Qs w (x1.drew.setCell ⟨S,d,none⟩ (.int .u32 (rotl (bits .xor .u32 x y) 16))) S (tn L1 d a 16)):=⟨by have:=Q1.out.step d _ (W32.rotl (bits .xor .u32 x y) 16);rw [tn,HX.out,HY.out];exact this⟩
  have hxy:W32 (bits .xor .u32 x y):=W32.bits _ _ _
  go_region_with (go_at_call 132;refine (z6m _ _ _ hxy (by decide) (by decide)).mono ?_;rintro e w' ⟨rfl,rfl⟩)
  all_goals (go_wp2_with fail;go_meet;exact HN)
 case rest=>
 obtain ⟨L2,E2⟩:=named (tn L1 d a 16)
 rw [E2.out] at hcut
 have Q2:=hcut
 clear hcut Q1
 rename World=>x2
 go_wp2_with fail
 go_cut [] from 30 (fun wx=>Box (Qs w wx S (ad L2 c d)))
 case first=>
  obtain ⟨x,HX⟩:∃x,Box (L2.getD c 0=x):=⟨_,⟨rfl⟩⟩
  obtain ⟨y,HY⟩:∃x,Box (L2.getD d 0=x):=⟨_,⟨rfl⟩⟩
  have c1:=Q2.out.1.cell c hc
  have c2:=Q2.out.1.cell d hd
  have f1:=Q2.out.1.frozen c
  have b1:=Q2.out.1.2.1 c
  have b2:=Q2.out.1.2.1 d
  rw [HX.out] at c1 b1
  rw [HY.out] at c2 b2
  obtain ⟨b3,b4⟩:=b1
  obtain ⟨b5,b6⟩:=b2
  have HN:Box (Qs w (x2.drew.setCell ⟨S,c,none⟩ (.int .u32 ((x+y)%4294967296))) S (ad L2 c d)):=⟨by have:=Q2.out.step c _ (W32.wrap (x+y));rw [ad,HX.out,HY.out];exact this⟩
  go_region
  all_goals (go_wp2_with fail;go_meet;exact HN)
 case rest=>
 obtain ⟨L3,E3⟩:=named (ad L2 c d)
 rw [E3.out] at hcut
 have Q3:=hcut
 clear hcut Q2
 rename World=>x3
 go_wp2_with fail
 go_cut [] from 39 (fun wx=>Box (Qs w wx S (tn L3 b c 12)))
 case first=>
  obtain ⟨x,HX⟩:∃x,Box (L3.getD b 0=x):=⟨_,⟨rfl⟩⟩
  obtain ⟨y,HY⟩:∃x,Box (L3.getD c 0=x):=⟨_,⟨rfl⟩⟩
  have c1:=Q3.out.1.cell b hb
  have c2:=Q3.out.1.cell c hc
  have f1:=Q3.out.1.frozen b
  have b1:=Q3.out.1.2.1 b
  have b2:=Q3.out.1.2.1 c
  rw [HX.out] at c1 b1
  rw [HY.out] at c2 b2
  obtain ⟨b3,b4⟩:=b1
  obtain ⟨b5,b6⟩:=b2
  have HN:Box (Qs w (x3.drew.setCell ⟨S,b,none⟩ (.int .u32 (rotl (bits .xor .u32 x y) 12))) S (tn L3 b c 12)):=⟨by have:=Q3.out.step b _ (W32.rotl (bits .xor .u32 x y) 12);rw [tn,HX.out,HY.out];exact this⟩
  have hxy:W32 (bits .xor .u32 x y):=W32.bits _ _ _
  go_region_with (go_at_call 132;refine (z6m _ _ _ hxy (by decide) (by decide)).mono ?_;rintro e w' ⟨rfl,rfl⟩)
  all_goals (go_wp2_with fail;go_meet;exact HN)
 case rest=>
 obtain ⟨L4,E4⟩:=named (tn L3 b c 12)
 rw [E4.out] at hcut
 have Q4:=hcut
 clear hcut Q3
 rename World=>x4
 go_wp2_with fail
 go_cut [] from 49 (fun wx=>Box (Qs w wx S (ad L4 a b)))
 case first=>
  obtain ⟨x,HX⟩:∃x,Box (L4.getD a 0=x):=⟨_,⟨rfl⟩⟩
  obtain ⟨y,HY⟩:∃x,Box (L4.getD b 0=x):=⟨_,⟨rfl⟩⟩
  have c1:=Q4.out.1.cell a ha
  have c2:=Q4.out.1.cell b hb
  have f1:=Q4.out.1.frozen a
  have b1:=Q4.out.1.2.1 a
  have b2:=Q4.out.1.2.1 b
  rw [HX.out] at c1 b1
  rw [HY.out] at c2 b2
  obtain ⟨b3,b4⟩:=b1
  obtain ⟨b5,b6⟩:=b2
  have HN:Box (Qs w (x4.drew.setCell ⟨S,a,none⟩ (.int .u32 ((x+y)%4294967296))) S (ad L4 a b)):=⟨by have:=Q4.out.step a _ (W32.wrap (x+y));rw [ad,HX.out,HY.out];exact this⟩
  go_region
  all_goals (go_wp2_with fail;go_meet;exact HN)
 case rest=>
 obtain ⟨L5,E5⟩:=named (ad L4 a b)
 rw [E5.out] at hcut
 have Q5:=hcut
 clear hcut Q4
 rename World=>x5
 go_wp2_with fail
 go_cut [] from 58 (fun wx=>Box (Qs w wx S (tn L5 d a 8)))
 case first=>
  obtain ⟨x,HX⟩:∃x,Box (L5.getD d 0=x):=⟨_,⟨rfl⟩⟩
  obtain ⟨y,HY⟩:∃x,Box (L5.getD a 0=x):=⟨_,⟨rfl⟩⟩
  have c1:=Q5.out.1.cell d hd
  have c2:=Q5.out.1.cell a ha
  have f1:=Q5.out.1.frozen d
  have b1:=Q5.out.1.2.1 d
  have b2:=Q5.out.1.2.1 a
  rw [HX.out] at c1 b1
  rw [HY.out] at c2 b2
  obtain ⟨b3,b4⟩:=b1
  obtain ⟨b5,b6⟩:=b2
  have HN:Box (Qs w (x5.drew.setCell ⟨S,d,none⟩ (.int .u32 (rotl (bits .xor .u32 x y) 8))) S (tn L5 d a 8)):=⟨by have:=Q5.out.step d _ (W32.rotl (bits .xor .u32 x y) 8);rw [tn,HX.out,HY.out];exact this⟩
  have hxy:W32 (bits .xor .u32 x y):=W32.bits _ _ _
  go_region_with (go_at_call 132;refine (z6m _ _ _ hxy (by decide) (by decide)).mono ?_;rintro e w' ⟨rfl,rfl⟩)
  all_goals (go_wp2_with fail;go_meet;exact HN)
 case rest=>
 obtain ⟨L6,E6⟩:=named (tn L5 d a 8)
 rw [E6.out] at hcut
 have Q6:=hcut
 clear hcut Q5
 rename World=>x6
 go_wp2_with fail
 go_cut [] from 68 (fun wx=>Box (Qs w wx S (ad L6 c d)))
 case first=>
  obtain ⟨x,HX⟩:∃x,Box (L6.getD c 0=x):=⟨_,⟨rfl⟩⟩
  obtain ⟨y,HY⟩:∃x,Box (L6.getD d 0=x):=⟨_,⟨rfl⟩⟩
  have c1:=Q6.out.1.cell c hc
  have c2:=Q6.out.1.cell d hd
  have f1:=Q6.out.1.frozen c
  have b1:=Q6.out.1.2.1 c
  have b2:=Q6.out.1.2.1 d
  rw [HX.out] at c1 b1
  rw [HY.out] at c2 b2
  obtain ⟨b3,b4⟩:=b1
  obtain ⟨b5,b6⟩:=b2
  have HN:Box (Qs w (x6.drew.setCell ⟨S,c,none⟩ (.int .u32 ((x+y)%4294967296))) S (ad L6 c d)):=⟨by have:=Q6.out.step c _ (W32.wrap (x+y));rw [ad,HX.out,HY.out];exact this⟩
  go_region
  all_goals (go_wp2_with fail;go_meet;exact HN)
 case rest=>
 obtain ⟨L7,E7⟩:=named (ad L6 c d)
 rw [E7.out] at hcut
 have Q7:=hcut
 clear hcut Q6
 rename World=>x7
 go_wp2_with fail
 go_cut [] from 77 (fun wx=>Box (Qs w wx S (tn L7 b c 7)))
 case first=>
  obtain ⟨x,HX⟩:∃x,Box (L7.getD b 0=x):=⟨_,⟨rfl⟩⟩
  obtain ⟨y,HY⟩:∃x,Box (L7.getD c 0=x):=⟨_,⟨rfl⟩⟩
  have c1:=Q7.out.1.cell b hb
  have c2:=Q7.out.1.cell c hc
  have f1:=Q7.out.1.frozen b
  have b1:=Q7.out.1.2.1 b
  have b2:=Q7.out.1.2.1 c
  rw [HX.out] at c1 b1
  rw [HY.out] at c2 b2
  obtain ⟨b3,b4⟩:=b1
  obtain ⟨b5,b6⟩:=b2
  have HN:Box (Qs w (x7.drew.setCell ⟨S,b,none⟩ (.int .u32 (rotl (bits .xor .u32 x y) 7))) S (tn L7 b c 7)):=⟨by have:=Q7.out.step b _ (W32.rotl (bits .xor .u32 x y) 7);rw [tn,HX.out,HY.out];exact this⟩
  have hxy:W32 (bits .xor .u32 x y):=W32.bits _ _ _
  go_region_with (go_at_call 132;refine (z6m _ _ _ hxy (by decide) (by decide)).mono ?_;rintro e w' ⟨rfl,rfl⟩)
  all_goals (go_wp2_with fail;go_meet;exact HN)
 case rest=>
 obtain ⟨L8,E8⟩:=named (tn L7 b c 7)
 rw [E8.out] at hcut
 have Q8:=hcut
 clear hcut Q7
 rename World=>x8
 have HE:Box (qr L a b c d=L8):=⟨by rw [qr,E1.out,E2.out,E3.out,E4.out,E5.out,E6.out,E7.out,E8.out]⟩
 clear E1 E2 E3 E4 E5 E6 E7 E8
 have hsz:(u32s L8).size=16:=by rw [q1q,Q8.out.1.1]
 have hall:=q2l L8
 go_wp2_with (first | (refine wpList_load_row rfl 214 _ rfl S rfl 214 (u32s L8) (0,0) _ Q8.out.1.2.2 Tryz.underlying214 rfl (by rw [hsz];kernel_rfl) ?_) | (refine wpList_store_row rfl 214 _ _ rfl (S+1) (u32s L8) rfl rfl 214 (fil [] 16) Q8.out.2.1 (by rw [hsz];kernel_rfl) (by rw [hsz];rfl) hall ?_))
 (try simp only [Exit.inBlock,Exit.then])
 refine bodyPost_ret (results_cell_row (p:=10) (ty:=214) rfl _ _ (S+1) 214 (u32s L8) (0,0) _ rfl (setRow_heap _ _ _ _ _ _ Q8.out.2.1) Tryz.underlying214 rfl (by rw [hsz];kernel_rfl)) rfl ?_
 exact ⟨by rw [HE.out],by rw [HS.out];exact below_setRow Q8.out.2.2 (by omega) _⟩
end Go.Proofs.YtjejnlebpcjidaaGreatDoor.Seal
namespace Go.Proofs.YtjejnlebpcjidaaGreatDoor.Seal.Plain
end Go.Proofs.YtjejnlebpcjidaaGreatDoor.Seal.Plain
namespace Go.Proofs.YtjejnlebpcjidaaGreatDoor.Seal
open Go.RowKit Go.Proofs.YtjejnlebpcjidaaGreatDoor.Plain Go.Proofs.YtjejnlebpcjidaaGreatDoor.Seal.Plain
def Tab (w:World):Prop:=2<w.heap.size/\∀i,i<32->w.cell? ⟨2,i,none⟩=some (.int .i64 (qt.getD i 0))
theorem Tab.below {w w':World} (h:Tab w) (hb:Below w.heap.size w w'):Tab w':=
 ⟨Nat.lt_of_lt_of_le h.1 hb.size,fun i hi=>(hb.cell h.1).trans (h.2 i hi)⟩
theorem Tab.range {w:World} (h:Tab w):w.rangeAt 2 0 (qt.map (Value.int .i64)):=by
 intro j v hj
 have hlt:j<qt.length:=by simpa using (List.getElem?_eq_some_iff.1 hj).1
 rw [Nat.zero_add,h.2 j hlt,<-hj]
 simp [hlt]
theorem index53 (j:Nat) (hj:j<8) (w:World):(Instr.index 237 (.agg (qt.map (Value.int .i64)).toArray) (.int .i64 j)).run Tryz.prog w=.ok (.agg #[.int .i64 (qa j 0),.int .i64 (qa j 1),.int .i64 (qa j 2),.int .i64 (qa j 3)]) w:=by
 have h:j=0∨j=1∨j=2∨j=3∨j=4∨j=5∨j=6∨j=7:=by omega
 rcases h with rfl | rfl | rfl | rfl | rfl | rfl | rfl | rfl<;>rfl
theorem Qs.but {w wx wy:World} {S:Nat} {L L':List Int} (h:Qs w wx S L) (h1:Ws wy S L') (h2:But S wx wy):Qs w wy S L':=by
 have hl:=(gE h.2.1)
 exact ⟨h1,(h2.block _ hl (by omega)).trans h.2.1,h.2.2.trans (h2.below (Nat.le_refl _) (by omega))⟩
theorem Qs.on {w wx wy:World} {S:Nat} {L:List Int} (h:Qs w wx S L) (h2:Below wx.heap.size wx wy):Qs w wy S L:=by
 have hl:=(gE h.2.1)
 exact ⟨h.1.below h2,(h2.block _ hl).trans h.2.1,h.2.2.trans (h2.mono (by omega))⟩
theorem Qs.drewN {w wx:World} {S:Nat} {L:List Int} (h:Qs w wx S L) (n:Nat):Qs w (wx.drewN n) S L:=⟨h.1,h.2.1,h.2.2.os,h.2.2.tape,h.2.2.output,h.2.2.size,h.2.2.block⟩
theorem z6p (S d a n:Nat) (k:Int) (hk:k=n) (L:List Int) (w:World) (h:Ws w S L) (hd:d<16) (ha:a<16) (hn:1<=n) (hn':n<=31):
  Calls Tryz.prog 140 #[.int .i64 d,.int .i64 a,.int .i64 k,.pointer (some ⟨S,0,none⟩)] w fun e w'=>e=.returned (.tuple #[])/\Ws w' S (tn L d a n)/\But S w w':=by
 subst hk;exact turn_any S d a n L w h hd ha hn hn'
set_option maxRecDepth 20000 in
set_option maxHeartbeats 4000000 in
theorem q5m (L:List Int) (w:World) (hL:L.length=16) (hw:Wrd L) (hT:Tab w):
  Calls Tryz.prog 138 #[.agg (u32s L)] w fun e w'=>e=.returned (.agg (u32s (rn L 10)))/\Below w.heap.size w w':=by
 obtain ⟨S,hS⟩:=nm w.heap.size
 have HS:Hid (w.heap.size=S):=hS
 have z16:(fil [] 16)=#[.int .u32 0,.int .u32 0,.int .u32 0,.int .u32 0,.int .u32 0,.int .u32 0,.int .u32 0,.int .u32 0,.int .u32 0,.int .u32 0,.int .u32 0,.int .u32 0,.int .u32 0,.int .u32 0,.int .u32 0,.int .u32 0]:=rfl
 have Q0:Box (Qs w ((w.alloc (.cells (u32s L) 214)).alloc (.cells (fil [] 16) 214)) S L):=⟨⟨hL,hw,q0i (q0g hS)⟩,q0g (by simp [hS]),by rw [<-hS];exact ((Below.refl _ _).alloc (Nat.le_refl _) _).alloc (by simp) _⟩
 rw [z16] at Q0
 have hmf:∀(fn:Fn) (first cap:Array Value) (w:World),(Instr.makeFunc fn first cap).run Tryz.prog w=.ok (.func fn first cap) w:=fun _ _ _ _=>rfl
 have HT:Box (∀wx L,Qs w wx S L->wx.rangeAt 2 0 (qt.map (Value.int .i64))):=⟨fun wx L h=>(hT.below (by rw [HS.out];exact h.2.2)).range⟩
 clear hS z16 hw hL hT
 go_enter Tryz.func138,Tryz.ntmps138
 go_wp2
 rw [HS.out]
 generalize (w.alloc (.cells (u32s L) 214)).alloc _=x0 at Q0 ⊢
 clear hmf
 go_loopw [11] (fun i wr=>∃k:Nat,k<=10/\i=.int .i64 k/\Box (Qs w wr S (rn L k))) (fun i _=>10-(intOf i).toNat)
 case atStart=>exact ⟨0,by omega,rfl,Q0⟩
 case round=>
  clear Q0
  obtain ⟨k,hk,rfl,HQ⟩:=hrel
  by_cases hlt:k<10
  ·obtain ⟨L0,E0⟩:=named (rn L k)
   rw [E0.out] at HQ
   go_wp2_with (refine wpList_load_mid rfl 237 (.global 2) rfl 2 0 rfl (qt.map (Value.int .i64)) _ (HT.out _ _ HQ.out) Tryz.underlying237 rfl (by kernel_rfl) ?_)
   go_loopw [14] (fun i wr=>∃j:Nat,j<=8/\i=.int .i64 j/\Box (Qs w wr S (row L0 j))) (fun i _=>8-(intOf i).toNat)
   case atStart=>exact ⟨0,by omega,rfl,HQ⟩
   case round=>
    clear HQ
    obtain ⟨j,hj,rfl,HQ⟩:=hrel
    by_cases hlt8:j<8
    ·have hidx:=index53 j hlt8
     have HP:Box (qr (row L0 j) (qa j 0) (qa j 1) (qa j 2) (qa j 3)=row L0 (j+1)):=⟨rfl⟩
     obtain ⟨p,Hp⟩:∃p,Box (qa j 0=p):=⟨_,⟨rfl⟩⟩
     obtain ⟨q,Hq⟩:∃p,Box (qa j 1=p):=⟨_,⟨rfl⟩⟩
     obtain ⟨r,Hr⟩:∃p,Box (qa j 2=p):=⟨_,⟨rfl⟩⟩
     obtain ⟨s,Hs⟩:∃p,Box (qa j 3=p):=⟨_,⟨rfl⟩⟩
     have hp:p<16:=by rw [<-Hp.out];exact (qa_lt j 0 hlt8 (by omega)).1
     have hq:q<16:=by rw [<-Hq.out];exact (qa_lt j 1 hlt8 (by omega)).1
     have hr:r<16:=by rw [<-Hr.out];exact (qa_lt j 2 hlt8 (by omega)).1
     have hs:s<16:=by rw [<-Hs.out];exact (qa_lt j 3 hlt8 (by omega)).1
     rw [Hp.out,Hq.out,Hr.out,Hs.out] at HP hidx
     clear Hp Hq Hr Hs
     obtain ⟨M,HM⟩:=named (row L0 j)
     rw [HM.out] at HP HQ
     go_wp2
     have HX:Box (Qs w (wr.alloc (Obj.cells #[Value.int IntKind.i64 ↑p,Value.int IntKind.i64 ↑q,Value.int IntKind.i64 ↑r,Value.int IntKind.i64 ↑s] 236)) S M):=⟨HQ.out.on ((Below.refl _ _).alloc (Nat.le_refl _) _)⟩
     have hG:(wr.alloc (Obj.cells #[Value.int IntKind.i64 ↑p,Value.int IntKind.i64 ↑q,Value.int IntKind.i64 ↑r,Value.int IntKind.i64 ↑s] 236)).heap[wr.heap.size]?=some (Obj.cells #[Value.int IntKind.i64 ↑p,Value.int IntKind.i64 ↑q,Value.int IntKind.i64 ↑r,Value.int IntKind.i64 ↑s] 236):=q0g rfl
     generalize wr.alloc (Obj.cells #[Value.int IntKind.i64 ↑p,Value.int IntKind.i64 ↑q,Value.int IntKind.i64 ↑r,Value.int IntKind.i64 ↑s] 236)=y1 at HX hG ⊢
     generalize wr.heap.size=G at hG ⊢
     clear HQ
     have c0:y1.cell? ⟨G,0,none⟩=some (.int .i64 p):=by rw [cell_of_row _ _ _ _ _ _ hG];rfl
     have c1:y1.cell? ⟨G,1,none⟩=some (.int .i64 q):=by rw [cell_of_row _ _ _ _ _ _ hG];rfl
     have c2:y1.cell? ⟨G,2,none⟩=some (.int .i64 r):=by rw [cell_of_row _ _ _ _ _ _ hG];rfl
     have c3:y1.cell? ⟨G,3,none⟩=some (.int .i64 s):=by rw [cell_of_row _ _ _ _ _ _ hG];rfl
     clear hG
     go_quiet (fail)
     have Q0:Box (Qs w (y1.drewN nq) S M):=⟨HX.out.drewN nq⟩
     clear c0 c1 c2 c3 HX
     generalize y1.drewN nq=x1 at Q0 ⊢
     clear nq y1
     go_wp2
     obtain ⟨x,HX⟩:∃x,Box (M.getD p 0=x):=⟨_,⟨rfl⟩⟩
     obtain ⟨y,HY⟩:∃x,Box (M.getD q 0=x):=⟨_,⟨rfl⟩⟩
     have c1:=Q0.out.1.cell p hp
     have c2:=Q0.out.1.cell q hq
     have f1:=Q0.out.1.frozen p
     have b1:=Q0.out.1.2.1 p
     have b2:=Q0.out.1.2.1 q
     rw [HX.out] at c1 b1
     rw [HY.out] at c2 b2
     obtain ⟨b3,b4⟩:=b1
     obtain ⟨b5,b6⟩:=b2
     have Q1:Box (Qs w (x1.setCell ⟨S,p,none⟩ (.int .u32 ((x+y)%4294967296))).drew S (ad M p q)):=⟨by have:=Q0.out.step p _ (W32.wrap (x+y));rw [ad,HX.out,HY.out];exact this⟩
     go_region
     generalize (x1.setCell ⟨S,p,none⟩ (.int .u32 ((x+y)%4294967296))).drew=x2 at Q1 ⊢
     clear HX HY c1 c2 f1 b3 b4 b5 b6 Q0
     obtain ⟨M1,E1⟩:=named (ad M p q)
     rw [E1.out] at Q1
     go_wp2_with (go_at_call 140;refine (z6p S s p 16 16 rfl M1 _ Q1.out.1 hs hp (by decide) (by decide)).mono ?_;rintro e x3 ⟨rfl,h1,h2⟩;have Q2:Box (Qs w x3 S (tn M1 s p 16)):=⟨Q1.out.but h1 h2⟩;clear h1 h2)
     clear Q1
     obtain ⟨M2,E2⟩:=named (tn M1 s p 16)
     rw [E2.out] at Q2
     obtain ⟨x,HX⟩:∃x,Box (M2.getD r 0=x):=⟨_,⟨rfl⟩⟩
     obtain ⟨y,HY⟩:∃x,Box (M2.getD s 0=x):=⟨_,⟨rfl⟩⟩
     have c1:=Q2.out.1.cell r hr
     have c2:=Q2.out.1.cell s hs
     have f1:=Q2.out.1.frozen r
     have b1:=Q2.out.1.2.1 r
     have b2:=Q2.out.1.2.1 s
     rw [HX.out] at c1 b1
     rw [HY.out] at c2 b2
     obtain ⟨b3,b4⟩:=b1
     obtain ⟨b5,b6⟩:=b2
     have Q3:Box (Qs w (x3.setCell ⟨S,r,none⟩ (.int .u32 ((x+y)%4294967296))).drew S (ad M2 r s)):=⟨by have:=Q2.out.step r _ (W32.wrap (x+y));rw [ad,HX.out,HY.out];exact this⟩
     go_region
     generalize (x3.setCell ⟨S,r,none⟩ (.int .u32 ((x+y)%4294967296))).drew=x4 at Q3 ⊢
     clear HX HY c1 c2 f1 b3 b4 b5 b6 Q2
     obtain ⟨M3,E3⟩:=named (ad M2 r s)
     rw [E3.out] at Q3
     go_wp2_with (go_at_call 140;refine (z6p S q r 12 12 rfl M3 _ Q3.out.1 hq hr (by decide) (by decide)).mono ?_;rintro e x5 ⟨rfl,h1,h2⟩;have Q4:Box (Qs w x5 S (tn M3 q r 12)):=⟨Q3.out.but h1 h2⟩;clear h1 h2)
     clear Q3
     obtain ⟨M4,E4⟩:=named (tn M3 q r 12)
     rw [E4.out] at Q4
     obtain ⟨x,HX⟩:∃x,Box (M4.getD p 0=x):=⟨_,⟨rfl⟩⟩
     obtain ⟨y,HY⟩:∃x,Box (M4.getD q 0=x):=⟨_,⟨rfl⟩⟩
     have c1:=Q4.out.1.cell p hp
     have c2:=Q4.out.1.cell q hq
     have f1:=Q4.out.1.frozen p
     have b1:=Q4.out.1.2.1 p
     have b2:=Q4.out.1.2.1 q
     rw [HX.out] at c1 b1
     rw [HY.out] at c2 b2
     obtain ⟨b3,b4⟩:=b1
     obtain ⟨b5,b6⟩:=b2
     have Q5:Box (Qs w (x5.setCell ⟨S,p,none⟩ (.int .u32 ((x+y)%4294967296))).drew S (ad M4 p q)):=⟨by have:=Q4.out.step p _ (W32.wrap (x+y));rw [ad,HX.out,HY.out];exact this⟩
     go_region
     generalize (x5.setCell ⟨S,p,none⟩ (.int .u32 ((x+y)%4294967296))).drew=x6 at Q5 ⊢
     clear HX HY c1 c2 f1 b3 b4 b5 b6 Q4
     obtain ⟨M5,E5⟩:=named (ad M4 p q)
     rw [E5.out] at Q5
     go_wp2_with (go_at_call 140;refine (z6p S s p 8 8 rfl M5 _ Q5.out.1 hs hp (by decide) (by decide)).mono ?_;rintro e x7 ⟨rfl,h1,h2⟩;have Q6:Box (Qs w x7 S (tn M5 s p 8)):=⟨Q5.out.but h1 h2⟩;clear h1 h2)
     clear Q5
     obtain ⟨M6,E6⟩:=named (tn M5 s p 8)
     rw [E6.out] at Q6
     obtain ⟨x,HX⟩:∃x,Box (M6.getD r 0=x):=⟨_,⟨rfl⟩⟩
     obtain ⟨y,HY⟩:∃x,Box (M6.getD s 0=x):=⟨_,⟨rfl⟩⟩
     have c1:=Q6.out.1.cell r hr
     have c2:=Q6.out.1.cell s hs
     have f1:=Q6.out.1.frozen r
     have b1:=Q6.out.1.2.1 r
     have b2:=Q6.out.1.2.1 s
     rw [HX.out] at c1 b1
     rw [HY.out] at c2 b2
     obtain ⟨b3,b4⟩:=b1
     obtain ⟨b5,b6⟩:=b2
     have Q7:Box (Qs w (x7.setCell ⟨S,r,none⟩ (.int .u32 ((x+y)%4294967296))).drew S (ad M6 r s)):=⟨by have:=Q6.out.step r _ (W32.wrap (x+y));rw [ad,HX.out,HY.out];exact this⟩
     go_region
     generalize (x7.setCell ⟨S,r,none⟩ (.int .u32 ((x+y)%4294967296))).drew=x8 at Q7 ⊢
     clear HX HY c1 c2 f1 b3 b4 b5 b6 Q6
     obtain ⟨M7,E7⟩:=named (ad M6 r s)
     rw [E7.out] at Q7
     go_wp2_with (go_at_call 140;refine (z6p S q r 7 7 rfl M7 _ Q7.out.1 hq hr (by decide) (by decide)).mono ?_;rintro e x9 ⟨rfl,h1,h2⟩;have Q8:Box (Qs w x9 S (tn M7 q r 7)):=⟨Q7.out.but h1 h2⟩;clear h1 h2)
     go_roundw
     case rel=>exact ⟨j+1,by omega,by go_num,⟨by rw [<-HP.out,qr,E1.out,E2.out,E3.out,E4.out,E5.out,E6.out,E7.out];exact Q8.out⟩⟩
     case measure=>simp [intOf];omega
    ·obtain rfl:j=8:=by omega
     have HE:Box (row L0 8=rn L (k+1)):=⟨by rw [rn,E0.out]⟩
     rw [HE.out] at HQ
     go_wp2
     go_roundw
     case rel=>exact ⟨k+1,by omega,by go_num,HQ⟩
     case measure=>simp [intOf];omega
  ·obtain rfl:k=10:=by omega
   obtain ⟨L8,E8⟩:=named (rn L 10)
   rw [E8.out] at HQ
   have hsz:(u32s L8).size=16:=by rw [q1q,HQ.out.1.1]
   have hall:=q2l L8
   go_wp2_with (first | (refine wpList_load_row rfl 214 _ rfl S rfl 214 (u32s L8) (0,0) _ HQ.out.1.2.2 Tryz.underlying214 rfl (by rw [hsz];kernel_rfl) ?_) | (refine wpList_store_row rfl 214 _ _ rfl (S+1) (u32s L8) rfl rfl 214 (fil [] 16) HQ.out.2.1 (by rw [hsz];kernel_rfl) (by rw [hsz];rfl) hall ?_))
   (try simp only [Exit.inBlock,Exit.then])
   refine bodyPost_ret (results_cell_row (p:=2) (ty:=214) rfl _ _ (S+1) 214 (u32s L8) (0,0) _ rfl (setRow_heap _ _ _ _ _ _ HQ.out.2.1) Tryz.underlying214 rfl (by rw [hsz];kernel_rfl)) rfl ?_
   exact ⟨by rw [E8.out],by rw [HS.out];exact below_setRow HQ.out.2.2 (by omega) _⟩
end Go.Proofs.YtjejnlebpcjidaaGreatDoor.Seal
namespace Go.Proofs.YtjejnlebpcjidaaGreatDoor.Seal.Plain
end Go.Proofs.YtjejnlebpcjidaaGreatDoor.Seal.Plain
namespace Go.Proofs.YtjejnlebpcjidaaGreatDoor.Seal
open Go.RowKit Go.Proofs.YtjejnlebpcjidaaGreatDoor.Plain Go.Proofs.YtjejnlebpcjidaaGreatDoor.Seal.Plain
theorem get_k (a:Option Addr) (len cap:Nat) (L:List Int) (p n:Nat) (pi ni:Int) (w:World) (hb:Bytes w a len L) (hl:len<=maxLen) (hn1:1<=n) (hn2:n<=8) (hp:p+n<=len) (h1:pi=p) (h2:ni=n):
  Calls Tryz.prog 121 #[.slice a len cap,.int .i64 pi,.int .i64 ni] w fun e w'=>e=.returned (.tuple #[.int .u64 (num L p n),.int .i64 0])/\w=w':=by
 subst h1;subst h2;exact z6d a len cap L p n w hb hl hn1 hn2 hp
theorem rget_k (a:Option Addr) (len cap:Nat) (L:List Int) (p n:Nat) (pi ni:Int) (w:World) (hb:Bytes w a len L) (hl:len<=maxLen) (hn1:1<=n) (hn2:n<=8) (hp:p+n<=len) (h1:pi=p) (h2:ni=n):
  Calls Tryz.prog 86 #[.slice a len cap,.int .i64 pi,.int .i64 ni] w fun e w'=>e=.returned (.tuple #[.int .u64 (num L p n),.int .i64 0])/\w=w':=by
 subst h1;subst h2;exact z0t a len cap L p n w hb hl hn1 hn2 hp
set_option maxHeartbeats 400000 in
theorem z5k (a:Option Addr) (len cap:Nat) (B:List Int) (i:Nat) (w:World) (hb:Bytes w a len B) (hl:len<=1000) (hi:4*i+4<=len):
  Calls Tryz.prog 139 #[.slice a len cap,.int .i64 i] w fun e w'=>e=.returned (.int .u32 (num B (4*i) 4))/\w=w':=by
 have hx:=q8x B (4*i) hb.2.1 4
 have HC:Box (Calls Tryz.prog 121 #[.slice a len cap,.int .i64 (4*(i:Int)),.int .i64 4] w fun e w'=>e=.returned (.tuple #[.int .u64 (num B (4*i) 4),.int .i64 0])/\w=w'):=⟨get_k a len cap B (4*i) 4 _ _ w hb (by unfold maxLen;omega) (by omega) (by omega) hi (by simp) rfl⟩
 generalize num B (4*i) 4=x at hx HC ⊢
 have h0:0<=x:=hx.1
 have h1:x<4294967296:=hx.2
 clear hx hb
 go_enter Tryz.func139,Tryz.ntmps139
 go_wp2_with (go_at_call 121;refine HC.out.mono ?_;rintro e w' ⟨rfl,rfl⟩)
 go_ret
 exact ⟨rfl,rfl⟩
set_option maxHeartbeats 400000 in
theorem at_any (a:Option Addr) (len cap:Nat) (B:List Int) (p:Nat) (w:World) (hb:Bytes w a len B) (hl:len<=1000) (hi:p+4<=len):
  Calls Tryz.prog 117 #[.slice a len cap,.int .i64 p] w fun e w'=>e=.returned (.int .u32 (num B p 4))/\w=w':=by
 have hx:=q8x B p hb.2.1 4
 have HC:Box (Calls Tryz.prog 86 #[.slice a len cap,.int .i64 p,.int .i64 4] w fun e w'=>e=.returned (.tuple #[.int .u64 (num B p 4),.int .i64 0])/\w=w'):=⟨rget_k a len cap B p 4 _ _ w hb (by unfold maxLen;omega) (by omega) (by omega) hi rfl rfl⟩
 generalize num B p 4=x at hx HC ⊢
 have h0:0<=x:=hx.1
 have h1:x<4294967296:=hx.2
 clear hx hb
 go_enter Tryz.func117,Tryz.ntmps117
 go_wp2_with (go_at_call 86;refine HC.out.mono ?_;rintro e w' ⟨rfl,rfl⟩)
 go_ret
 exact ⟨rfl,rfl⟩
structure Bg (w wr:World) (B S T G:Nat) (K N X:List Int):Prop where
 key:wr.heap[S]?=some (.cells (u8s K) 23 (0,0))
 non:wr.heap[T]?=some (.cells (u8s N) 157 (0,0))
 wds:wr.heap[G]?=some (.cells (fil X 16) 214 (0,0))
 bel:Below B w wr
theorem Bg.keyB {w wr:World} {B S T G:Nat} {K N X:List Int} (h:Bg w wr B S T G K N X) (hK:Byt K) (hl:K.length=32):Bytes wr (some ⟨S,0,none⟩) 32 K:=by
 have:=q1c hK h.key
 rwa [hl] at this
theorem Bg.nonB {w wr:World} {B S T G:Nat} {K N X:List Int} (h:Bg w wr B S T G K N X) (hN:Byt N) (hl:N.length=12):Bytes wr (some ⟨T,0,none⟩) 12 N:=by
 have:=q1c hN h.non
 rwa [hl] at this
theorem Bg.step {w wr:World} {B S T G:Nat} {K N X:List Int} (h:Bg w wr B S T G K N X) (hS:S≠G) (hT:T≠G) (hB:B<=G) (hX:X.length<16) (v:Int):Bg w (wr.setCell ⟨G,X.length,none⟩ (.int .u32 v)) B S T G K N (X++[v]):=
 ⟨by rw [heap_setCell_other wr ⟨G,X.length,none⟩ S _ hS];exact h.key,by rw [heap_setCell_other wr ⟨G,X.length,none⟩ T _ hT];exact h.non,
  by rw [heap_setCell_same wr G X.length _ 214 _ h.wds,z0h X 16 v hX],q2i h.bel hB _⟩
theorem Bg.cell {w wr:World} {B S T G:Nat} {K N X:List Int} (h:Bg w wr B S T G K N X) (i:Nat) (hi:i<16) (hX:X.length<=16):∃v,wr.cell? ⟨G,i,none⟩=some v:=by
 obtain ⟨v,hv⟩:=q4t X 16 i hi hX
 exact ⟨v,by rw [cell_of_row _ _ _ _ _ _ h.wds];exact hv⟩
theorem Bg.frozen {w wr:World} {B S T G:Nat} {K N X:List Int} (h:Bg w wr B S T G K N X) (i:Nat):wr.frozen? ⟨G,i,none⟩=false:=frozen_of_row wr G i _ 214 h.wds
theorem q9r {w:World} {S:Nat} (hS:w.heap.size=S) (o1 o2 o3 o4:Obj):((((w.alloc o1).alloc o2).alloc o3).alloc o4).heap[S]?=some o1/\((((w.alloc o1).alloc o2).alloc o3).alloc o4).heap[S+1]?=some o2/\((((w.alloc o1).alloc o2).alloc o3).alloc o4).heap[S+1+1]?=some o3/\((((w.alloc o1).alloc o2).alloc o3).alloc o4).heap[S+1+1+1]?=some o4/\Below S w ((((w.alloc o1).alloc o2).alloc o3).alloc o4):=by
 refine ⟨q0i (q0i (q0i (q0g hS))),q0i (q0i (q0g (by simp [hS]))),q0i (q0g (by simp [hS])),q0g (by simp [hS]),?_⟩
 rw [<-hS]
 exact ((((Below.refl _ _).alloc (Nat.le_refl _) _).alloc (by simp) _).alloc (by simp;omega) _).alloc (by simp;omega) _
set_option maxRecDepth 20000 in
set_option maxHeartbeats 1000000 in
theorem q1t (K N:List Int) (c:Int) (w:World) (hK:Byt K) (hKl:K.length=32) (hN:Byt N) (hNl:N.length=12) (hc:W32 c):
  Calls Tryz.prog 137 #[.agg (u8s K),.int .u32 c,.agg (u8s N)] w fun e w'=>e=.returned (.agg (u32s (beg K c N)))/\Below w.heap.size w w':=by
 obtain ⟨S,hS⟩:=nm w.heap.size
 have HS:Hid (w.heap.size=S):=hS
 have A4:=q9r hS (.cells (u8s K) 23) (.cells (u8s N) 157) (.cells (fil [] 16) 214) (.cells (fil four 16) 214)
 have H0:Box (Bg w ((((w.alloc (.cells (u8s K) 23)).alloc (.cells (u8s N) 157)).alloc (.cells (fil [] 16) 214)).alloc (.cells (fil four 16) 214)) S S (S+1) (S+1+1+1) K N (four++wds K 0)/\((((w.alloc (.cells (u8s K) 23)).alloc (.cells (u8s N) 157)).alloc (.cells (fil [] 16) 214)).alloc (.cells (fil four 16) 214)).heap[S+1+1]?=some (.cells (fil [] 16) 214)):=
  ⟨⟨A4.1,A4.2.1,A4.2.2.2.1,A4.2.2.2.2⟩,A4.2.2.1⟩
 have z16:fil [] 16=#[.int .u32 0,.int .u32 0,.int .u32 0,.int .u32 0,.int .u32 0,.int .u32 0,.int .u32 0,.int .u32 0,.int .u32 0,.int .u32 0,.int .u32 0,.int .u32 0,.int .u32 0,.int .u32 0,.int .u32 0,.int .u32 0]:=rfl
 have f16:fil four 16=#[.int .u32 1634760805,.int .u32 857760878,.int .u32 2036477234,.int .u32 1797285236,.int .u32 0,.int .u32 0,.int .u32 0,.int .u32 0,.int .u32 0,.int .u32 0,.int .u32 0,.int .u32 0,.int .u32 0,.int .u32 0,.int .u32 0,.int .u32 0]:=rfl
 rw [z16,f16] at H0
 clear A4 hS z16 f16
 go_enter Tryz.func137,Tryz.ntmps137
 go_wp2
 rw [HS.out]
 generalize (((w.alloc (.cells (u8s K) 23)).alloc _).alloc _).alloc _=x0 at H0 ⊢
 obtain ⟨T,HT⟩:∃T,Box (S+1=T):=⟨_,⟨rfl⟩⟩
 rw [HT.out] at H0 ⊢
 obtain ⟨R,HR⟩:∃R,Box (T+1=R):=⟨_,⟨rfl⟩⟩
 rw [HR.out] at H0 ⊢
 obtain ⟨G,HG⟩:∃G,Box (R+1=G):=⟨_,⟨rfl⟩⟩
 rw [HG.out] at H0 ⊢
 have hST:S≠G/\T≠G/\R≠G/\S<=G/\S<=R:=by have:=HT.out;have:=HR.out;have:=HG.out;omega
 obtain ⟨n1,n2,n3,n4,n5⟩:=hST
 have h4:four.length=4:=rfl
 clear HT HR HG
 go_loopw [11] (fun i wr=>∃k:Nat,k<=8/\i=.int .i64 k/\Box (Bg w wr S S T G K N (four++wds K k)/\wr.heap[R]?=some (.cells (fil [] 16) 214))) (fun i _=>8-(intOf i).toNat)
 case atStart=>exact ⟨0,by omega,rfl,H0⟩
 case round=>
  clear H0
  obtain ⟨k,hk,rfl,HB⟩:=hrel
  by_cases hlt:k<8
  ·obtain ⟨v,hcw⟩:=HB.out.1.cell (4+k) (by omega) (by simp [q1y,h4];omega)
   have f1:=HB.out.1.frozen (4+k)
   have HN:=HB.out.1.step n1 n2 n4 (by simp [q1y,h4];omega) (num K (4*k) 4)
   rw [List.length_append,q1y,h4,List.append_assoc,show wds K k++[num K (4*k) 4]=wds K (k+1) from rfl] at HN
   have HM:Box (Bg w (wr.setCell ⟨G,4+k,none⟩ (.int .u32 (num K (4*k) 4))) S S T G K N (four++wds K (k+1))/\(wr.setCell ⟨G,4+k,none⟩ (.int .u32 (num K (4*k) 4))).heap[R]?=some (.cells (fil [] 16) 214)):=⟨HN,by rw [heap_setCell_other wr ⟨G,4+k,none⟩ R _ n3];exact HB.out.2⟩
   clear HN
   have HC:Box (Calls Tryz.prog 139 #[.slice (some ⟨S,0,none⟩) 32 32,.int .i64 k] wr fun e w'=>e=.returned (.int .u32 (num K (4*k) 4))/\wr=w'):=⟨z5k _ 32 32 K k wr (HB.out.1.keyB hK hKl) (by omega) (by omega)⟩
   generalize num K (4*k) 4=x at HC HM
   go_wp2_with (go_at_call 139;refine HC.out.mono ?_;rintro e w' ⟨rfl,rfl⟩)
   go_roundw
   case rel=>exact ⟨k+1,by omega,by go_num,HM⟩
   case measure=>simp [intOf];omega
  ·have HK8:Box (k=8):=⟨by omega⟩
   rw [HK8.out] at HB
   obtain ⟨Y,HY⟩:=named (four++wds K 8)
   have hYl:Y.length=12:=by rw [<-HY.out];simp [q1y,h4]
   rw [HY.out] at HB
   obtain ⟨v,hcw⟩:=HB.out.1.cell 12 (by omega) (by omega)
   have f1:=HB.out.1.frozen 12
   have HN:=HB.out.1.step n1 n2 n4 (by omega) c
   rw [hYl] at HN
   have HM:Box (Bg w (wr.setCell ⟨G,12,none⟩ (.int .u32 c)) S S T G K N ((Y++[c])++wds N 0)/\(wr.setCell ⟨G,12,none⟩ (.int .u32 c)).heap[R]?=some (.cells (fil [] 16) 214)):=⟨by rw [show wds N 0=[] from rfl,List.append_nil];exact HN,by rw [heap_setCell_other wr ⟨G,12,none⟩ R _ n3];exact HB.out.2⟩
   clear HN HB
   obtain ⟨Z,HZ⟩:=named (Y++[c])
   have hZl:Z.length=13:=by rw [<-HZ.out];simp [hYl]
   have HE:Box (Z++wds N 3=beg K c N):=⟨by rw [<-HZ.out,<-HY.out];rfl⟩
   rw [HZ.out] at HM
   clear HZ HY hYl
   go_wp2
   generalize wr.setCell ⟨G,12,none⟩ (.int .u32 c)=x1 at HM ⊢
   go_loopw [23] (fun i wr=>∃k:Nat,k<=3/\i=.int .i64 k/\Box (Bg w wr S S T G K N (Z++wds N k)/\wr.heap[R]?=some (.cells (fil [] 16) 214))) (fun i _=>3-(intOf i).toNat)
   case atStart=>exact ⟨0,by omega,rfl,HM⟩
   case round=>
    clear HM hcw f1
    obtain ⟨k,hk,rfl,HB⟩:=hrel
    by_cases hlt3:k<3
    ·obtain ⟨v,hcw⟩:=HB.out.1.cell (13+k) (by omega) (by simp [q1y,hZl];omega)
     have f1:=HB.out.1.frozen (13+k)
     have HN:=HB.out.1.step n1 n2 n4 (by simp [q1y,hZl];omega) (num N (4*k) 4)
     rw [List.length_append,q1y,hZl,List.append_assoc,show wds N k++[num N (4*k) 4]=wds N (k+1) from rfl] at HN
     have HM:Box (Bg w (wr.setCell ⟨G,13+k,none⟩ (.int .u32 (num N (4*k) 4))) S S T G K N (Z++wds N (k+1))/\(wr.setCell ⟨G,13+k,none⟩ (.int .u32 (num N (4*k) 4))).heap[R]?=some (.cells (fil [] 16) 214)):=⟨HN,by rw [heap_setCell_other wr ⟨G,13+k,none⟩ R _ n3];exact HB.out.2⟩
     clear HN
     have HC:Box (Calls Tryz.prog 139 #[.slice (some ⟨T,0,none⟩) 12 12,.int .i64 k] wr fun e w'=>e=.returned (.int .u32 (num N (4*k) 4))/\wr=w'):=⟨z5k _ 12 12 N k wr (HB.out.1.nonB hN hNl) (by omega) (by omega)⟩
     generalize num N (4*k) 4=x at HC HM
     go_wp2_with (go_at_call 139;refine HC.out.mono ?_;rintro e w' ⟨rfl,rfl⟩)
     go_roundw
     case rel=>exact ⟨k+1,by omega,by go_num,HM⟩
     case measure=>simp [intOf];omega
    ·obtain rfl:k=3:=by omega
     rw [HE.out] at HB
     obtain ⟨X,HX⟩:=named (beg K c N)
     have hXl:X.length=16:=by rw [<-HX.out];exact q7l K c N
     rw [HX.out] at HB
     have hsz:(u32s X).size=16:=by rw [q1q,hXl]
     have hall:=q2l X
     have HW:=HB.out.1.wds
     rw [q6p X 16 hXl] at HW
     have HF:Box _:=⟨And.intro HW (And.intro HB.out.2 HB.out.1.bel)⟩
     clear HW HB
     go_wp2_with (first | (refine wpList_load_row rfl 214 _ rfl G rfl 214 (u32s X) (0,0) _ HF.out.1 Tryz.underlying214 rfl (by rw [hsz];kernel_rfl) ?_) | (refine wpList_store_row rfl 214 _ _ rfl R (u32s X) rfl rfl 214 (fil [] 16) HF.out.2.1 (by rw [hsz];kernel_rfl) (by rw [hsz];rfl) hall ?_))
     (try simp only [Exit.inBlock,Exit.then])
     refine bodyPost_ret (results_cell_row (p:=6) (ty:=214) rfl _ _ R 214 (u32s X) (0,0) _ rfl (setRow_heap _ _ _ _ _ _ HF.out.2.1) Tryz.underlying214 rfl (by rw [hsz];kernel_rfl)) rfl ?_
     exact ⟨by rw [HX.out],by rw [HS.out];exact below_setRow HF.out.2.2 n5 _⟩
end Go.Proofs.YtjejnlebpcjidaaGreatDoor.Seal
