/-
 SHA-256 as plain reckoning on whole numbers, in the spelling of the walks; nothing of the program is said here. And what follows it.
-/
import Derived.Test.YtjejnlebpcjidaaGreatDoorQ00
import Derived.Laws.CopyOwn
import Derived.WalkKit
import Derived.Laws.BitsAllLaws
import Derived.Test.YtjejnlebpcjidaaGreatDoorRows
import Derived.WalkSpells
import Derived.WalkLawsBesides
import Derived.BigRegion
import Derived.Deep.QuietTactic
import Derived.BigQuiet
import Derived.Deep.MidRow
set_option linter.unusedVariables false
set_option maxRecDepth 100000
set_option maxRecDepth 100000
namespace Go.Proofs.YtjejnlebpcjidaaGreatDoor.Dig.Plain
open Go.RowKit
def W32 (x:Int):Prop:=0<=x/\x<4294967296
theorem W32.wrap (x:Int):W32 (x%4294967296):=by unfold W32;omega
def rotr (x k:Int):Int:=bits .or .u32 (x / 2 ^ k.toNat) (x*2 ^ (32-k.toNat)%4294967296)
theorem z2u (k:IntKind) (x y:Int):bits .or k x y=bits .or k y x:=by
 unfold bits
 simp only [BitVec.or_comm]
theorem and31 (n:Nat) (h:1<=n) (h':n<=31):bits .and .u64 (IntKind.u64.wrap (-(n:Int))) 31=32-(n:Int):=by
 have key:∀n:Fin 32,1<=n.val->bits .and .u64 (IntKind.u64.wrap (-(n.val:Int))) 31=32-(n.val:Int):=by decide +kernel
 exact key ⟨n,by omega⟩ h
end Go.Proofs.YtjejnlebpcjidaaGreatDoor.Dig.Plain
namespace Go.Proofs.YtjejnlebpcjidaaGreatDoor.Dig
open Go.RowKit Go.Proofs.YtjejnlebpcjidaaGreatDoor.Dig.Plain
theorem rotl_any (x:Int) (n:Nat) (w:World) (h:W32 x) (hn:1<=n) (hn':n<=31):
  Calls Tryz.prog 135 #[.int .u32 x,.int .i64 (-(n:Int))] w fun e w'=>e=.returned (.int .u32 (rotr x n))/\w=w':=by
 obtain ⟨h0,h1⟩:=h
 have hb:=and31 n hn hn'
 have HR:Hid (bits .or .u32 (x*2 ^ (32-n)%4294967296) (x / 2 ^ n)=rotr x n):=by unfold rotr;exact z2u _ _ _
 have e1:(32-(n:Int)).toNat=32-n:=by omega
 have e2:(32-(32-(n:Int))).toNat=n:=by omega
 go_enter Tryz.func135,Tryz.ntmps135
 go_wp2
 go_ret
 exact ⟨by rw [<-HR.out];rfl,rfl⟩
theorem right_any (x:Int) (n:Nat) (w:World) (h:W32 x) (hn:1<=n) (hn':n<=31):
  Calls Tryz.prog 124 #[.int .u32 x,.int .i64 n] w fun e w'=>e=.returned (.int .u32 (rotr x n))/\w=w':=by
 go_enter Tryz.func124,Tryz.ntmps124
 go_wp2_with (go_at_call 135;refine (rotl_any _ _ _ h hn hn').mono ?_;rintro e w' ⟨rfl,rfl⟩)
 go_ret
 exact ⟨rfl,rfl⟩
theorem z7p (x:Int) (n:Nat) (w:World) (h:W32 x) (hn:1<=n) (hn':n<=31):
  Calls Tryz.prog 119 #[.int .u32 x,.int .u64 n] w fun e w'=>e=.returned (.int .u32 (rotr x n))/\w=w':=by
 obtain ⟨h0,h1⟩:=h
 go_enter Tryz.func119,Tryz.ntmps119
 go_wp2
 go_ret
 exact ⟨rfl,rfl⟩
theorem z0z (x k:Int) (w:World) (h:W32 x) (hn:1<=k) (hn':k<=31):
  Calls Tryz.prog 124 #[.int .u32 x,.int .i64 k] w fun e w'=>e=.returned (.int .u32 (rotr x k))/\w'=w:=by
 obtain ⟨n,rfl⟩:=Int.eq_ofNat_of_zero_le (by omega:0<=k)
 exact (right_any x n w h (by omega) (by omega)).mono fun _ _ ⟨he,hw⟩=>⟨he,hw.symm⟩
theorem z0n (x k:Int) (w:World) (h:W32 x) (hn:1<=k) (hn':k<=31):
  Calls Tryz.prog 119 #[.int .u32 x,.int .u64 k] w fun e w'=>e=.returned (.int .u32 (rotr x k))/\w'=w:=by
 obtain ⟨n,rfl⟩:=Int.eq_ofNat_of_zero_le (by omega:0<=k)
 exact (z7p x n w h (by omega) (by omega)).mono fun _ _ ⟨he,hw⟩=>⟨he,hw.symm⟩
end Go.Proofs.YtjejnlebpcjidaaGreatDoor.Dig
namespace Go.Proofs.YtjejnlebpcjidaaGreatDoor.Dig.Plain
open Go.RowKit
def Byt (B:List Int):Prop:=∀i,0<=B.getD i 0/\B.getD i 0<=255
def Wrd (L:List Int):Prop:=∀i,W32 (L.getD i 0)
def u8s (B:List Int):Array Value:=(B.map (Value.int .u8)).toArray
def u32s (L:List Int):Array Value:=(L.map (Value.int .u32)).toArray
theorem q2b (X Y:List Int) (i:Nat) (h:i<X.length):(X++Y).getD i 0=X.getD i 0:=by
 simp [List.getD,List.getElem?_append_left h]
theorem q4q (X:List Int) (i:Nat) (h:i<X.length):X[i]?=some (X.getD i 0):=by simp [List.getD,h]
def fil (X:List Int) (n:Nat):Array Value:=u32s (X++List.replicate (n-X.length) 0)
theorem z0i (X:List Int) (n:Nat) (h:X.length<=n):(fil X n).size=n:=by simp [fil,u32s];omega
theorem z0h (X:List Int) (n:Nat) (v:Int) (h:X.length<n):(fil X n).setIfInBounds X.length (.int .u32 v)=fil (X++[v]) n:=by
 obtain ⟨m,hm⟩:∃m,n-X.length=m+1:=⟨n-X.length-1,by omega⟩
 have hm':n-(X++[v]).length=m:=by simp;omega
 unfold fil u32s
 rw [hm,hm']
 simp [List.replicate_succ]
theorem fil_get (X:List Int) (n i:Nat) (h:i<X.length):(fil X n)[i]?=some (.int .u32 (X.getD i 0)):=by
 simp only [fil,u32s,List.getElem?_toArray,List.getElem?_map,List.getElem?_append_left h]
 rw [q4q X i h];rfl
theorem q6p (X:List Int) (n:Nat) (h:X.length=n):fil X n=u32s X:=by simp [fil,h]
theorem q4t (X:List Int) (n i:Nat) (h:i<n) (hX:X.length<=n):∃v,(fil X n)[i]?=some v:=by
 have:i<(fil X n).size:=by rw [z0i X n hX];exact h
 exact ⟨_,Array.getElem?_eq_getElem this⟩
def word (B:List Int) (p t:Nat):Int:=B.getD (p+4*t) 0*16777216+B.getD (p+4*t+1) 0*65536+B.getD (p+4*t+2) 0*256+B.getD (p+4*t+3) 0
theorem W32.word (B:List Int) (p t:Nat) (h:Byt B):W32 (word B p t):=by
 unfold Plain.word W32
 have h1:=h (p+4*t)
 have h2:=h (p+4*t+1)
 have h3:=h (p+4*t+2)
 have h4:=h (p+4*t+3)
 omega
theorem or_add (s a b:Nat) (ha:a%2 ^ s=0) (hb:b<2 ^ s) (h1:a<4294967296) (h2:b<4294967296):bits .or .u32 (a:Int) (b:Int)=(a:Int)+(b:Int):=by
 rw [u32_or_nat a b h1 h2,nat_join s a b ha hb];simp
theorem or4 (a b c d:Int) (ha:0<=a/\a<=255) (hb:0<=b/\b<=255) (hc:0<=c/\c<=255) (hd:0<=d/\d<=255):
  bits .or .u32 (bits .or .u32 (bits .or .u32 (a*16777216) (b*65536)) (c*256)) d=a*16777216+b*65536+c*256+d:=by
 obtain ⟨A,rfl⟩:=Int.eq_ofNat_of_zero_le ha.1
 obtain ⟨B,rfl⟩:=Int.eq_ofNat_of_zero_le hb.1
 obtain ⟨C,rfl⟩:=Int.eq_ofNat_of_zero_le hc.1
 obtain ⟨D,rfl⟩:=Int.eq_ofNat_of_zero_le hd.1
 have e1:=or_add 24 (A*16777216) (B*65536) (by omega) (by omega) (by omega) (by omega)
 have e2:=or_add 16 (A*16777216+B*65536) (C*256) (by omega) (by omega) (by omega) (by omega)
 have e3:=or_add 8 (A*16777216+B*65536+C*256) D (by omega) (by omega) (by omega) (by omega)
 simp only [Int.natCast_add,Int.natCast_mul,Int.cast_ofNat_Int] at e1 e2 e3
 rw [e1,e2,e3]
def wl0 (B:List Int) (p:Nat):Nat->List Int
 | 0=>[]
 | k+1=>wl0 B p k++[word B p k]
def sig0 (x:Int):Int:=bits .xor .u32 (bits .xor .u32 (rotr x 7) (rotr x 18)) (x / 8)
def sig1 (x:Int):Int:=bits .xor .u32 (bits .xor .u32 (rotr x 17) (rotr x 19)) (x / 1024)
def nextW (L:List Int) (j:Nat):Int:=(L.getD j 0+sig0 (L.getD (j+1) 0)+L.getD (j+9) 0+sig1 (L.getD (j+14) 0))%4294967296
def wlx (B:List Int) (p:Nat):Nat->List Int
 | 0=>wl0 B p 16
 | j+1=>wlx B p j++[nextW (wlx B p j) j]
def sched (B:List Int) (p:Nat):List Int:=wlx B p 48
theorem q3p (B:List Int) (p k:Nat):(wl0 B p k).length=k:=by
 induction k with
 | zero=>rfl
 | succ k ih=>simp [wl0,ih]
theorem q7q (B:List Int) (p j:Nat):(wlx B p j).length=16+j:=by
 induction j with
 | zero=>simp [wlx,q3p]
 | succ j ih=>simp [wlx,ih];omega
theorem q3x (B:List Int) (p:Nat):(sched B p).length=64:=q7q B p 48
theorem z5x (L:List Int) (v:Int) (h:Wrd L) (hv:W32 v):Wrd (L++[v]):=by
 intro i
 by_cases hi:i<L.length
 ·rw [q2b _ _ _ hi];exact h i
 ·simp only [List.getD,List.getElem?_append_right (Nat.le_of_not_lt hi)]
  by_cases e:i-L.length=0
  ·rw [e];simpa using hv
  ·rw [List.getElem?_eq_none (by simp;omega)];simp [W32]
theorem z4x:Wrd []:=by intro i;simp [W32]
theorem wrd_wl0 (B:List Int) (p k:Nat) (h:Byt B):Wrd (wl0 B p k):=by
 induction k with
 | zero=>exact z4x
 | succ k ih=>exact z5x _ _ ih (W32.word B p k h)
theorem z4d (B:List Int) (p j:Nat) (h:Byt B):Wrd (wlx B p j):=by
 induction j with
 | zero=>exact wrd_wl0 B p 16 h
 | succ j ih=>exact z5x _ _ ih (W32.wrap _)
theorem q6u (B:List Int) (p:Nat) (h:Byt B):Wrd (sched B p):=z4d B p 48 h
theorem wl0_congr (B C:List Int) (p q:Nat) (h:∀i,i<64->B.getD (p+i) 0=C.getD (q+i) 0) (k:Nat) (hk:k<=16):wl0 B p k=wl0 C q k:=by
 induction k with
 | zero=>rfl
 | succ k ih=>
  rw [wl0,wl0,ih (by omega)]
  have h1:=h (4*k) (by omega)
  have h2:=h (4*k+1) (by omega)
  have h3:=h (4*k+2) (by omega)
  have h4:=h (4*k+3) (by omega)
  simp only [<-Nat.add_assoc] at h2 h3 h4
  simp only [word,h1,h2,h3,h4]
theorem q9f (B C:List Int) (p q:Nat) (h:∀i,i<64->B.getD (p+i) 0=C.getD (q+i) 0):sched B p=sched C q:=by
 have key:∀j,wlx B p j=wlx C q j:=by
  intro j
  induction j with
  | zero=>exact wl0_congr B C p q h 16 (by omega)
  | succ j ih=>rw [wlx,wlx,ih]
 exact key 48
theorem q2t (w:World) (g i:Nat) (B:List Int) (t:TypeId) (fr:Nat × Nat) (hg:w.heap[g]?=some (.cells (u8s B) t fr)) (h:i<B.length):w.cell? ⟨g,i,none⟩=some (.int .u8 (B.getD i 0)):=by
 rw [cell_of_row _ _ _ _ _ _ hg];simp [u8s,h]
theorem q4j (w:World) (g i n:Nat) (X:List Int) (t:TypeId) (fr:Nat × Nat) (hg:w.heap[g]?=some (.cells (fil X n) t fr)) (h:i<X.length):w.cell? ⟨g,i,none⟩=some (.int .u32 (X.getD i 0)):=by
 rw [cell_of_row _ _ _ _ _ _ hg];exact fil_get X n i h
theorem q0x (w:World) (g i:Nat) (X:List Int) (t:TypeId) (fr:Nat × Nat) (hg:w.heap[g]?=some (.cells (u32s X) t fr)) (h:i<X.length):w.cell? ⟨g,i,none⟩=some (.int .u32 (X.getD i 0)):=by
 rw [cell_of_row _ _ _ _ _ _ hg];simp [u32s,h]
theorem q8a (w wr:World) (g n S:Nat) (X:List Int) (v:Int) (h:X.length<n) (hS:S<=g) (hg:wr.heap[g]?=some (.cells (fil X n) 202 (0,0))) (hb:Below S w wr):
  (wr.setCell ⟨g,X.length,none⟩ (.int .u32 v)).heap[g]?=some (.cells (fil (X++[v]) n) 202 (0,0))/\Below S w (wr.setCell ⟨g,X.length,none⟩ (.int .u32 v))/\∀j,j≠g->(wr.setCell ⟨g,X.length,none⟩ (.int .u32 v)).heap[j]?=wr.heap[j]?:=by
 refine ⟨?_,⟨hb.os,hb.tape,hb.output,by simpa using hb.size,fun k hk=>?_⟩,fun j hj=>heap_setCell_other wr ⟨g,X.length,none⟩ j _ (fun e=>hj e)⟩
 ·rw [heap_setCell_same wr g X.length _ 202 _ hg,z0h X n v h]
 ·rw [heap_setCell_other wr ⟨g,X.length,none⟩ k _ (fun e=>by simp at e;omega)]
  exact hb.block k hk
theorem q0g {w:World} {o:Obj} {S:Nat} (h:w.heap.size=S):(w.alloc o).heap[S]?=some o:=by rw [<-h];exact heap_alloc_new w o
theorem q0i {w:World} {o x:Obj} {j:Nat} (h:w.heap[j]?=some x):(w.alloc o).heap[j]?=some x:=by
 rw [Below.heap_alloc w o j (gE h)];exact h
end Go.Proofs.YtjejnlebpcjidaaGreatDoor.Dig.Plain
namespace Go.Proofs.YtjejnlebpcjidaaGreatDoor.Dig
open Go.RowKit Go.Proofs.YtjejnlebpcjidaaGreatDoor.Dig.Plain
set_option maxHeartbeats 2000000 in
theorem q5o (B:List Int) (w:World) (hB:B.length=64) (hb:Byt B):
  Calls Tryz.prog 104 #[.agg (u8s B)] w fun e w'=>e=.returned (.agg (u32s (sched B 0)))/\Below w.heap.size w w':=by
 obtain ⟨S,hS⟩:=nm w.heap.size
 have HS:Hid (w.heap.size=S):=hS
 have z64:(fil [] 64)=#[.int .u32 0,.int .u32 0,.int .u32 0,.int .u32 0,.int .u32 0,.int .u32 0,.int .u32 0,.int .u32 0,.int .u32 0,.int .u32 0,.int .u32 0,.int .u32 0,.int .u32 0,.int .u32 0,.int .u32 0,.int .u32 0,.int .u32 0,.int .u32 0,.int .u32 0,.int .u32 0,.int .u32 0,.int .u32 0,.int .u32 0,.int .u32 0,.int .u32 0,.int .u32 0,.int .u32 0,.int .u32 0,.int .u32 0,.int .u32 0,.int .u32 0,.int .u32 0,.int .u32 0,.int .u32 0,.int .u32 0,.int .u32 0,.int .u32 0,.int .u32 0,.int .u32 0,.int .u32 0,.int .u32 0,.int .u32 0,.int .u32 0,.int .u32 0,.int .u32 0,.int .u32 0,.int .u32 0,.int .u32 0,.int .u32 0,.int .u32 0,.int .u32 0,.int .u32 0,.int .u32 0,.int .u32 0,.int .u32 0,.int .u32 0,.int .u32 0,.int .u32 0,.int .u32 0,.int .u32 0,.int .u32 0,.int .u32 0,.int .u32 0,.int .u32 0]:=rfl
 have HZ:Hid _:=z64
 clear z64 hS
 go_enter Tryz.func104,Tryz.ntmps104
 go_wp2
 rw [HS.out]
 go_loopw [4,8] (fun _ i wr=>∃k:Nat,k<=16/\i=.int .i64 k/\wr.heap[S]?=some (.cells (u8s B) 180 (0,0))/\wr.heap[S+1]?=some (.cells (fil [] 64) 202 (0,0))/\wr.heap[S+2]?=some (.cells (fil (wl0 B 0 k) 64) 202 (0,0))/\Below S w wr) (fun _ i _=>16-(intOf i).toNat)
 case atStart=>
  refine ⟨0,by omega,rfl,?_,?_,?_,?_⟩
  ·exact q0i (q0i (q0g HS.out))
  ·rw [HZ.out];exact q0i (q0g (by simp [HS.out]))
  ·rw [wl0,HZ.out];exact q0g (by simp [HS.out])
  ·rw [<-HS.out];exact (((Below.refl _ _).alloc (Nat.le_refl _) _).alloc (by simp) _).alloc (by simp;omega) _
 case round=>
  obtain ⟨k,hk,rfl,hgB,hgR,hgW,hbel⟩:=hrel
  by_cases hlt:k<16
  ·have c1:=q2t wr S (4*k) B _ _ hgB (by omega)
   have c2:=q2t wr S (4*k+1) B _ _ hgB (by omega)
   have c3:=q2t wr S (4*k+2) B _ _ hgB (by omega)
   have c4:=q2t wr S (4*k+3) B _ _ hgB (by omega)
   have b1:=hb (4*k)
   have b2:=hb (4*k+1)
   have b3:=hb (4*k+2)
   have b4:=hb (4*k+3)
   have HW:Hid (word B 0 k=B.getD (4*k) 0*16777216+B.getD (4*k+1) 0*65536+B.getD (4*k+2) 0*256+B.getD (4*k+3) 0):=by
    unfold word;rw [Nat.zero_add];rfl
   generalize B.getD (4*k) 0=z1 at c1 b1 HW
   generalize B.getD (4*k+1) 0=z2 at c2 b2 HW
   generalize B.getD (4*k+2) 0=z3 at c3 b3 HW
   generalize B.getD (4*k+3) 0=z4 at c4 b4 HW
   have HO:Hid (bits .or .u32 (bits .or .u32 (bits .or .u32 (z1*16777216) (z2*65536)) (z3*256)) z4=word B 0 k):=by rw [HW.out];exact or4 z1 z2 z3 z4 b1 b2 b3 b4
   have hf:wr.frozen? ⟨S+2,k,none⟩=false:=frozen_of_row wr _ _ _ 202 hgW
   obtain ⟨v,hcw⟩:∃v,wr.cell? ⟨S+2,k,none⟩=some v:=by
    obtain ⟨v,hv⟩:=q4t (wl0 B 0 k) 64 k (by omega) (by rw [q3p];omega)
    exact ⟨v,by rw [cell_of_row _ _ _ _ _ _ hgW];exact hv⟩
   have hst:=q8a w wr (S+2) 64 S (wl0 B 0 k) (word B 0 k) (by rw [q3p];omega) (by omega) hgW hbel
   rw [q3p] at hst
   have HST:Hid _:=hst
   clear hst
   go_wp2
   go_region
   go_wp2
   go_roundw
   case rel=>
    rw [HO.out]
    obtain ⟨s1,s2,s3⟩:=HST.out
    refine ⟨k+1,by omega,by go_num,?_,?_,?_,?_⟩
    ·exact (s3 S (by omega)).trans hgB
    ·exact (s3 (S+1) (by omega)).trans hgR
    ·exact s1
    ·exact s2.drew
   case measure=>simp [intOf];omega
  ·obtain rfl:k=16:=by omega
   go_wp2
   go_loopw [5] (fun i wr=>∃t j:Nat,Hid (t=16+j/\j<=48)/\i=.int .i64 t/\wr.heap[S+1]?=some (.cells (fil [] 64) 202 (0,0))/\wr.heap[S+2]?=some (.cells (fil (wlx B 0 j) 64) 202 (0,0))/\Below S w wr) (fun i _=>64-(intOf i).toNat)
   case atStart=>exact ⟨16,0,⟨rfl,by omega⟩,rfl,hgR,hgW,hbel⟩
   case round=>
    clear hgB hgR hgW hbel
    obtain ⟨t,j,HT,rfl,hgR,hgW,hbel⟩:=hrel
    by_cases hlt:t<64
    ·obtain ⟨ht,hj⟩:=HT.out
     have hln:=q7q B 0 j
     have hwd:=z4d B 0 j hb
     obtain ⟨z1,Z1⟩:∃z,Hid ((wlx B 0 j).getD j 0=z):=⟨_,rfl⟩
     obtain ⟨z2,Z2⟩:∃z,Hid ((wlx B 0 j).getD (j+1) 0=z):=⟨_,rfl⟩
     obtain ⟨z3,Z3⟩:∃z,Hid ((wlx B 0 j).getD (j+9) 0=z):=⟨_,rfl⟩
     obtain ⟨z4,Z4⟩:∃z,Hid ((wlx B 0 j).getD (j+14) 0=z):=⟨_,rfl⟩
     have b1:W32 z1:=by rw [<-Z1.out];exact hwd j
     have b2:W32 z2:=by rw [<-Z2.out];exact hwd (j+1)
     have b3:W32 z3:=by rw [<-Z3.out];exact hwd (j+9)
     have b4:W32 z4:=by rw [<-Z4.out];exact hwd (j+14)
     have C1:Hid (∀x:World,x.heap[S+2]?=some (.cells (fil (wlx B 0 j) 64) 202 (0,0))->x.cell? ⟨S+2,j,none⟩=some (.int .u32 z1)):=fun x hx=>by rw [<-Z1.out];exact q4j x _ _ 64 _ _ _ hx (by omega)
     have C2:Hid (∀x:World,x.heap[S+2]?=some (.cells (fil (wlx B 0 j) 64) 202 (0,0))->x.cell? ⟨S+2,j+1,none⟩=some (.int .u32 z2)):=fun x hx=>by rw [<-Z2.out];exact q4j x _ _ 64 _ _ _ hx (by omega)
     have C3:Hid (∀x:World,x.heap[S+2]?=some (.cells (fil (wlx B 0 j) 64) 202 (0,0))->x.cell? ⟨S+2,j+9,none⟩=some (.int .u32 z3)):=fun x hx=>by rw [<-Z3.out];exact q4j x _ _ 64 _ _ _ hx (by omega)
     have C4:Hid (∀x:World,x.heap[S+2]?=some (.cells (fil (wlx B 0 j) 64) 202 (0,0))->x.cell? ⟨S+2,j+14,none⟩=some (.int .u32 z4)):=fun x hx=>by rw [<-Z4.out];exact q4j x _ _ 64 _ _ _ hx (by omega)
     have HW:Hid (nextW (wlx B 0 j) j=(z1+sig0 z2+z3+sig1 z4)%4294967296):=by rw [<-Z1.out,<-Z2.out,<-Z3.out,<-Z4.out];rfl
     have e16:(t:Int)-16=(j:Int):=by omega
     have e15:(t:Int)-15=((j+1:Nat):Int):=by omega
     have e7:(t:Int)-7=((j+9:Nat):Int):=by omega
     have e2:(t:Int)-2=((j+14:Nat):Int):=by omega
     have i16:j<64:=by omega
     have i15:j+1<64:=by omega
     have i7:j+9<64:=by omega
     have i2:j+14<64:=by omega
     have HV:Hid (∀x:World,x.heap[S+2]?=some (.cells (fil (wlx B 0 j) 64) 202 (0,0))->∃v,x.cell? ⟨S+2,t,none⟩=some v):=by
      intro x hx
      obtain ⟨v,hv⟩:=q4t (wlx B 0 j) 64 t (by omega) (by omega)
      exact ⟨v,by rw [cell_of_row _ _ _ _ _ _ hx];exact hv⟩
     have HST:Hid (∀x:World,x.heap[S+2]?=some (.cells (fil (wlx B 0 j) 64) 202 (0,0))->Below S w x->(x.setCell ⟨S+2,t,none⟩ (.int .u32 (nextW (wlx B 0 j) j))).heap[S+2]?=some (.cells (fil (wlx B 0 (j+1)) 64) 202 (0,0))/\Below S w (x.setCell ⟨S+2,t,none⟩ (.int .u32 (nextW (wlx B 0 j) j)))/\∀q,q≠S+2->(x.setCell ⟨S+2,t,none⟩ (.int .u32 (nextW (wlx B 0 j) j))).heap[q]?=x.heap[q]?):=by
      intro x hx hbx
      have:=q8a w x (S+2) 64 S (wlx B 0 j) (nextW (wlx B 0 j) j) (by omega) (by omega) hx hbx
      rwa [hln,<-ht] at this
     generalize j+1=m1 at C2 e15 i15
     generalize j+9=m9 at C3 e7 i7
     generalize j+14=m14 at C4 e2 i2
     obtain ⟨p1,q1⟩:=b1
     obtain ⟨p3,q3⟩:=b3
     clear hwd hln hj ht Z1 Z2 Z3 Z4
     have c2:=C2.out wr hgW
     go_wp2
     go_quiet ((go_at_call 124;exact Calls.quiet_of_same (z0z _ _ _ (by assumption) (by decide) (by decide))))
     have R2:(wr.drewN nq).heap[S+1]?=_:=hgR
     have W2:(wr.drewN nq).heap[S+2]?=_:=hgW
     have B2:Below S w (wr.drewN nq):=⟨hbel.os,hbel.tape,hbel.output,hbel.size,hbel.block⟩
     clear hgR hgW hbel c2 C2
     generalize wr.drewN nq=x2 at R2 W2 B2 ⊢
     have c4:=C4.out x2 W2
     clear nq wr
     go_wp2
     go_quiet ((go_at_call 124;exact Calls.quiet_of_same (z0z _ _ _ (by assumption) (by decide) (by decide))))
     have R3:(x2.drewN nq).heap[S+1]?=_:=R2
     have W3:(x2.drewN nq).heap[S+2]?=_:=W2
     have B3:Below S w (x2.drewN nq):=⟨B2.os,B2.tape,B2.output,B2.size,B2.block⟩
     clear R2 W2 B2 c4 C4
     generalize x2.drewN nq=x3 at R3 W3 B3 ⊢
     have c1:=C1.out x3 W3
     have c3:=C3.out x3 W3
     clear nq x2
     have hf:x3.frozen? ⟨S+2,t,none⟩=false:=frozen_of_row x3 _ _ _ 202 W3
     obtain ⟨v,hcw⟩:=HV.out x3 W3
     have HS3:Hid _:=HST.out x3 W3 B3
     go_wp2
     go_region
     go_wp2
     go_roundw
     case rel=>
      obtain ⟨s1,s2,s3⟩:=HS3.out
      have HE:(z1+bits BinOp.xor IntKind.u32 (bits BinOp.xor IntKind.u32 (rotr z2 7) (rotr z2 18)) (z2 / 8)+z3+bits BinOp.xor IntKind.u32 (bits BinOp.xor IntKind.u32 (rotr z4 17) (rotr z4 19)) (z4 / 1024))%4294967296=nextW (wlx B 0 j) j:=HW.out.symm
      rw [HE]
      obtain ⟨ht,hj⟩:=HT.out
      refine ⟨t+1,j+1,⟨by omega,by omega⟩,by go_num,?_,?_,?_⟩
      ·exact (s3 (S+1) (by omega)).trans R3
      ·exact s1
      ·exact s2.drew
     case measure=>simp [intOf];omega
    ·obtain ⟨ht,hj⟩:=HT.out
     obtain rfl:t=64:=by omega
     obtain rfl:j=48:=by omega
     have hln:=q3x B 0
     have hgW':wr.heap[S+2]?=some (.cells (u32s (sched B 0)) 202 (0,0)):=by rw [<-q6p (sched B 0) 64 hln];exact hgW
     have hsz:(u32s (sched B 0)).size=64:=by simp [u32s,hln]
     have hall:(u32s (sched B 0)).all (·.oneCell')=true:=by simp [u32s,Value.oneCell']
     clear hgW ht hj HT hln
     obtain ⟨X,HX⟩:∃X,Hid (sched B 0=X):=⟨_,rfl⟩
     rw [HX.out] at hgW' hsz hall
     have HF:Hid _:=And.intro hsz (And.intro hall (And.intro hgW' (And.intro hgR hbel)))
     clear hsz hall hgW' hgR hbel
     go_wp2_with (first | (refine wpList_load_row rfl 202 _ rfl (S+2) rfl 202 (u32s X) (0,0) _ HF.out.2.2.1 Tryz.underlying202 rfl (by rw [HF.out.1];kernel_rfl) ?_) | (refine wpList_store_row rfl 202 _ _ rfl (S+1) (u32s X) rfl rfl 202 (fil [] 64) HF.out.2.2.2.1 (by rw [HF.out.1];kernel_rfl) (by rw [HF.out.1];rfl) HF.out.2.1 ?_))
     (try simp only [Exit.inBlock,Exit.then])
     refine bodyPost_ret (results_cell_row (p:=2) (ty:=202) rfl _ _ (S+1) 202 (u32s X) (0,0) _ rfl (setRow_heap _ _ _ _ _ _ HF.out.2.2.2.1) Tryz.underlying202 rfl (by rw [HF.out.1];kernel_rfl)) rfl ?_
     exact ⟨by rw [HX.out],by rw [HS.out];exact below_setRow HF.out.2.2.2.2 (by omega) _⟩
end Go.Proofs.YtjejnlebpcjidaaGreatDoor.Dig
namespace Go.Proofs.YtjejnlebpcjidaaGreatDoor.Dig.Plain
open Go.RowKit
def hh:List Int:=[1779033703,3144134277,1013904242,2773480762,1359893119,2600822924,528734635,1541459225]
def kk:List Int:=[1116352408,1899447441,3049323471,3921009573,961987163,1508970993,2453635748,2870763221,3624381080,310598401,607225278,1426881987,1925078388,2162078206,2614888103,3248222580,3835390401,4022224774,264347078,604807628,770255983,1249150122,1555081692,1996064986,2554220882,2821834349,2952996808,3210313671,3336571891,3584528711,113926993,338241895,666307205,773529912,1294757372,1396182291,1695183700,1986661051,2177026350,2456956037,2730485921,2820302411,3259730800,3345764771,3516065817,3600352804,4094571909,275423344,430227734,506948616,659060556,883997877,958139571,1322822218,1537002063,1747873779,1955562222,2024104815,2227730452,2361852424,2428436474,2756734187,3204031479,3329325298]
structure St where
 a:Int
 b:Int
 c:Int
 d:Int
 e:Int
 f:Int
 g:Int
 h:Int
def St.list (s:St):List Int:=[s.a,s.b,s.c,s.d,s.e,s.f,s.g,s.h]
def St.of (L:List Int):St:=⟨L.getD 0 0,L.getD 1 0,L.getD 2 0,L.getD 3 0,L.getD 4 0,L.getD 5 0,L.getD 6 0,L.getD 7 0⟩
def St.OK (s:St):Prop:=W32 s.a/\W32 s.b/\W32 s.c/\W32 s.d/\W32 s.e/\W32 s.f/\W32 s.g/\W32 s.h
def ep1 (e:Int):Int:=bits .xor .u32 (bits .xor .u32 (rotr e 6) (rotr e 11)) (rotr e 25)
def ep0 (a:Int):Int:=bits .xor .u32 (bits .xor .u32 (rotr a 2) (rotr a 13)) (rotr a 22)
def cho (e f g:Int):Int:=bits .xor .u32 (bits .and .u32 e f) (bits .and .u32 (bits .xor .u32 (if IntKind.u32.signed=true then -1 else IntKind.u32.max) e) g)
def maj (a b c:Int):Int:=bits .xor .u32 (bits .xor .u32 (bits .and .u32 a b) (bits .and .u32 a c)) (bits .and .u32 b c)
def one (s:St) (k w:Int):Int:=(s.h+ep1 s.e+cho s.e s.f s.g+k+w)%4294967296
def two (s:St):Int:=(ep0 s.a+maj s.a s.b s.c)%4294967296
def stepSt (s:St) (k w:Int):St:=⟨(one s k w+two s)%4294967296,s.a,s.b,s.c,(s.d+one s k w)%4294967296,s.e,s.f,s.g⟩
def rnd (W:List Int) (s:St):Nat->St
 | 0=>s
 | k+1=>stepSt (rnd W s k) (kk.getD k 0) (W.getD k 0)
theorem St.OK.step {s:St} (h:s.OK) (k w:Int):(stepSt s k w).OK:=by
 obtain ⟨ha,hb,hc,hd,he,hf,hg,hh⟩:=h
 exact ⟨W32.wrap _,ha,hb,hc,W32.wrap _,he,hf,hg⟩
theorem rnd_ok (W:List Int) (s:St) (h:s.OK) (k:Nat):(rnd W s k).OK:=by
 induction k with
 | zero=>exact h
 | succ k ih=>exact ih.step _ _
theorem St.z7w {L:List Int} (h:Wrd L):(St.of L).OK:=⟨h 0,h 1,h 2,h 3,h 4,h 5,h 6,h 7⟩
theorem wrd_kk:Wrd kk:=by
 intro i
 by_cases h:i<64
 ·have key:∀j:Fin 64,0<=kk.getD j.val 0/\kk.getD j.val 0<4294967296:=by decide +kernel
  exact key ⟨i,h⟩
 ·have e:kk.getD i 0=0:=by
   simp only [List.getD]
   rw [List.getElem?_eq_none (by show 64<=i;omega)];rfl
  rw [e];simp [W32]
def mz (H X:List Int):Nat->List Int
 | 0=>H
 | k+1=>(mz H X k).set k ((H.getD k 0+X.getD k 0)%4294967296)
def mix (H W:List Int):List Int:=mz H (rnd W (St.of H) 64).list 8
theorem q7d (H X:List Int) (k:Nat):(mz H X k).length=H.length:=by
 induction k with
 | zero=>rfl
 | succ k ih=>simp [mz,ih]
theorem q5w (H W:List Int):(mix H W).length=H.length:=q7d _ _ _
theorem mz_far (H X:List Int) (k i:Nat) (h:k<=i):(mz H X k).getD i 0=H.getD i 0:=by
 induction k with
 | zero=>rfl
 | succ k ih=>
  rw [mz]
  simp only [List.getD]
  rw [List.getElem?_set_ne (by omega)]
  exact ih (by omega)
theorem q9a (L:List Int) (k:Nat) (v:Int) (h:Wrd L) (hv:W32 v):Wrd (L.set k v):=by
 intro i
 simp only [List.getD]
 rw [List.getElem?_set]
 split
 ·split
  ·exact hv
  ·simp [W32]
 ·exact h i
theorem wrd_mz (H X:List Int) (k:Nat) (h:Wrd H):Wrd (mz H X k):=by
 induction k with
 | zero=>exact h
 | succ k ih=>exact q9a _ _ _ ih (W32.wrap _)
theorem wrd_mix (H W:List Int) (h:Wrd H):Wrd (mix H W):=wrd_mz _ _ _ h
theorem q8f (L:List Int) (k:Nat) (v:Int):(u32s L).setIfInBounds k (.int .u32 v)=u32s (L.set k v):=by simp [u32s,List.map_set]
theorem q1q (L:List Int):(u32s L).size=L.length:=by simp [u32s]
theorem q2l (L:List Int):(u32s L).all (·.oneCell')=true:=by simp [u32s,Value.oneCell']
theorem q0h (L:List Int):(u8s L).size=L.length:=by simp [u8s]
theorem q1r (L:List Int):(u8s L).all (·.oneCell')=true:=by simp [u8s,Value.oneCell']
theorem q4v {P:Program} {t el:TypeId} {n:Nat} {d:TypeDesc} {cs:Array Value} {v:Value} (hu:P.underlying t=some (.array n el)) (he:P.underlying el=some d) (hd:d.isRow=false) (hs:(P.info? el).map (·.size)=some 1) (k:Nat) (hk:k<n) (hv:cs[k]?=some v) (w:World):
  (Instr.index t (.agg cs) (.int .i64 k)).run P w=.ok v w:=by
 cases hq:P.info? el with
 | none=>simp [hq] at hs
 | some i=>
  have hs1:i.size=1:=by simpa [hq] using hs
  have hagg:(isAgg el).run P w=.ok false w:=by
   unfold isAgg
   rw [Sem.run_bind,run_underlying he w]
   cases d<;>simp_all [TypeDesc.isRow]
  have hc:(0:Int)<=(k:Int)/\(k:Int)<(n:Int):=by omega
  simp [Instr.index,asIntOf,Sem.run_bind,run_underlying hu,hc,sizeOf,typeInfo,hq,hs1,part,hagg,hv]
  intro hc2;omega
end Go.Proofs.YtjejnlebpcjidaaGreatDoor.Dig.Plain
namespace Go.Proofs.YtjejnlebpcjidaaGreatDoor.Dig
open Go.RowKit Go.Proofs.YtjejnlebpcjidaaGreatDoor.Dig.Plain
def Tabs (w:World):Prop:=2<=w.heap.size/\(∀i,i<8->w.cell? ⟨0,i,none⟩=some (.int .u32 (hh.getD i 0)))/\∀i,i<64->w.cell? ⟨1,i,none⟩=some (.int .u32 (kk.getD i 0))
theorem Tabs.below {w w':World} (h:Tabs w) (hb:Below w.heap.size w w'):Tabs w':=by
 have h2:=h.1
 exact ⟨Nat.le_trans h.1 hb.size,fun i hi=>(hb.cell (by show 0<_;omega)).trans (h.2.1 i hi),fun i hi=>(hb.cell (by show 1<_;omega)).trans (h.2.2 i hi)⟩
theorem index43 (X:List Int) (hX:X.length=8) (k:Nat) (hk:k<8) (w:World):(Instr.index 179 (.agg (u32s X)) (.int .i64 k)).run Tryz.prog w=.ok (.int .u32 (X.getD k 0)) w:=
 q4v Tryz.underlying179 Tryz.underlying76 rfl (by kernel_rfl) k hk (by simp [u32s,hX,hk]) w
set_option maxRecDepth 20000 in
set_option maxHeartbeats 2000000 in
theorem q5m (H W:List Int) (w:World) (hH:H.length=8) (hW:W.length=64) (hHw:Wrd H) (hWw:Wrd W) (hT:Tabs w):
  Calls Tryz.prog 103 #[.agg (u32s H),.agg (u32s W)] w fun e w'=>e=.returned (.agg (u32s (mix H W)))/\Below w.heap.size w w':=by
 obtain ⟨S,hS⟩:=nm w.heap.size
 have HS:Hid (w.heap.size=S):=hS
 clear hS
 have h2:2<=S:=by rw [<-HS.out];exact hT.1
 have HT:Hid (∀wr,Below S w wr->Tabs wr):=fun wr hb=>hT.below (by rw [HS.out];exact hb)
 clear hT
 go_enter Tryz.func103,Tryz.ntmps103
 go_wp2
 rw [HS.out]
 obtain ⟨x0,hx0⟩:∃x0,x0=((w.alloc (Obj.cells (u32s H) 179)).alloc (Obj.cells (u32s W) 202)).alloc (Obj.cells (fil [] 8) 179):=⟨_,rfl⟩
 have hz8:fil [] 8=#[.int .u32 0,.int .u32 0,.int .u32 0,.int .u32 0,.int .u32 0,.int .u32 0,.int .u32 0,.int .u32 0]:=rfl
 rw [hz8] at hx0
 have gH:x0.heap[S]?=some (.cells (u32s H) 179 (0,0)):=by rw [hx0];exact q0i (q0i (q0g HS.out))
 have gW:x0.heap[S+1]?=some (.cells (u32s W) 202 (0,0)):=by rw [hx0];exact q0i (q0g (by simp [HS.out]))
 have gR:x0.heap[S+2]?=some (.cells (fil [] 8) 179 (0,0)):=by rw [hx0];exact q0g (by simp [HS.out])
 have gB:Below S w x0:=by rw [hx0,<-HS.out];exact (((Below.refl _ _).alloc (Nat.le_refl _) _).alloc (by simp) _).alloc (by simp;omega) _
 rw [<-hx0]
 clear hx0 hz8
 obtain ⟨y0,Y0⟩:∃z,Hid (H.getD 0 0=z):=⟨_,rfl⟩
 obtain ⟨y1,Y1⟩:∃z,Hid (H.getD 1 0=z):=⟨_,rfl⟩
 obtain ⟨y2,Y2⟩:∃z,Hid (H.getD 2 0=z):=⟨_,rfl⟩
 obtain ⟨y3,Y3⟩:∃z,Hid (H.getD 3 0=z):=⟨_,rfl⟩
 obtain ⟨y4,Y4⟩:∃z,Hid (H.getD 4 0=z):=⟨_,rfl⟩
 obtain ⟨y5,Y5⟩:∃z,Hid (H.getD 5 0=z):=⟨_,rfl⟩
 obtain ⟨y6,Y6⟩:∃z,Hid (H.getD 6 0=z):=⟨_,rfl⟩
 obtain ⟨y7,Y7⟩:∃z,Hid (H.getD 7 0=z):=⟨_,rfl⟩
 have c0:=q0x x0 S 0 H _ _ gH (by omega)
 rw [Y0.out] at c0
 have c1:=q0x x0 S 1 H _ _ gH (by omega)
 rw [Y1.out] at c1
 have c2:=q0x x0 S 2 H _ _ gH (by omega)
 rw [Y2.out] at c2
 have c3:=q0x x0 S 3 H _ _ gH (by omega)
 rw [Y3.out] at c3
 have c4:=q0x x0 S 4 H _ _ gH (by omega)
 rw [Y4.out] at c4
 have c5:=q0x x0 S 5 H _ _ gH (by omega)
 rw [Y5.out] at c5
 have c6:=q0x x0 S 6 H _ _ gH (by omega)
 rw [Y6.out] at c6
 have c7:=q0x x0 S 7 H _ _ gH (by omega)
 rw [Y7.out] at c7
 have HY:Hid ((⟨y0,y1,y2,y3,y4,y5,y6,y7⟩:St)=rnd W (St.of H) 0):=by rw [<-Y0.out,<-Y1.out,<-Y2.out,<-Y3.out,<-Y4.out,<-Y5.out,<-Y6.out,<-Y7.out];rfl
 go_quiet (fail)
 have gH1:(x0.drewN nq).heap[S]?=_:=gH
 have gW1:(x0.drewN nq).heap[S+1]?=_:=gW
 have gR1:(x0.drewN nq).heap[S+2]?=_:=gR
 have gB1:Below S w (x0.drewN nq):=⟨gB.os,gB.tape,gB.output,gB.size,gB.block⟩
 clear gH gW gR gB c0 c1 c2 c3 c4 c5 c6 c7
 generalize x0.drewN nq=x1 at gH1 gW1 gR1 gB1 ⊢
 clear nq x0
 have c4:=q0x x1 S 4 H _ _ gH1 (by omega)
 rw [Y4.out] at c4
 have c5:=q0x x1 S 5 H _ _ gH1 (by omega)
 rw [Y5.out] at c5
 have c6:=q0x x1 S 6 H _ _ gH1 (by omega)
 rw [Y6.out] at c6
 have c7:=q0x x1 S 7 H _ _ gH1 (by omega)
 rw [Y7.out] at c7
 go_wp2
 go_quiet (fail)
 have HG:Hid ((x1.drewN nq).heap[S]?=_/\(x1.drewN nq).heap[S+1]?=_/\(x1.drewN nq).heap[S+2]?=_/\Below S w (x1.drewN nq)):=⟨gH1,gW1,gR1,gB1.os,gB1.tape,gB1.output,gB1.size,gB1.block⟩
 clear gH1 gW1 gR1 gB1 c4 c5 c6 c7
 generalize x1.drewN nq=x2 at HG ⊢
 clear nq x1
 go_wp2
 go_loopw [5,6,7,8,9,10,11,12,34] (fun va vb vc vd ve vf vg vh i wr=>∃(k:Nat) (a b c d e f g h:Int),Hid (k<=64/\(⟨a,b,c,d,e,f,g,h⟩:St)=rnd W (St.of H) k)/\i=.int .i64 k/\va=.int .u32 a/\vb=.int .u32 b/\vc=.int .u32 c/\vd=.int .u32 d/\ve=.int .u32 e/\vf=.int .u32 f/\vg=.int .u32 g/\vh=.int .u32 h/\wr.heap[S]?=some (.cells (u32s H) 179 (0,0))/\wr.heap[S+1]?=some (.cells (u32s W) 202 (0,0))/\wr.heap[S+2]?=some (.cells (fil [] 8) 179 (0,0))/\Below S w wr) (fun _ _ _ _ _ _ _ _ i _=>64-(intOf i).toNat)
 case atStart=>exact ⟨0,_,_,_,_,_,_,_,_,⟨by omega,HY.out⟩,rfl,rfl,rfl,rfl,rfl,rfl,rfl,rfl,rfl,HG.out⟩
 case round=>
  clear HG HY Y0 Y1 Y2 Y3 Y4 Y5 Y6 Y7
  obtain ⟨k,a,b,c,d,e,f,g,h,HK,rfl,rfl,rfl,rfl,rfl,rfl,rfl,rfl,rfl,gH,gW,gR,gB⟩:=hrel
  have hok:(⟨a,b,c,d,e,f,g,h⟩:St).OK:=by rw [HK.out.2];exact rnd_ok W _ (St.z7w hHw) k
  by_cases hlt:k<64
  ·obtain ⟨ba,bb,bc,bd,be,bf,bg,bh⟩:=hok
   have cW:=q0x wr (S+1) k W _ _ gW (by omega)
   have cK:=(HT.out wr gB).2.2 k hlt
   have bW:=hWw k
   have bK:=wrd_kk k
   obtain ⟨wk,HWk⟩:∃z,Hid (W.getD k 0=z):=⟨_,rfl⟩
   obtain ⟨kc,HKc⟩:∃z,Hid (kk.getD k 0=z):=⟨_,rfl⟩
   rw [HWk.out] at cW bW
   rw [HKc.out] at cK bK
   have HN:Hid (stepSt ⟨a,b,c,d,e,f,g,h⟩ kc wk=rnd W (St.of H) (k+1)):=by rw [rnd,<-HK.out.2,HWk.out,HKc.out];rfl
   change W32 a at ba
   change W32 b at bb
   change W32 c at bc
   change W32 d at bd
   change W32 e at be
   change W32 f at bf
   change W32 g at bg
   change W32 h at bh
   go_wp2
   go_quiet ((go_at_call 124;exact Calls.quiet_of_same (z0z _ _ _ (by assumption) (by decide) (by decide))))
   have R2:(wr.drewN nq).heap[S]?=_:=gH
   have W2:(wr.drewN nq).heap[S+1]?=_:=gW
   have Z2:(wr.drewN nq).heap[S+2]?=_:=gR
   have B2:Below S w (wr.drewN nq):=⟨gB.os,gB.tape,gB.output,gB.size,gB.block⟩
   clear gH gW gR gB cW cK
   generalize wr.drewN nq=x2 at R2 W2 Z2 B2 ⊢
   clear nq wr
   go_wp2_with (go_at_call 124;refine (z0z _ _ _ (by assumption) (by decide) (by decide)).mono ?_;rintro e w' ⟨rfl,rfl⟩)
   go_roundw
   case rel=>
    exact ⟨k+1,(stepSt ⟨a,b,c,d,e,f,g,h⟩ kc wk).a,_,_,_,(stepSt ⟨a,b,c,d,e,f,g,h⟩ kc wk).e,_,_,_,⟨by omega,HN.out⟩,by go_num,rfl,rfl,rfl,rfl,rfl,rfl,rfl,rfl,R2,W2,Z2,B2⟩
   case measure=>simp [intOf];omega
  ·obtain ⟨hk,hs⟩:=HK.out
   obtain rfl:k=64:=by omega
   obtain ⟨X,HX⟩:∃X,Hid ([a,b,c,d,e,f,g,h]=X):=⟨_,rfl⟩
   have hXl:X.length=8:=by rw [<-HX.out];rfl
   have HXa:Hid (#[Value.int .u32 a,.int .u32 b,.int .u32 c,.int .u32 d,.int .u32 e,.int .u32 f,.int .u32 g,.int .u32 h]=u32s X):=by rw [<-HX.out];rfl
   have HM:Hid (mz H X 8=mix H W):=by rw [<-HX.out];unfold mix;rw [<-hs];rfl
   have HXb:Hid (W32 a/\W32 b):=⟨hok.1,hok.2.1⟩
   clear hok hs hk HK hlt
   go_wp2
   rw [HXa.out]
   go_loopw [106] (fun i wr=>∃k:Nat,k<=8/\i=.int .i64 k/\wr.heap[S]?=some (.cells (u32s (mz H X k)) 179 (0,0))/\wr.heap[S+2]?=some (.cells (fil [] 8) 179 (0,0))/\Below S w wr) (fun i _=>8-(intOf i).toNat)
   case atStart=>exact ⟨0,by omega,rfl,gH,gR,gB⟩
   case round=>
    clear gH gW gR gB HXa HX
    obtain ⟨k,hk,rfl,gH,gR,gB⟩:=hrel
    by_cases hlt:k<8
    ·have hidx:=fun wx=>index43 X hXl k hlt wx
     have hc:=q0x wr S k (mz H X k) _ _ gH (by rw [q7d];omega)
     rw [mz_far H X k k (Nat.le_refl _)] at hc
     have hf:wr.frozen? ⟨S,k,none⟩=false:=frozen_of_row wr _ _ _ 179 gH
     have hb:=hHw k
     have HST:Hid ((wr.setCell ⟨S,k,none⟩ (.int .u32 ((H.getD k 0+X.getD k 0)%4294967296))).heap[S]?=some (.cells (u32s (mz H X (k+1))) 179 (0,0))/\Below S w (wr.setCell ⟨S,k,none⟩ (.int .u32 ((H.getD k 0+X.getD k 0)%4294967296)))/\(wr.setCell ⟨S,k,none⟩ (.int .u32 ((H.getD k 0+X.getD k 0)%4294967296))).heap[S+2]?=wr.heap[S+2]?):=by
      refine ⟨?_,⟨gB.os,gB.tape,gB.output,by simpa using gB.size,fun q hq=>?_⟩,heap_setCell_other wr ⟨S,k,none⟩ _ _ (fun e=>by simp at e)⟩
      ·rw [heap_setCell_same wr S k _ 179 _ gH,q8f,mz]
      ·rw [heap_setCell_other wr ⟨S,k,none⟩ q _ (fun e=>by simp at e;omega)]
       exact gB.block q hq
     generalize H.getD k 0=z1 at hc hb HST
     generalize X.getD k 0=z2 at hidx HST
     go_wp2
     go_roundw
     case rel=>
      obtain ⟨s1,s2,s3⟩:=HST.out
      exact ⟨k+1,by omega,by go_num,s1,s3.trans gR,s2⟩
     case measure=>simp [intOf];omega
    ·obtain rfl:k=8:=by omega
     rw [HM.out] at gH
     have hsz:(u32s (mix H W)).size=8:=by rw [q1q,q5w];exact hH
     have hall:=q2l (mix H W)
     obtain ⟨Y,HY⟩:∃Y,Hid (mix H W=Y):=⟨_,rfl⟩
     rw [HY.out] at gH hsz hall
     have HF:Hid _:=And.intro hsz (And.intro hall (And.intro gH (And.intro gR gB)))
     clear hsz hall gH gR gB
     go_wp2_with (first | (refine wpList_load_row rfl 179 _ rfl S rfl 179 (u32s Y) (0,0) _ HF.out.2.2.1 Tryz.underlying179 rfl (by rw [HF.out.1];kernel_rfl) ?_) | (refine wpList_store_row rfl 179 _ _ rfl (S+2) (u32s Y) rfl rfl 179 (fil [] 8) HF.out.2.2.2.1 (by rw [HF.out.1];kernel_rfl) (by rw [HF.out.1];rfl) HF.out.2.1 ?_))
     (try simp only [Exit.inBlock,Exit.then])
     refine bodyPost_ret (results_cell_row (p:=4) (ty:=179) rfl _ _ (S+2) 179 (u32s Y) (0,0) _ rfl (setRow_heap _ _ _ _ _ _ HF.out.2.2.2.1) Tryz.underlying179 rfl (by rw [HF.out.1];kernel_rfl)) rfl ?_
     exact ⟨by rw [HY.out],by rw [HS.out];exact below_setRow HF.out.2.2.2.2 (by omega) _⟩
end Go.Proofs.YtjejnlebpcjidaaGreatDoor.Dig
namespace Go.Proofs.YtjejnlebpcjidaaGreatDoor.Dig.Plain
open Go.RowKit
def Bytes (w:World) (a:Option Addr) (len:Nat) (L:List Int):Prop:=
 L.length=len/\Byt L/\(0<len->∃b off,a=some ⟨b,off,none⟩/\b<w.heap.size/\∀i,i<len->w.cell? ⟨b,off+i,none⟩=some (.int .u8 (L.getD i 0)))
theorem Bytes.below {w w':World} {a:Option Addr} {len:Nat} {L:List Int} (h:Bytes w a len L) (hb:Below w.heap.size w w'):Bytes w' a len L:=by
 refine ⟨h.1,h.2.1,fun hp=>?_⟩
 obtain ⟨b,off,e,hlt,hc⟩:=h.2.2 hp
 exact ⟨b,off,e,Nat.lt_of_lt_of_le hlt hb.size,fun i hi=>(hb.cell hlt).trans (hc i hi)⟩
structure But (G:Nat) (w w':World):Prop where
 os:w'.os=w.os
 tape:w'.tape=w.tape
 output:w'.output=w.output
 size:w.heap.size<=w'.heap.size
 block:∀k,k<w.heap.size->k≠G->w'.heap[k]?=w.heap[k]?
theorem But.refl (G:Nat) (w:World):But G w w:=⟨rfl,rfl,rfl,Nat.le_refl _,fun _ _ _=>rfl⟩
theorem But.trans {G:Nat} {a b c:World} (h:But G a b) (k:But G b c):But G a c:=
 ⟨k.os.trans h.os,k.tape.trans h.tape,k.output.trans h.output,Nat.le_trans h.size k.size,fun i hi hn=>(k.block i (Nat.lt_of_lt_of_le hi h.size) hn).trans (h.block i hi hn)⟩
theorem But.of_below {G:Nat} {w w':World} (h:Below w.heap.size w w'):But G w w':=⟨h.os,h.tape,h.output,h.size,fun k hk _=>h.block k hk⟩
theorem But.drew {G:Nat} {w w':World} (h:But G w w'):But G w w'.drew:=⟨h.os,h.tape,h.output,h.size,h.block⟩
theorem But.setCell {G:Nat} {w w':World} (h:But G w w') (o:Nat) (v:Value):But G w (w'.setCell ⟨G,o,none⟩ v):=
 ⟨h.os,h.tape,h.output,by simpa using h.size,fun k hk hn=>by rw [heap_setCell_other w' ⟨G,o,none⟩ k _ (fun e=>hn e)];exact h.block k hk hn⟩
theorem But.setRow {G:Nat} {w w':World} (h:But G w w') (cs:Array Value):But G w (w'.setRow G cs):=
 ⟨h.os,h.tape,h.output,by simpa [World.setRow] using h.size,fun k hk hn=>by rw [setRow_other w' G k cs hn];exact h.block k hk hn⟩
theorem But.setCells {G:Nat}:∀(cs:List Value) (o:Nat) {w w':World},But G w w'->But G w (w'.setCells G o cs)
 | [],_,_,_,h=>h
 | v::r,o,_,_,h=>But.setCells r (o+1) (h.setCell o v)
theorem But.cell {G:Nat} {w w':World} (h:But G w w') {b off:Nat} (hb:b<w.heap.size) (hn:b≠G):w'.cell? ⟨b,off,none⟩=w.cell? ⟨b,off,none⟩:=by
 simp [World.cell?,h.block b hb hn]
theorem But.below {G B:Nat} {w w':World} (h:But G w w') (hB:B<=G) (hB2:B<=w.heap.size):Below B w w':=⟨h.os,h.tape,h.output,h.size,fun k hk=>h.block k (by omega) (by omega)⟩
theorem q1h (g:Nat) (t:TypeId):∀(cs:List Value) (o:Nat) (cur:List Value) (w:World),w.heap[g]?=some (.cells cur.toArray t (0,0))->o+cs.length<=cur.length->
  (w.setCells g o cs).heap[g]?=some (.cells (splice cur o cs).toArray t (0,0))
 | [],o,cur,w,h,_=>by simpa [World.setCells,splice] using h
 | v::r,o,cur,w,h,hl=>by
  rw [World.setCells]
  have h1:(w.setCell ⟨g,o,none⟩ v).heap[g]?=some (.cells (cur.set o v).toArray t (0,0)):=by
   rw [heap_setCell_same w g o _ t _ h];simp
  rw [q1h g t r (o+1) (cur.set o v) _ h1 (by simp at hl ⊢;omega)]
  congr 3
  simp only [splice,List.length_cons] at *
  have ho:o<cur.length:=by omega
  have hm:min o cur.length=o:=by omega
  rw [List.take_set,List.drop_set_of_lt (by omega),List.take_add_one,List.set_append]
  simp [ho,hm,Nat.add_assoc,Nat.add_comm 1]
def gc (ws B:List Int) (held:Nat) (tot:Int):List Value:=ws.map (Value.int .u32)++(B.map (Value.int .u8)++[.int .i64 held,.int .u64 tot])
section
variable {ws B:List Int} (h8:ws.length=8) (h64:B.length=64)
include h8 h64
theorem z2w (held:Nat) (tot:Int):(gc ws B held tot).length=74:=by simp [gc,h8,h64]
theorem q7g (held:Nat) (tot:Int):(gc ws B held tot)[72]?=some (.int .i64 held):=by
 simp [gc,h8,h64]
theorem gc_tot (held:Nat) (tot:Int):(gc ws B held tot)[73]?=some (.int .u64 tot):=by
 simp [gc,h8,h64]
theorem q8d (held held':Nat) (tot:Int):(gc ws B held tot).set 72 (.int .i64 held')=gc ws B held' tot:=by
 simp [gc,h8,h64]
theorem gc_set73 (held:Nat) (tot tot':Int):(gc ws B held tot).set 73 (.int .u64 tot')=gc ws B held tot':=by
 simp [gc,h8,h64]
omit h64 in
theorem z1i (held:Nat) (tot:Int) (i:Nat) (hi:i<8):(gc ws B held tot)[i]?=some (.int .u32 (ws.getD i 0)):=by
 simp [gc,List.getElem?_append,h8,hi]
theorem gc_last (held:Nat) (tot:Int) (i:Nat) (hi:i<64):(gc ws B held tot)[8+i]?=some (.int .u8 (B.getD i 0)):=by
 simp [gc,List.getElem?_append,h8,h64,hi]
theorem gc_splice (held:Nat) (tot:Int) (o:Nat) (c:List Int) (hc:o+c.length<=64):splice (gc ws B held tot) (8+o) (c.map (Value.int .u8))=gc ws (splice B o c) held tot:=by
 simp only [splice,gc,List.length_map,List.map_append,List.map_take,List.map_drop]
 rw [List.take_append,List.drop_append]
 simp only [List.length_map,h8]
 rw [List.take_of_length_le (by simp [h8]),List.drop_of_length_le (by simp [h8];omega)]
 rw [show 8+o-8=o by omega,show 8+o+c.length-8=o+c.length by omega]
 rw [List.take_append_of_le_length (by simp [h64];omega),List.drop_append_of_le_length (by simp [h64];omega)]
 simp
omit h64 in
theorem z7q (held:Nat) (tot:Int) (vs:List Int) (hv:vs.length=8):splice (gc ws B held tot) 0 (vs.map (Value.int .u32))=gc vs B held tot:=by
 simp [splice,gc,hv,h8]
end
def blk (M:List Int):Nat->List Int
 | 0=>hh
 | n+1=>mix (blk M n) (sched M (64*n))
theorem wrd_hh:Wrd hh:=by
 intro i
 by_cases h:i<8
 ·have key:∀j:Fin 8,0<=hh.getD j.val 0/\hh.getD j.val 0<4294967296:=by decide +kernel
  exact key ⟨i,h⟩
 ·have e:hh.getD i 0=0:=by
   simp only [List.getD]
   rw [List.getElem?_eq_none (by show 8<=i;omega)];rfl
  rw [e];simp [W32]
theorem q2z (M:List Int) (n:Nat):(blk M n).length=8:=by
 induction n with
 | zero=>rfl
 | succ n ih=>rw [blk,q5w,ih]
theorem wrd_blk (M:List Int) (n:Nat):Wrd (blk M n):=by
 induction n with
 | zero=>exact wrd_hh
 | succ n ih=>exact wrd_mix _ _ ih
theorem blk_app (M L:List Int) (n:Nat) (h:64*n<=M.length):blk (M++L) n=blk M n:=by
 induction n with
 | zero=>rfl
 | succ n ih=>
  rw [blk,blk,ih (by omega)]
  rw [q9f (M++L) M (64*n) (64*n) (fun i hi=>q2b _ _ _ (by omega))]
structure Inv (M ws B:List Int) (held:Nat):Prop where
 h8:ws.length=8
 wrd:Wrd ws
 h64:B.length=64
 byt:Byt B
 hheld:held=M.length%64
 hws:ws=blk M (M.length / 64)
 hB:∀i,i<held->B.getD i 0=M.getD (64*(M.length / 64)+i) 0
theorem q6l (B c:List Int) (o i:Nat) (h:o+c.length<=B.length):(splice B o c).getD i 0=if i<o then B.getD i 0 else if i<o+c.length then c.getD (i-o) 0 else B.getD i 0:=by
 have hm:min o B.length=o:=by omega
 simp only [splice,List.getD]
 by_cases h1:i<o
 ·rw [if_pos h1,List.getElem?_append_left (by simp;omega),List.getElem?_take,if_pos h1]
 ·rw [if_neg h1,List.getElem?_append_right (by simp;omega)]
  simp only [List.length_take,hm]
  by_cases h2:i<o+c.length
  ·rw [if_pos h2,List.getElem?_append_left (by omega)]
  ·rw [if_neg h2,List.getElem?_append_right (by omega),List.getElem?_drop]
   congr 2;omega
theorem q7n (B c:List Int) (o:Nat) (h:o+c.length<=B.length) (hB:Byt B) (hc:Byt c):Byt (splice B o c):=by
 intro i
 rw [q6l B c o i h]
 split
 ·exact hB i
 ·split
  ·exact hc _
  ·exact hB i
theorem q2o (M c:List Int) (i:Nat):(M++c).getD i 0=if i<M.length then M.getD i 0 else c.getD (i-M.length) 0:=by
 simp only [List.getD]
 split
 ·rw [List.getElem?_append_left (by assumption)]
 ·rw [List.getElem?_append_right (by omega)]
theorem Inv.part {M ws B:List Int} {held:Nat} (h:Inv M ws B held) (c:List Int) (hc:Byt c) (hl:held+c.length<64):Inv (M++c) ws (splice B held c) (held+c.length):=by
 obtain ⟨h8,wrd,h64,byt,hheld,hws,hB⟩:=h
 have e1:(M.length+c.length) / 64=M.length / 64:=by omega
 refine ⟨h8,wrd,by rw [length_splice _ _ _ (by omega)];exact h64,q7n _ _ _ (by omega) byt hc,by simp;omega,?_,fun i hi=>?_⟩
 ·rw [List.length_append,e1,blk_app M c _ (by omega)];exact hws
 ·rw [q6l _ _ _ _ (by omega),List.length_append,e1,q2o]
  by_cases h1:i<held
  ·rw [if_pos h1,if_pos (by omega)];exact hB i h1
  ·rw [if_neg h1,if_pos (by omega),if_neg (by omega)];congr 1;omega
theorem Inv.full {M ws B:List Int} {held:Nat} (h:Inv M ws B held) (c:List Int) (hc:Byt c) (hl:held+c.length=64):Inv (M++c) (mix ws (sched (splice B held c) 0)) (splice B held c) 0:=by
 obtain ⟨h8,wrd,h64,byt,hheld,hws,hB⟩:=h
 have e1:(M.length+c.length) / 64=M.length / 64+1:=by omega
 have hs:sched (splice B held c) 0=sched (M++c) (64*(M.length / 64)):=by
  refine q9f _ _ _ _ (fun i hi=>?_)
  rw [Nat.zero_add,q6l _ _ _ _ (by omega),q2o]
  by_cases h1:i<held
  ·rw [if_pos h1,if_pos (by omega)];exact hB i h1
  ·rw [if_neg h1,if_pos (by omega),if_neg (by omega)];congr 1;omega
 have hb:blk (M++c) (M.length / 64)=ws:=by rw [blk_app M c _ (by omega),hws]
 have hz:0=(M++c).length%64:=by rw [List.length_append];omega
 have hw:mix ws (sched (splice B held c) 0)=blk (M++c) ((M++c).length / 64):=by rw [List.length_append,e1,blk,hb,hs]
 exact ⟨by rw [q5w];exact h8,wrd_mix _ _ wrd,by rw [length_splice _ _ _ (by omega)];exact h64,q7n _ _ _ (by omega) byt hc,hz,hw,fun i hi=>absurd hi (Nat.not_lt_zero i)⟩
theorem Inv.start:Inv [] hh (List.replicate 64 0) 0 where
 h8:=rfl
 wrd:=wrd_hh
 h64:=by simp
 byt:=fun i=>by
  simp only [List.getD,List.getElem?_replicate]
  split<;>simp
 hheld:=by simp
 hws:=by rw [List.length_nil,Nat.zero_div,blk]
 hB:=fun i hi=>absurd hi (by omega)
end Go.Proofs.YtjejnlebpcjidaaGreatDoor.Dig.Plain
