/-
 What the reference's block answers, for every state and every 64 bytes. And what follows it.
-/
import Derived.BigFrame
import Derived.Test.YtjejnlebpcjidaaGreatDoorQ04
import Derived.Test.YtjejnlebpcjidaaGreatDoorQ03
import Derived.Laws.AppendOwn
import Derived.OwnWalk
import Derived.Maps.AppendAt
set_option linter.unusedVariables false
set_option maxRecDepth 100000
set_option maxRecDepth 100000
namespace Go.Proofs.YtjejnlebpcjidaaGreatDoor.Dig
open Go.RowKit Go.Proofs.YtjejnlebpcjidaaGreatDoor.Dig.Plain
theorem mz_comm (X H:List Int) (hX:X.length=8) (hH:H.length=8):mz X H 8=mz H X 8:=by
 match X,hX,H,hH with
 | [a,b,c,d,e,f,g,h],_,[a',b',c',d',e',f',g',h'],_=>simp [mz,Int.add_comm]
theorem z5c (x k:Int) (w:World) (h:W32 x) (hn:1<=k) (hn':k<=31):
  Calls Tryz.prog 119 #[.int .u32 x,.int .u64 k] w fun e w'=>e=.returned (.int .u32 (rotr x k))/\w=w':=
 (z0n x k w h hn hn').mono fun _ _ ⟨he,hw⟩=>⟨he,hw.symm⟩
def sh (L:List Int):Nat->List Int
 | 0=>L
 | j+1=>(sh L j).set (7-j) (L.getD (6-j) 0)
theorem z2p (L:List Int) (j:Nat):(sh L j).length=L.length:=by
 induction j with
 | zero=>rfl
 | succ j ih=>simp [sh,ih]
theorem sh_far (L:List Int) (j i:Nat) (h:i+j<=7):(sh L j).getD i 0=L.getD i 0:=by
 induction j with
 | zero=>rfl
 | succ j ih=>
  rw [sh]
  simp only [List.getD]
  rw [List.getElem?_set_ne (by omega)]
  exact ih (by omega)
theorem lay1 {w wr w1:World} {S:Nat} {x y z:Obj} (h:wr.heap[S]?=some x/\wr.heap[S+1]?=some y/\wr.heap[S+2]?=some z/\Below S w wr) (hb:Below wr.heap.size wr w1):
  Box (w1.heap[S]?=some x/\w1.heap[S+1]?=some y/\w1.heap[S+2]?=some z/\Below S w w1/\S+3<=w1.heap.size):=by
 obtain ⟨h1,h2,h3,h4⟩:=h
 have l3:=(gE h3)
 exact ⟨(hb.block _ (by omega)).trans h1,(hb.block _ (by omega)).trans h2,(hb.block _ l3).trans h3,h4.trans (hb.mono (by omega)),by have:=hb.size;omega⟩
theorem lay2 {w w1 x1:World} {S:Nat} {x y z o q:Obj} (h:w1.heap[S]?=some x/\w1.heap[S+1]?=some y/\w1.heap[S+2]?=some z/\Below S w w1/\S+3<=w1.heap.size)
  (k:x1.heap[w1.heap.size]?=some q/\Below S w x1/\∀j,j≠w1.heap.size->x1.heap[j]?=(w1.alloc o).heap[j]?):
  Box (x1.heap[S]?=some x/\x1.heap[S+1]?=some y/\x1.heap[S+2]?=some z/\x1.heap[w1.heap.size]?=some q/\Below S w x1/\S+3<=w1.heap.size/\w1.heap.size<x1.heap.size):=by
 obtain ⟨h1,h2,h3,h4,h5⟩:=h
 obtain ⟨k1,k2,k3⟩:=k
 exact ⟨(k3 _ (by omega)).trans (q0i h1),(k3 _ (by omega)).trans (q0i h2),(k3 _ (by omega)).trans (q0i h3),k1,k2,h5,(gE k1)⟩
theorem lay3 {w x1 x2:World} {S K:Nat} {x y z o q r:Obj} (h:x1.heap[S]?=some x/\x1.heap[S+1]?=some y/\x1.heap[S+2]?=some z/\x1.heap[K]?=some q/\Below S w x1/\S+3<=K/\K<x1.heap.size)
  (k:x2.heap[x1.heap.size]?=some r/\Below S w x2/\∀j,j≠x1.heap.size->x2.heap[j]?=(x1.alloc o).heap[j]?):
  Box (x2.heap[S]?=some x/\x2.heap[S+1]?=some y/\x2.heap[S+2]?=some z/\x2.heap[K]?=some q/\x2.heap[x1.heap.size]?=some r/\Below S w x2/\S+3<=K/\K<x1.heap.size):=by
 obtain ⟨h1,h2,h3,h4,h5,h6,h7⟩:=h
 obtain ⟨k1,k2,k3⟩:=k
 exact ⟨(k3 _ (by omega)).trans (q0i h1),(k3 _ (by omega)).trans (q0i h2),(k3 _ (by omega)).trans (q0i h3),(k3 _ (by omega)).trans (q0i h4),k1,k2,h6,h7⟩
theorem z3c {ops:Array Oper} {rest:List Oper} {o:Oper} {a:Act} {w:World} {Q:Exit->Act->World->Prop} (X:List Int) (hX:(u32s X).size=64) (hgd:o.guard=none) (x y:Operand) (ho:o.op=.store 202 x y)
  (g:Nat) (old:Array Value) (hx:a.eval x=.pointer (some ⟨g,0,none⟩)) (hy:a.eval y=.agg (u32s X)) (hg:w.heap[g]?=some (.cells old 202 (0,0))) (hold:old.size=64) (B:Nat) (w0:World) (hB:Below B w0 w) (hBg:B<=g)
  (h:∀w',Hid (w'.heap[g]?=some (.cells (u32s X) 202 (0,0))/\Below B w0 w'/\∀k,k≠g->w'.heap[k]?=w.heap[k]?)->wpList Tryz.prog ops Q rest (a.put o.dst undef) w'):wpList Tryz.prog ops Q (o::rest) a w:=by
 refine wpList_store_row hgd 202 x y ho g (u32s X) hx hy 202 old hg (by rw [hX];kernel_rfl) (by rw [hX];exact hold) (q2l X) (h _ ⟨setRow_heap _ _ _ _ _ _ hg,below_setRow hB hBg _,fun k hk=>setRow_other _ _ _ _ hk⟩)
theorem q5e {ops:Array Oper} {rest:List Oper} {o:Oper} {a:Act} {w:World} {Q:Exit->Act->World->Prop} (X:List Int) (hX:(u32s X).size=8) (hgd:o.guard=none) (x y:Operand) (ho:o.op=.store 179 x y)
  (g:Nat) (old:Array Value) (hx:a.eval x=.pointer (some ⟨g,0,none⟩)) (hy:a.eval y=.agg (u32s X)) (hg:w.heap[g]?=some (.cells old 179 (0,0))) (hold:old.size=8) (B:Nat) (w0:World) (hB:Below B w0 w) (hBg:B<=g)
  (h:∀w',Hid (w'.heap[g]?=some (.cells (u32s X) 179 (0,0))/\Below B w0 w'/\∀k,k≠g->w'.heap[k]?=w.heap[k]?)->wpList Tryz.prog ops Q rest (a.put o.dst undef) w'):wpList Tryz.prog ops Q (o::rest) a w:=by
 refine wpList_store_row hgd 179 x y ho g (u32s X) hx hy 179 old hg (by rw [hX];kernel_rfl) (by rw [hX];exact hold) (q2l X) (h _ ⟨setRow_heap _ _ _ _ _ _ hg,below_setRow hB hBg _,fun k hk=>setRow_other _ _ _ _ hk⟩)
def Blk (w wr:World) (S K V:Nat) (H W L:List Int):Prop:=
 wr.heap[S]?=some (.cells (u32s H) 179 (0,0))/\wr.heap[S+1]?=some (.cells (fil [] 8) 179 (0,0))/\wr.heap[S+2]?=some (.cells (u32s W) 202 (0,0))/\wr.heap[K]?=some (.cells (u32s kk) 202 (0,0))/\wr.heap[V]?=some (.cells (u32s L) 179 (0,0))/\Below S w wr
theorem Blk.set {w wr:World} {S K V:Nat} {H W L:List Int} (h:Blk w wr S K V H W L) (hSK:S+3<=K) (hKV:K<V) (i:Nat) (x:Int):Blk w (wr.setCell ⟨V,i,none⟩ (.int .u32 x)) S K V H W (L.set i x):=by
 have o:∀j,j≠V->(wr.setCell ⟨V,i,none⟩ (.int .u32 x)).heap[j]?=wr.heap[j]?:=fun j hj=>heap_setCell_other wr ⟨V,i,none⟩ j _ (fun e=>hj e)
 obtain ⟨h1,h2,h3,h4,h5,h6⟩:=h
 refine ⟨(o _ (by omega)).trans h1,(o _ (by omega)).trans h2,(o _ (by omega)).trans h3,(o _ (by omega)).trans h4,?_,h6.os,h6.tape,h6.output,by simpa using h6.size,fun j hj=>(o j (by omega)).trans (h6.block j hj)⟩
 rw [heap_setCell_same wr V i _ 179 _ h5,q8f]
theorem Blk.drewN {w wr:World} {S K V:Nat} {H W L:List Int} (h:Blk w wr S K V H W L) (n:Nat):Blk w (wr.drewN n) S K V H W L:=
 ⟨h.1,h.2.1,h.2.2.1,h.2.2.2.1,h.2.2.2.2.1,h.2.2.2.2.2.os,h.2.2.2.2.2.tape,h.2.2.2.2.2.output,h.2.2.2.2.2.size,h.2.2.2.2.2.block⟩
theorem Blk.drew {w wr:World} {S K V:Nat} {H W L:List Int} (h:Blk w wr S K V H W L):Blk w wr.drew S K V H W L:=
 ⟨h.1,h.2.1,h.2.2.1,h.2.2.2.1,h.2.2.2.2.1,h.2.2.2.2.2.os,h.2.2.2.2.2.tape,h.2.2.2.2.2.output,h.2.2.2.2.2.size,h.2.2.2.2.2.block⟩
theorem wrd_list {s:St} (h:s.OK):Wrd s.list:=by
 intro i
 obtain ⟨h0,h1,h2,h3,h4,h5,h6,h7⟩:=h
 match i with
 | 0=>exact h0
 | 1=>exact h1
 | 2=>exact h2
 | 3=>exact h3
 | 4=>exact h4
 | 5=>exact h5
 | 6=>exact h6
 | 7=>exact h7
 | i+8=>simp [St.list,W32]
theorem q8s (H:List Int) (h:H.length=8):(St.of H).list=H:=by
 match H,h with
 | [a,b,c,d,e,f,g,h],_=>rfl
set_option maxRecDepth 20000 in
set_option maxHeartbeats 2000000 in
theorem q8o (H M:List Int) (a:Option Addr) (len cap p:Nat) (w:World) (hH:H.length=8) (hHw:Wrd H) (hBy:Bytes w a len M) (hp:p+64<=len) (hl:len<=4294967296):
  Calls Tryz.prog 99 #[.agg (u32s H),.slice a len cap,.int .i64 p] w fun e w'=>e=.returned (.agg (u32s (mix H (sched M p))))/\Below w.heap.size w w':=by
 obtain ⟨S,HS⟩:∃S,Hid (w.heap.size=S):=⟨_,rfl⟩
 have hML:=hBy.1
 have hMb:=hBy.2.1
 obtain ⟨b,off,rfl,hlt,hc⟩:=hBy.2.2 (by omega)
 have hbS:b<S:=by rw [<-HS.out];exact hlt
 have HC:Hid (∀wr,Below S w wr->∀i,i<len->wr.cell? ⟨b,off+i,none⟩=some (.int .u8 (M.getD i 0))):=fun wr hb i hi=>(hb.cell (by simpa using hbS)).trans (hc i hi)
 clear hc hlt hBy
 have HZ:Hid (fil [] 64=#[.int .u32 0,.int .u32 0,.int .u32 0,.int .u32 0,.int .u32 0,.int .u32 0,.int .u32 0,.int .u32 0,.int .u32 0,.int .u32 0,.int .u32 0,.int .u32 0,.int .u32 0,.int .u32 0,.int .u32 0,.int .u32 0,.int .u32 0,.int .u32 0,.int .u32 0,.int .u32 0,.int .u32 0,.int .u32 0,.int .u32 0,.int .u32 0,.int .u32 0,.int .u32 0,.int .u32 0,.int .u32 0,.int .u32 0,.int .u32 0,.int .u32 0,.int .u32 0,.int .u32 0,.int .u32 0,.int .u32 0,.int .u32 0,.int .u32 0,.int .u32 0,.int .u32 0,.int .u32 0,.int .u32 0,.int .u32 0,.int .u32 0,.int .u32 0,.int .u32 0,.int .u32 0,.int .u32 0,.int .u32 0,.int .u32 0,.int .u32 0,.int .u32 0,.int .u32 0,.int .u32 0,.int .u32 0,.int .u32 0,.int .u32 0,.int .u32 0,.int .u32 0,.int .u32 0,.int .u32 0,.int .u32 0,.int .u32 0,.int .u32 0,.int .u32 0]):=rfl
 have HZ8:Hid (fil [] 8=#[.int .u32 0,.int .u32 0,.int .u32 0,.int .u32 0,.int .u32 0,.int .u32 0,.int .u32 0,.int .u32 0]):=rfl
 go_enter Tryz.func99,Tryz.ntmps99
 go_wp2
 rw [HS.out]
 go_loopw [8] (fun i wr=>∃k:Nat,k<=16/\i=.int .i64 k/\Hid (wr.heap[S]?=some (.cells (u32s H) 179 (0,0))/\wr.heap[S+1]?=some (.cells (fil [] 8) 179 (0,0)))/\wr.heap[S+2]?=some (.cells (fil (wl0 M p k) 64) 202 (0,0))/\Below S w wr) (fun i _=>16-(intOf i).toNat)
 case atStart=>
  refine ⟨0,by omega,rfl,⟨?_,?_⟩,?_,?_⟩
  ·exact q0i (q0i (q0g HS.out))
  ·rw [HZ8.out];exact q0i (q0g (by simp [HS.out]))
  ·rw [wl0,HZ.out];exact q0g (by simp [HS.out])
  ·rw [<-HS.out];exact (((Below.refl _ _).alloc (Nat.le_refl _) _).alloc (by simp) _).alloc (by simp;omega) _
 case round=>
  clear HZ HZ8
  obtain ⟨k,hk,rfl,HR,hgW,hbel⟩:=hrel
  by_cases hlt:k<16
  ·obtain ⟨m,HM⟩:∃m,Hid (p+4*k=m):=⟨_,rfl⟩
   have hm:p+4*k=m:=HM.out
   have e1:(p:Int)+4*(k:Int)=(m:Int):=by omega
   have c1:=HC.out wr hbel m (by omega)
   have c2:=HC.out wr hbel (m+1) (by omega)
   have c3:=HC.out wr hbel (m+2) (by omega)
   have c4:=HC.out wr hbel (m+3) (by omega)
   have b1:=hMb m
   have b2:=hMb (m+1)
   have b3:=hMb (m+2)
   have b4:=hMb (m+3)
   have l1:m+3<len:=by omega
   have HW:Hid (word M p k=M.getD m 0*16777216+M.getD (m+1) 0*65536+M.getD (m+2) 0*256+M.getD (m+3) 0):=by
    unfold word;rw [hm];rfl
   generalize M.getD m 0=z1 at c1 b1 HW
   generalize M.getD (m+1) 0=z2 at c2 b2 HW
   generalize M.getD (m+2) 0=z3 at c3 b3 HW
   generalize M.getD (m+3) 0=z4 at c4 b4 HW
   have hf:wr.frozen? ⟨S+2,k,none⟩=false:=frozen_of_row wr _ _ _ 202 hgW
   obtain ⟨v,hcw⟩:∃v,wr.cell? ⟨S+2,k,none⟩=some v:=by
    obtain ⟨v,hv⟩:=q4t (wl0 M p k) 64 k (by omega) (by rw [q3p];omega)
    exact ⟨v,by rw [cell_of_row _ _ _ _ _ _ hgW];exact hv⟩
   have hst:=q8a w wr (S+2) 64 S (wl0 M p k) (word M p k) (by rw [q3p];omega) (by omega) hgW hbel
   rw [q3p] at hst
   have HST:Hid _:=hst
   clear hst hm
   go_wp2
   go_region
   go_wp2
   go_roundw
   case rel=>
    rw [<-HW.out]
    obtain ⟨s1,s2,s3⟩:=HST.out
    refine ⟨k+1,by omega,by go_num,⟨?_,?_⟩,?_,?_⟩
    ·exact (s3 S (by omega)).trans HR.out.1
    ·exact (s3 (S+1) (by omega)).trans HR.out.2
    ·exact s1
    ·exact s2.drew
   case measure=>simp [intOf];omega
  ·obtain rfl:k=16:=by omega
   go_wp2
   go_loopw [9] (fun i wr=>∃t j:Nat,Hid (t=16+j/\j<=48)/\i=.int .i64 t/\Hid (wr.heap[S]?=some (.cells (u32s H) 179 (0,0))/\wr.heap[S+1]?=some (.cells (fil [] 8) 179 (0,0)))/\wr.heap[S+2]?=some (.cells (fil (wlx M p j) 64) 202 (0,0))/\Below S w wr) (fun i _=>64-(intOf i).toNat)
   case atStart=>exact ⟨16,0,⟨rfl,by omega⟩,rfl,HR,hgW,hbel⟩
   case round=>
    clear HR hgW hbel hlt hk
    obtain ⟨t,j,HT,rfl,HR,hgW,hbel⟩:=hrel
    by_cases hlt:t<64
    ·obtain ⟨ht,hj⟩:=HT.out
     have hln:=q7q M p j
     have hwd:=z4d M p j hMb
     obtain ⟨z1,Z1⟩:∃z,Hid ((wlx M p j).getD j 0=z):=⟨_,rfl⟩
     obtain ⟨z2,Z2⟩:∃z,Hid ((wlx M p j).getD (j+1) 0=z):=⟨_,rfl⟩
     obtain ⟨z3,Z3⟩:∃z,Hid ((wlx M p j).getD (j+9) 0=z):=⟨_,rfl⟩
     obtain ⟨z4,Z4⟩:∃z,Hid ((wlx M p j).getD (j+14) 0=z):=⟨_,rfl⟩
     have b1:W32 z1:=by rw [<-Z1.out];exact hwd j
     have b2:W32 z2:=by rw [<-Z2.out];exact hwd (j+1)
     have b3:W32 z3:=by rw [<-Z3.out];exact hwd (j+9)
     have b4:W32 z4:=by rw [<-Z4.out];exact hwd (j+14)
     have C1:Hid (∀x:World,x.heap[S+2]?=some (.cells (fil (wlx M p j) 64) 202 (0,0))->x.cell? ⟨S+2,j,none⟩=some (.int .u32 z1)):=fun x hx=>by rw [<-Z1.out];exact q4j x _ _ 64 _ _ _ hx (by omega)
     have C2:Hid (∀x:World,x.heap[S+2]?=some (.cells (fil (wlx M p j) 64) 202 (0,0))->x.cell? ⟨S+2,j+1,none⟩=some (.int .u32 z2)):=fun x hx=>by rw [<-Z2.out];exact q4j x _ _ 64 _ _ _ hx (by omega)
     have C3:Hid (∀x:World,x.heap[S+2]?=some (.cells (fil (wlx M p j) 64) 202 (0,0))->x.cell? ⟨S+2,j+9,none⟩=some (.int .u32 z3)):=fun x hx=>by rw [<-Z3.out];exact q4j x _ _ 64 _ _ _ hx (by omega)
     have C4:Hid (∀x:World,x.heap[S+2]?=some (.cells (fil (wlx M p j) 64) 202 (0,0))->x.cell? ⟨S+2,j+14,none⟩=some (.int .u32 z4)):=fun x hx=>by rw [<-Z4.out];exact q4j x _ _ 64 _ _ _ hx (by omega)
     have HW:Hid (nextW (wlx M p j) j=(z1+sig0 z2+z3+sig1 z4)%4294967296):=by rw [<-Z1.out,<-Z2.out,<-Z3.out,<-Z4.out];rfl
     have e16:(t:Int)-16=(j:Int):=by omega
     have e15:(t:Int)-15=((j+1:Nat):Int):=by omega
     have e7:(t:Int)-7=((j+9:Nat):Int):=by omega
     have e2:(t:Int)-2=((j+14:Nat):Int):=by omega
     have i16:j<64:=by omega
     have i15:j+1<64:=by omega
     have i7:j+9<64:=by omega
     have i2:j+14<64:=by omega
     have HV:Hid (∀x:World,x.heap[S+2]?=some (.cells (fil (wlx M p j) 64) 202 (0,0))->∃v,x.cell? ⟨S+2,t,none⟩=some v):=by
      intro x hx
      obtain ⟨v,hv⟩:=q4t (wlx M p j) 64 t (by omega) (by omega)
      exact ⟨v,by rw [cell_of_row _ _ _ _ _ _ hx];exact hv⟩
     have HST:Hid (∀x:World,x.heap[S+2]?=some (.cells (fil (wlx M p j) 64) 202 (0,0))->Below S w x->(x.setCell ⟨S+2,t,none⟩ (.int .u32 (nextW (wlx M p j) j))).heap[S+2]?=some (.cells (fil (wlx M p (j+1)) 64) 202 (0,0))/\Below S w (x.setCell ⟨S+2,t,none⟩ (.int .u32 (nextW (wlx M p j) j)))/\∀q,q≠S+2->(x.setCell ⟨S+2,t,none⟩ (.int .u32 (nextW (wlx M p j) j))).heap[q]?=x.heap[q]?):=by
      intro x hx hbx
      have:=q8a w x (S+2) 64 S (wlx M p j) (nextW (wlx M p j) j) (by omega) (by omega) hx hbx
      rwa [hln,<-ht] at this
     generalize j+1=m1 at C2 e15 i15
     generalize j+9=m9 at C3 e7 i7
     generalize j+14=m14 at C4 e2 i2
     obtain ⟨p1,q1⟩:=b1
     obtain ⟨p3,q3⟩:=b3
     clear hwd hln hj ht Z1 Z2 Z3 Z4
     have c2:=C2.out wr hgW
     go_wp2
     go_quiet ((go_at_call 119;exact Calls.quiet_of_same (z0n _ _ _ (by assumption) (by decide) (by decide))))
     have R2:Hid ((wr.drewN nq).heap[S]?=some (.cells (u32s H) 179 (0,0))/\(wr.drewN nq).heap[S+1]?=some (.cells (fil [] 8) 179 (0,0))):=HR
     have W2:(wr.drewN nq).heap[S+2]?=_:=hgW
     have B2:Below S w (wr.drewN nq):=⟨hbel.os,hbel.tape,hbel.output,hbel.size,hbel.block⟩
     clear HR hgW hbel c2 C2
     generalize wr.drewN nq=x2 at R2 W2 B2 ⊢
     have c4:=C4.out x2 W2
     clear nq wr
     go_wp2
     go_quiet ((go_at_call 119;exact Calls.quiet_of_same (z0n _ _ _ (by assumption) (by decide) (by decide))))
     have R3:Hid ((x2.drewN nq).heap[S]?=some (.cells (u32s H) 179 (0,0))/\(x2.drewN nq).heap[S+1]?=some (.cells (fil [] 8) 179 (0,0))):=R2
     have W3:(x2.drewN nq).heap[S+2]?=_:=W2
     have B3:Below S w (x2.drewN nq):=⟨B2.os,B2.tape,B2.output,B2.size,B2.block⟩
     clear R2 W2 B2 c4 C4
     generalize x2.drewN nq=x3 at R3 W3 B3 ⊢
     have c1:=C1.out x3 W3
     have c3:=C3.out x3 W3
     clear nq x2
     have hf:x3.frozen? ⟨S+2,t,none⟩=false:=frozen_of_row x3 _ _ _ 202 W3
     obtain ⟨v,hcw⟩:=HV.out x3 W3
     have HS3:Hid _:=HST.out x3 W3 B3
     go_wp2
     go_region
     go_wp2
     go_roundw
     case rel=>
      obtain ⟨s1,s2,s3⟩:=HS3.out
      have HE:(z1+bits BinOp.xor IntKind.u32 (bits BinOp.xor IntKind.u32 (rotr z2 7) (rotr z2 18)) (z2 / 8)+z3+bits BinOp.xor IntKind.u32 (bits BinOp.xor IntKind.u32 (rotr z4 17) (rotr z4 19)) (z4 / 1024))%4294967296=nextW (wlx M p j) j:=HW.out.symm
      rw [HE]
      obtain ⟨ht,hj⟩:=HT.out
      refine ⟨t+1,j+1,⟨by omega,by omega⟩,by go_num,⟨?_,?_⟩,?_,?_⟩
      ·exact (s3 S (by omega)).trans R3.out.1
      ·exact (s3 (S+1) (by omega)).trans R3.out.2
      ·exact s1
      ·exact s2.drew
     case measure=>simp [intOf];omega
    ·obtain ⟨ht,hj⟩:=HT.out
     obtain rfl:t=64:=by omega
     obtain rfl:j=48:=by omega
     have hln:=q3x M p
     have HWD:Hid (Wrd (sched M p)):=q6u M p hMb
     have hgW':wr.heap[S+2]?=some (.cells (u32s (sched M p)) 202 (0,0)):=by rw [<-q6p (sched M p) 64 hln];exact hgW
     obtain ⟨W,HX⟩:∃X,Box (sched M p=X):=⟨_,⟨rfl⟩⟩
     rw [HX.out] at hgW' hln HWD
     have HA:Box (wr.heap[S]?=some (.cells (u32s H) 179 (0,0))/\wr.heap[S+1]?=some (.cells (fil [] 8) 179 (0,0))/\wr.heap[S+2]?=some (.cells (u32s W) 202 (0,0))/\Below S w wr):=⟨HR.out.1,HR.out.2,hgW',hbel⟩
     clear hgW ht hj HT hgW' HR hbel hlt HC hMb hp
     have hHs:(u32s H).size=8:=by rw [q1q,hH]
     go_wp2_with (first
      | (go_at_call 120;refine (z7o _).mono ?_;rintro e w1 ⟨rfl,hb1⟩;have H1:=lay1 HA.out hb1;clear hb1)
      | (refine z3c kk rfl rfl (.tmp 12) (.tmp 124) rfl w1.heap.size _ rfl rfl (q0g rfl) rfl S w (H1.out.2.2.2.1.alloc (by have:=H1.out.2.2.2.2;omega) _) (by have:=H1.out.2.2.2.2;omega) ?_;intro x1 HX1;have H2:=lay2 H1.out HX1.out;clear HX1)
      | (refine wpList_load_row rfl 179 (.tmp 3) rfl S rfl 179 (u32s H) (0,0) _ H2.out.1 Tryz.underlying179 rfl (by rw [hHs];kernel_rfl) ?_)
      | (refine q5e H hHs rfl (.tmp 13) (.tmp 125) rfl x1.heap.size _ rfl rfl (q0g rfl) rfl S w (H2.out.2.2.2.2.1.alloc (by have:=H2.out.2.2.2.2.2;omega) _) (by have:=H2.out.2.2.2.2.2;omega) ?_;intro x2 HX2;have H3:=lay3 H2.out HX2.out;clear HX2))
     obtain ⟨K,HK⟩:∃K,Hid (w1.heap.size=K):=⟨_,rfl⟩
     obtain ⟨V,HV⟩:∃V,Hid (x1.heap.size=V):=⟨_,rfl⟩
     rw [HK.out,HV.out] at H3
     rw [HK.out,HV.out]
     clear H1 H2 HA HK HV hHs
     clear x1 w1 wr
     obtain ⟨hSK,hKV⟩:S+3<=K/\K<V:=⟨H3.out.2.2.2.2.2.2.1,H3.out.2.2.2.2.2.2.2⟩
     go_loopw [14] (fun i wr=>∃k:Nat,k<=64/\i=.int .i64 k/\Box (Blk w wr S K V H W (rnd W (St.of H) k).list)) (fun i _=>64-(intOf i).toNat)
     case atStart=>exact ⟨0,by omega,rfl,⟨H3.out.1,H3.out.2.1,H3.out.2.2.1,H3.out.2.2.2.1,by rw [rnd,q8s H hH];exact H3.out.2.2.2.2.1,H3.out.2.2.2.2.2.1⟩⟩
     case round=>
      clear H3 x2
      obtain ⟨k,hk,rfl,HB⟩:=hrel
      by_cases hlt:k<64
      ·have hok:=rnd_ok W _ (St.z7w hHw) k
       obtain ⟨s,HSt⟩:∃s,Box (rnd W (St.of H) k=s):=⟨_,⟨rfl⟩⟩
       have HNX:Box (rnd W (St.of H) (k+1)=stepSt s (kk.getD k 0) (W.getD k 0)):=⟨by rw [rnd,HSt.out]⟩
       rw [HSt.out] at HB hok
       obtain ⟨ya,yb,yc,yd,ye,yf,yg,yh⟩:=s
       obtain ⟨ba,bb,bc,bd,be,bf,bg,bh⟩:=hok
       change W32 ya at ba
       change W32 yb at bb
       change W32 yc at bc
       change W32 yd at bd
       change W32 ye at be
       change W32 yf at bf
       change W32 yg at bg
       change W32 yh at bh
       have bW:=HWD.out k
       have bK:=wrd_kk k
       have cW:=q0x wr (S+2) k W _ _ HB.out.2.2.1 (by omega)
       have cK:=q0x wr K k kk _ _ HB.out.2.2.2.1 hlt
       obtain ⟨wk,HWk⟩:∃z,Hid (W.getD k 0=z):=⟨_,rfl⟩
       obtain ⟨kc,HKc⟩:∃z,Hid (kk.getD k 0=z):=⟨_,rfl⟩
       rw [HWk.out] at cW bW HNX
       rw [HKc.out] at cK bK HNX
       have v0:=q0x wr V 0 _ _ _ HB.out.2.2.2.2.1 (by simp [St.list])
       have v1:=q0x wr V 1 _ _ _ HB.out.2.2.2.2.1 (by simp [St.list])
       have v2:=q0x wr V 2 _ _ _ HB.out.2.2.2.2.1 (by simp [St.list])
       have v4:=q0x wr V 4 _ _ _ HB.out.2.2.2.2.1 (by simp [St.list])
       have v5:=q0x wr V 5 _ _ _ HB.out.2.2.2.2.1 (by simp [St.list])
       have v6:=q0x wr V 6 _ _ _ HB.out.2.2.2.2.1 (by simp [St.list])
       have v7:=q0x wr V 7 _ _ _ HB.out.2.2.2.2.1 (by simp [St.list])
       change wr.cell? ⟨V,0,none⟩=some (.int .u32 ya) at v0
       change wr.cell? ⟨V,1,none⟩=some (.int .u32 yb) at v1
       change wr.cell? ⟨V,2,none⟩=some (.int .u32 yc) at v2
       change wr.cell? ⟨V,4,none⟩=some (.int .u32 ye) at v4
       change wr.cell? ⟨V,5,none⟩=some (.int .u32 yf) at v5
       change wr.cell? ⟨V,6,none⟩=some (.int .u32 yg) at v6
       change wr.cell? ⟨V,7,none⟩=some (.int .u32 yh) at v7
       go_wp2_with (go_at_call 119;refine (z5c _ _ _ (by assumption) (by decide) (by decide)).mono ?_;rintro _ _ ⟨rfl,rfl⟩)
       go_quiet (fail)
       have HB2:Box (Blk w (wr.drewN nq) S K V H W [ya,yb,yc,yd,ye,yf,yg,yh]):=⟨HB.out.drewN nq⟩
       have n0:(wr.drewN nq).cell? ⟨V,0,none⟩=some (.int .u32 ya):=v0
       have n1:(wr.drewN nq).cell? ⟨V,1,none⟩=some (.int .u32 yb):=v1
       have n2:(wr.drewN nq).cell? ⟨V,2,none⟩=some (.int .u32 yc):=v2
       clear HB cW cK v0 v1 v2 v4 v5 v6 v7
       generalize wr.drewN nq=x2 at HB2 n0 n1 n2 ⊢
       clear nq wr
       go_wp2_with (go_at_call 119;refine (z5c _ _ _ (by assumption) (by decide) (by decide)).mono ?_;rintro _ _ ⟨rfl,rfl⟩)
       clear n0 n1 n2
       go_loopw [22] (fun i wr=>∃q j:Nat,Hid (q+j=7)/\i=.int .i64 q/\Box (Blk w wr S K V H W (sh [ya,yb,yc,yd,ye,yf,yg,yh] j))) (fun i _=>(intOf i).toNat)
       case atStart=>exact ⟨7,0,rfl,rfl,HB2⟩
       case round=>
        clear HB2 x2
        obtain ⟨q,j,HQ,rfl,HB⟩:=hrel
        by_cases hq:0<q
        ·obtain ⟨q',HQ'⟩:∃q',Hid (q=q'+1):=⟨q-1,by unfold Hid;omega⟩
         have e1:(q:Int)-1=(q':Int):=by have:=HQ'.out;omega
         have l1:q'<8:=by have:=HQ.out;have:=HQ'.out;omega
         have l2:q<8:=by have:=HQ.out;omega
         have c1:=q0x wr V q' _ _ _ HB.out.2.2.2.2.1 (by rw [z2p];exact l1)
         have c2:=q0x wr V q _ _ _ HB.out.2.2.2.2.1 (by rw [z2p];exact l2)
         have f1:wr.frozen? ⟨V,q,none⟩=false:=frozen_of_row wr _ _ _ 179 HB.out.2.2.2.2.1
         obtain ⟨y,HY⟩:∃y,Hid ((sh [ya,yb,yc,yd,ye,yf,yg,yh] j).getD q' 0=y):=⟨_,rfl⟩
         obtain ⟨y2,HY2⟩:∃y,Hid ((sh [ya,yb,yc,yd,ye,yf,yg,yh] j).getD q 0=y):=⟨_,rfl⟩
         rw [HY.out] at c1
         rw [HY2.out] at c2
         have HN:Box (Blk w (wr.setCell ⟨V,q,none⟩ (.int .u32 y)) S K V H W (sh [ya,yb,yc,yd,ye,yf,yg,yh] (j+1))):=⟨by
          have h0:=HQ.out
          have h1:=HQ'.out
          rw [sh,show 7-j=q by omega,show 6-j=q' by omega,<-sh_far _ j q' (by omega),HY.out]
          exact HB.out.set hSK hKV q y⟩
         clear HY HY2
         go_wp2
         go_roundw
         case rel=>exact ⟨q',j+1,by have:=HQ.out;have:=HQ'.out;unfold Hid;omega,rfl,HN⟩
         case measure=>have:=HQ'.out;simp [intOf];omega
        ·obtain rfl:q=0:=by omega
         have hj:j=7:=by have:=HQ.out;omega
         subst hj
         have HB7:Box (Blk w wr S K V H W [ya,ya,yb,yc,yd,ye,yf,yg]):=⟨HB.out⟩
         have c4:wr.cell? ⟨V,4,none⟩=some (.int .u32 yd):=q0x wr V 4 _ _ _ HB7.out.2.2.2.2.1 (by simp)
         have f4:wr.frozen? ⟨V,4,none⟩=false:=frozen_of_row wr _ _ _ 179 HB7.out.2.2.2.2.1
         have c0:∀y,(wr.setCell ⟨V,4,none⟩ (.int .u32 y)).cell? ⟨V,0,none⟩=some (.int .u32 ya):=fun y=>q0x _ V 0 _ _ _ (HB7.out.set hSK hKV 4 y).2.2.2.2.1 (by simp)
         have f0:∀y,(wr.setCell ⟨V,4,none⟩ (.int .u32 y)).frozen? ⟨V,0,none⟩=false:=fun y=>frozen_of_row _ _ _ _ 179 (HB7.out.set hSK hKV 4 y).2.2.2.2.1
         clear HB HQ
         go_wp2
         go_roundw
         case rel=>
          refine ⟨k+1,by omega,by go_num,⟨?_⟩⟩
          rw [HNX.out]
          have h1:=(HB7.out.set hSK hKV 4 (stepSt ⟨ya,yb,yc,yd,ye,yf,yg,yh⟩ kc wk).e).set hSK hKV 0 (stepSt ⟨ya,yb,yc,yd,ye,yf,yg,yh⟩ kc wk).a
          have e4:(yd+(yh+ep1 ye+cho ye yf yg+kc+wk))%4294967296=(stepSt ⟨ya,yb,yc,yd,ye,yf,yg,yh⟩ kc wk).e:=by
           show _=(yd+(yh+ep1 ye+cho ye yf yg+kc+wk)%4294967296)%4294967296
           omega
          have e0:(yh+ep1 ye+cho ye yf yg+kc+wk+ep0 ya+maj ya yb yc)%4294967296=(stepSt ⟨ya,yb,yc,yd,ye,yf,yg,yh⟩ kc wk).a:=by
           show _=((yh+ep1 ye+cho ye yf yg+kc+wk)%4294967296+(ep0 ya+maj ya yb yc)%4294967296)%4294967296
           omega
          rw [<-e4,<-e0] at h1
          have h2:(([ya,ya,yb,yc,yd,ye,yf,yg].set 4 ((yd+(yh+ep1 ye+cho ye yf yg+kc+wk))%4294967296)).set 0 ((yh+ep1 ye+cho ye yf yg+kc+wk+ep0 ya+maj ya yb yc)%4294967296))=(stepSt ⟨ya,yb,yc,yd,ye,yf,yg,yh⟩ kc wk).list:=by
           rw [e4,e0];rfl
          rw [h2] at h1
          exact h1
         case measure=>simp [intOf];omega
      ·obtain rfl:k=64:=by omega
       obtain ⟨X,HXX⟩:∃X,Box ((rnd W (St.of H) 64).list=X):=⟨_,⟨rfl⟩⟩
       have hXl:X.length=8:=by rw [<-HXX.out];rfl
       have hXw:Wrd X:=by rw [<-HXX.out];exact wrd_list (rnd_ok W _ (St.z7w hHw) 64)
       rw [HXX.out] at HB
       have HM:Box (mz X H 8=mix H (sched M p)):=⟨by rw [mz_comm X H hXl hH,<-HXX.out,<-HX.out];rfl⟩
       clear HXX HX hk hlt
       go_wp2
       go_loopw [23] (fun i wr=>∃k:Nat,k<=8/\i=.int .i64 k/\Box (Blk w wr S K V H W (mz X H k))) (fun i _=>8-(intOf i).toNat)
       case atStart=>exact ⟨0,by omega,rfl,HB⟩
       case round=>
        clear HB
        obtain ⟨k,hk,rfl,HB⟩:=hrel
        by_cases hlt:k<8
        ·have c1:=q0x wr V k (mz X H k) _ _ HB.out.2.2.2.2.1 (by rw [q7d];omega)
         rw [mz_far X H k k (Nat.le_refl _)] at c1
         have c2:=q0x wr S k H _ _ HB.out.1 (by omega)
         have f1:wr.frozen? ⟨V,k,none⟩=false:=frozen_of_row wr _ _ _ 179 HB.out.2.2.2.2.1
         have b1:=hXw k
         have b2:=hHw k
         have HN:Box (Blk w (wr.setCell ⟨V,k,none⟩ (.int .u32 ((X.getD k 0+H.getD k 0)%4294967296))) S K V H W (mz X H (k+1))):=⟨HB.out.set hSK hKV k _⟩
         generalize X.getD k 0=y1 at c1 b1 HN
         generalize H.getD k 0=y2 at c2 b2 HN
         obtain ⟨b11,b12⟩:=b1
         obtain ⟨b21,b22⟩:=b2
         go_wp2
         go_region
         go_wp2
         go_roundw
         case rel=>exact ⟨k+1,by omega,by go_num,⟨HN.out.drew⟩⟩
         case measure=>simp [intOf];omega
        ·obtain rfl:k=8:=by omega
         obtain ⟨Z,HZ⟩:∃Z,Box (mz X H 8=Z):=⟨_,⟨rfl⟩⟩
         rw [HZ.out] at HB
         have hsz:(u32s Z).size=8:=by rw [<-HZ.out,q1q,q7d,hXl]
         have HF:Box ((u32s Z).size=8/\(u32s Z).all (·.oneCell')=true/\Blk w wr S K V H W Z):=⟨hsz,q2l Z,HB.out⟩
         clear hsz HB
         go_wp2_with (first | (refine wpList_load_row rfl 179 _ rfl V rfl 179 (u32s Z) (0,0) _ HF.out.2.2.2.2.2.2.1 Tryz.underlying179 rfl (by rw [HF.out.1];kernel_rfl) ?_) | (refine wpList_store_row rfl 179 _ _ rfl (S+1) (u32s Z) rfl rfl 179 (fil [] 8) HF.out.2.2.2.1 (by rw [HF.out.1];kernel_rfl) (by rw [HF.out.1];rfl) HF.out.2.1 ?_))
         (try simp only [Exit.inBlock,Exit.then])
         refine bodyPost_ret (results_cell_row (p:=6) (ty:=179) rfl _ _ (S+1) 179 (u32s Z) (0,0) _ rfl (setRow_heap _ _ _ _ _ _ HF.out.2.2.2.1) Tryz.underlying179 rfl (by rw [HF.out.1];kernel_rfl)) rfl ?_
         exact ⟨by rw [<-HZ.out,HM.out],by rw [HS.out];exact below_setRow HF.out.2.2.2.2.2.2.2 (by omega) _⟩
theorem q1z {w:World} {base n:Nat} {v:Value} {xs:List Value} (h:w.ownsRow base 5 1 v n xs):∃a cap,v=.slice a n cap:=by
 rcases h.2 with ⟨rfl,rfl⟩ | ⟨g,cap',cur,rfl,_⟩
 ·exact ⟨_,_,rfl⟩
 ·exact ⟨_,_,rfl⟩
theorem q2p {w:World} {base n cap:Nat} {a:Option Addr} {L:List Int} (h:w.ownsRow base 5 1 (.slice a n cap) n (L.map (Value.int .u8))) (hL:Byt L):Bytes w a n L:=by
 have hn:L.length=n:=by simpa using h.1
 refine ⟨hn,hL,fun hp=>?_⟩
 rcases h.2 with ⟨_,h3⟩ | ⟨g,cap',cur,h3,_,hh,_,_,_,_⟩
 ·omega
 ·simp only [Value.slice.injEq,true_and] at h3
  obtain ⟨rfl,rfl⟩:=h3
  refine ⟨g,0,rfl,(gE hh),fun i hi=>?_⟩
  rw [Nat.zero_add,h.cellAt i (by omega)]
  have hi':i<L.length:=by rw [hn];exact hi
  simp [hi']
theorem q2c {w:World} {base n:Nat} {v:Value} {xs:List Value} (h:w.ownsRow base 5 1 v n xs):∀k,v.ownBlock=some k->base<=k:=fun k hk=>(h.lt k hk).1
theorem q5s {w:World} {ad:Addr} {len:Nat} {L:List Int} (h:Bytes w (some ad) len L):∀j u,(L.map (Value.int .u8))[j]?=some u->w.cell? (ad.add j)=some u:=by
 intro j u hj
 have hlt:j<L.length:=by simpa using (List.getElem?_eq_some_iff.1 hj).1
 obtain ⟨b,off,he,_,hc⟩:=h.2.2 (by rw [<-h.1];omega)
 simp only [Option.some.injEq] at he
 subst he
 rw [Addr.add_lit,hc j (by rw [<-h.1];exact hlt),<-hj]
 simp [hlt]
theorem q1m {ops:Array Oper} {rest:List Oper} {o:Oper} {act:Act} {w:World} {Q:Exit->Act->World->Prop} (hgd:o.guard=none) (s x:Operand)
  (ho:o.op=.call {callee:=.builtin .append,args:=#[s,x],argTypes:=#[57,57]}) (base n m c:Nat) (v:Value) (A L:List Int) (a:Option Addr) (w0:World)
  (hs:act.eval s=v) (hx:act.eval x=.slice a m c) (hown:w.ownsRow base 5 1 v n (A.map (Value.int .u8))) (hb:Bytes w a m L) (hl:n+m<=140737488355328) (hbel:Below base w0 w) (hbase:base<=w.heap.size)
  (h:∀v' w',Box (w'.ownsRow base 5 1 v' (n+m) ((A++L).map (Value.int .u8))/\Below base w0 w'/\base<=w'.heap.size)->wpList Tryz.prog ops Q rest (act.put o.dst v') w'):wpList Tryz.prog ops Q (o::rest) act w:=by
 obtain ⟨i0,hi,hz0,hz1,hz2⟩:=info_parts info5
 cases a with
 | none=>
  have hm:m=0:=by
   by_cases hm:m=0
   ·exact hm
   ·obtain ⟨_,_,he,_⟩:=hb.2.2 (by omega)
    cases he
  subst hm
  obtain rfl:L=[]:=List.eq_nil_of_length_eq_zero hb.1
  refine wpList_plain hgd fun _ hK=>?_
  unfold Oper.wp execOp
  simp only [ho,resolve,invoke,builtin,Sem.run_bind,Sem.run_pure,Result.andThen_ok,List.map_toArray,List.map_cons,List.map_nil,hs,hx,q3j hown]
  exact hK _ _ (h v w ⟨by simpa using hown,hbel,hbase⟩)
 | some ad=>
  refine wpList_append_own w hgd s x 57 ho base 5 i0 (.int .u8 0) 1 1 Tryz.underlying57 hi hz0 hz1 hz2 rfl (by decide) v n _ hs hown ad m c (L.map (Value.int .u8)) hx (by simp [hb.1]) (q5s hb) (ints_oneCell _ _) (by unfold maxLen;omega) (by omega) hbase ?_
  intro v' w' h1 h2 _
  have:=h2.size
  exact h v' w' ⟨by rw [List.map_append];exact h1,hbel.grown h2 hbase (q2c hown),by omega⟩
theorem q6k {ops:Array Oper} {rest:List Oper} {o:Oper} {act:Act} {w:World} {Q:Exit->Act->World->Prop} (hgd:o.guard=none) (s x:Operand)
  (ho:o.op=.call {callee:=.builtin .append,args:=#[s,x],argTypes:=#[57,57]}) (base n:Nat) (v:Value) (A:List Int) (z:Int) (w0:World)
  (hs:act.eval s=v) (hx:act.eval x=.slice (some ⟨w.heap.size,0,none⟩) 1 1) (hown:w.ownsRow base 5 1 v n (A.map (Value.int .u8))) (hl:n+1<=140737488355328) (hbel:Below base w0 w) (hbase:base<=w.heap.size)
  (h:∀v' w',Box (w'.ownsRow base 5 1 v' (n+1) ((A++[z]).map (Value.int .u8))/\Below base w0 w'/\base<=w'.heap.size)->wpList Tryz.prog ops Q rest (act.put o.dst v') w'):wpList Tryz.prog ops Q (o::rest) act (w.alloc (.cells #[.int .u8 z] 5)):=by
 obtain ⟨i0,hi,hz0,hz1,hz2⟩:=info_parts info5
 refine wpList_append_own _ hgd s x 57 ho base 5 i0 (.int .u8 0) 1 1 Tryz.underlying57 hi hz0 hz1 hz2 rfl (by decide) v n _ hs (hown.alloc _) _ 1 1 [.int .u8 z] hx rfl (cell_one_new _ _ _) (q6n z) (by unfold maxLen;omega) (by omega) (by simp;omega) ?_
 intro v' w' h1 h2 _
 have:=h2.size
 simp at this
 exact h v' w' ⟨by rw [List.map_append];exact h1,(hbel.alloc hbase _).grown h2 (by simp;omega) (q2c hown),by omega⟩
end Go.Proofs.YtjejnlebpcjidaaGreatDoor.Dig
