/-
 The reference's Get of records. And what follows it.
-/
import Derived.Test.YtjejnlebpcjidaaGreatDoorQ26
import Derived.Test.YtjejnlebpcjidaaGreatDoorQ34
import Derived.Test.YtjejnlebpcjidaaGreatDoorQ29
set_option linter.unusedVariables false
set_option maxRecDepth 100000
set_option maxRecDepth 100000
namespace Go.Proofs.YtjejnlebpcjidaaGreatDoor
open Go.RowKit Plain
theorem z0k (L:List Int) (hL:Byt L):(num L 0 8=1∨num L 0 8=257) ↔ (L.getD 0 0=1/\L.getD 1 0<=1/\∀i,2<=i->i<8->L.getD i 0=0):=by
 have e:num L 0 8=L.getD 0 0+L.getD 1 0*256+L.getD 2 0*65536+L.getD 3 0*16777216+L.getD 4 0*4294967296+L.getD 5 0*1099511627776+L.getD 6 0*281474976710656+L.getD 7 0*72057594037927936:=by
  simp only [num,Nat.zero_add]
  omega
 have h0:=hL 0
 have h1:=hL 1
 have h2:=hL 2
 have h3:=hL 3
 have h4:=hL 4
 have h5:=hL 5
 have h6:=hL 6
 have h7:=hL 7
 constructor
 ·intro h
  refine ⟨by omega,by omega,fun i hi1 hi2=>?_⟩
  have:i=2∨i=3∨i=4∨i=5∨i=6∨i=7:=by omega
  rcases this with rfl | rfl | rfl | rfl | rfl | rfl<;>omega
 ·rintro ⟨a0,a1,ha⟩
  have a2:=ha 2 (by omega) (by omega)
  have a3:=ha 3 (by omega) (by omega)
  have a4:=ha 4 (by omega) (by omega)
  have a5:=ha 5 (by omega) (by omega)
  have a6:=ha 6 (by omega) (by omega)
  have a7:=ha 7 (by omega) (by omega)
  omega
theorem head_one (L:List Int) (hL:Byt L) (h:num L 0 8=1∨num L 0 8=257):decide (num L 0 8=257)=(L.getD 1 0==1):=by
 obtain ⟨a0,a1,ha⟩:=(z0k L hL).1 h
 have h1:=hL 1
 have e:num L 0 8=L.getD 0 0+L.getD 1 0*256+L.getD 2 0*65536+L.getD 3 0*16777216+L.getD 4 0*4294967296+L.getD 5 0*1099511627776+L.getD 6 0*281474976710656+L.getD 7 0*72057594037927936:=by
  simp only [num,Nat.zero_add]
  omega
 rw [Bool.eq_iff_iff,decide_eq_true_iff,beq_iff_eq,e,a0,ha 2 (by omega) (by omega),ha 3 (by omega) (by omega),ha 4 (by omega) (by omega),ha 5 (by omega) (by omega),ha 6 (by omega) (by omega),ha 7 (by omega) (by omega)]
 omega
structure Tz (w w':World) (S:Nat):Prop where
 r0:w'.heap[S]?=some (.cells #[.int .u64 0,.string ByteArray.empty,.bool false] 107 (0,0))
 r1:w'.heap[S+1]?=some (.cells #[.int .u64 0,.string ByteArray.empty,.bool false] 107 (0,0))
 sz:w'.heap.size=S+2
 bl:Below w.heap.size w w'
 s0:w.heap.size=S
theorem tz_new (w:World):Tz w ((w.alloc (.cells #[.int .u64 0,.string ByteArray.empty,.bool false] 107)).alloc (.cells #[.int .u64 0,.string ByteArray.empty,.bool false] 107)) w.heap.size:=
 ⟨q0i (q0g rfl),q0g (by simp),by simp,((Below.refl _ _).alloc (Nat.le_refl _) _).alloc (by simp) _,rfl⟩
theorem Tz.range {w w':World} {S:Nat} (h:Tz w w' S):w'.rangeAt (S+1) 0 [.int .u64 0,.string ByteArray.empty,.bool false]:=q2a h.r1 _ (fun j v hv=>by simpa using hv)
theorem Tz.fin {w w':World} {S:Nat} (h:Tz w w' S) (cs:Array Value):Below w.heap.size w (w'.setRow S cs):=below_setRow h.bl (Nat.le_of_eq h.s0) _
set_option maxRecDepth 20000 in
set_option maxHeartbeats 2000000 in
theorem rrget_no (L:List Int) (hL:Byt L) (hll:L.length<=1000000) (hn:¬fitR L) (w:World):
  Calls Tryz.prog 59 #[.string (strOfNums L)] w fun e w'=>e=.returned (.tuple #[.agg #[.int .u64 0,.string ByteArray.empty,.bool false],.int .i64 11])/\Below w.heap.size w w':=by
 have HI:Box (∀i:Nat,i<L.length->∀x,(Instr.index 9 (.string (strOfNums L)) (.int .i64 (i:Int))).run Tryz.prog x=.ok (.int .u8 (L.getD i 0)) x):=⟨fun i hi x=>q5h L hL i hi x⟩
 have hs:(strOfNums L).size=L.length:=q1w L
 have hbd:=hL
 obtain ⟨S,hS⟩:=nm w.heap.size
 obtain ⟨w2,hw2⟩:=nm ((w.alloc (.cells #[.int .u64 0,.string ByteArray.empty,.bool false] 107)).alloc (.cells #[.int .u64 0,.string ByteArray.empty,.bool false] 107))
 have HT:Box (Tz w w2 S):=⟨by rw [<-hw2,<-hS];exact tz_new w⟩
 have hsz:(w.alloc (.cells #[.int .u64 0,.string ByteArray.empty,.bool false] 107)).heap.size=S+1:=by simp [hS]
 obtain ⟨w1,hw1⟩:=nm (w.alloc (.cells #[.int .u64 0,.string ByteArray.empty,.bool false] 107))
 rw [hw1] at hw2 hsz
 generalize strOfNums L=s at HI hs ⊢
 by_cases h176:L.length=176
 ·have hsz1:((s.size:Int) != 176)=false:=by simp;omega
  have hs176:s.size=176:=by omega
  have i0:=HI.out 0 (by omega)
  have i1:=HI.out 1 (by omega)
  simp only [Int.natCast_zero,Int.natCast_one] at i0 i1
  have i0':∀x,(Instr.index 9 (.string s) (.int .i64 0)).run Tryz.prog x=.ok (.int .u8 (L.getD 0 0)) x:=i0
  have i1':∀x,(Instr.index 9 (.string s) (.int .i64 1)).run Tryz.prog x=.ok (.int .u8 (L.getD 1 0)) x:=i1
  clear i0 i1
  obtain ⟨z0,hz0⟩:=nm (L.getD 0 0)
  obtain ⟨z1,hz1⟩:=nm (L.getD 1 0)
  rw [hz0] at i0'
  rw [hz1] at i1'
  by_cases c0:z0=1
  ·have d0:(z0 != 1)=false:=by simp [c0]
   by_cases c1:z1<=1
   ·have d1:decide (1<z1)=false:=by simp;omega
    have d1':¬1<z1:=by omega
    have HQ:Box (¬∀i,2<=i->i<8->L.getD i 0=0):=⟨fun h=>hn ⟨h176,(z0k L hL).2 ⟨by rw [hz0];exact c0,by rw [hz1];exact c1,h⟩⟩⟩
    have HLn:Box (L.length=176):=⟨h176⟩
    clear hn h176 hz0 hz1 c0 c1 hL hll hs
    go_enter Tryz.func59,Tryz.ntmps59
    go_upto_region 2 with (refine atAlloc _ ?_;refine q0b rfl _ _ (q0e 107 rfl _ zeroRr) ?_)
    (try simp only [hw2,hsz])
    clear hw1 hw2 hS hsz
    go_wp2
    go_loopw [5] (fun i wr=>∃k:Nat,2<=k/\k<=8/\i=.int .i64 (k:Int)/\wr=w2/\Box (∀i,2<=i->i<k->L.getD i 0=0)) (fun i _=>8-(intOf i).toNat)
    case atStart=>exact ⟨2,by omega,by omega,rfl,rfl,⟨fun i h1 h2=>by omega⟩⟩
    case round=>
     obtain ⟨k,hk1,hk2,rfl,rfl,HK⟩:=hrel
     by_cases hlt:k<8
     ·have hk:=HI.out k (by have:=HLn.out;omega)
      have HZ:Box (L.getD k 0=0∨¬L.getD k 0=0):=⟨Classical.em _⟩
      obtain ⟨z,hz⟩:=nm (L.getD k 0)
      rw [hz] at hk HZ
      have HZE:Box (L.getD k 0=z):=⟨hz⟩
      have hw5:IntKind.i64.wrap ((k:Int)+1)=((k+1:Nat):Int):=by rw [IntKind.wrap_i64];omega
      clear hz
      rcases HZ.out with e | e
      ·have dz:(z != 0)=false:=by simp [e]
       have HE:Box (z=0):=⟨e⟩
       clear e HZ
       go_wp2
       go_roundw
       case rel=>exact ⟨k+1,by omega,by omega,by go_num,by trivial,⟨fun i h1 h2=>by
        by_cases hik:i=k
        ·rw [hik,HZE.out,HE.out]
        ·exact HK.out i h1 (by omega)⟩⟩
       case measure=>simp [intOf];omega
      ·have dz:(z != 0)=true:=by simp [e]
       clear e HZ
       go_wp2_with (first
        | (refine atLoad 107 ?_;refine q0c rfl 107 _ _ rfl Tryz.underlying107 rfl (S+1) 0 rfl [.int .u64 0,.string ByteArray.empty,.bool false] infoRr HT.out.range ?_)
        | (refine atStore _ ?_;refine wpList_store_row rfl 107 _ _ rfl S #[.int .u64 0,.string ByteArray.empty,.bool false] rfl rfl 107 _ HT.out.r0 infoRr rfl (by simp [Value.oneCell']) ?_))
       refine bodyPost_ret (q1a (t:=2) (u:=3) rfl _ Tryz.underlying107 rfl _ _ S #[.int .u64 0,.string ByteArray.empty,.bool false] infoRr rfl (setRow_heap _ _ _ _ _ _ HT.out.r0)) rfl ?_
       exact ⟨rfl,HT.out.fin _⟩
     ·obtain rfl:k=8:=by omega
      exact absurd HK.out HQ.out
   ·have d1:decide (1<z1)=true:=by simp;omega
    have d1':1<z1:=by omega
    clear hn h176 hz0 hz1 c0 c1 hL hll hs
    go_enter Tryz.func59,Tryz.ntmps59
    go_upto_region 2 with (refine atAlloc _ ?_;refine q0b rfl _ _ (q0e 107 rfl _ zeroRr) ?_)
    (try simp only [hw2,hsz])
    clear hw1 hw2 hS hsz
    go_wp2_with (first
     | (refine atLoad 107 ?_;refine q0c rfl 107 _ _ rfl Tryz.underlying107 rfl (S+1) 0 rfl [.int .u64 0,.string ByteArray.empty,.bool false] infoRr HT.out.range ?_)
     | (refine atStore _ ?_;refine wpList_store_row rfl 107 _ _ rfl S #[.int .u64 0,.string ByteArray.empty,.bool false] rfl rfl 107 _ HT.out.r0 infoRr rfl (by simp [Value.oneCell']) ?_))
    refine bodyPost_ret (q1a (t:=2) (u:=3) rfl _ Tryz.underlying107 rfl _ _ S #[.int .u64 0,.string ByteArray.empty,.bool false] infoRr rfl (setRow_heap _ _ _ _ _ _ HT.out.r0)) rfl ?_
    exact ⟨rfl,HT.out.fin _⟩
  ·have d0:(z0 != 1)=true:=by simp [c0]
   clear hn h176 hz0 hz1 c0 hL hll hs
   go_enter Tryz.func59,Tryz.ntmps59
   go_upto_region 2 with (refine atAlloc _ ?_;refine q0b rfl _ _ (q0e 107 rfl _ zeroRr) ?_)
   (try simp only [hw2,hsz])
   clear hw1 hw2 hS hsz
   go_wp2_with (first
    | (refine atLoad 107 ?_;refine q0c rfl 107 _ _ rfl Tryz.underlying107 rfl (S+1) 0 rfl [.int .u64 0,.string ByteArray.empty,.bool false] infoRr HT.out.range ?_)
    | (refine atStore _ ?_;refine wpList_store_row rfl 107 _ _ rfl S #[.int .u64 0,.string ByteArray.empty,.bool false] rfl rfl 107 _ HT.out.r0 infoRr rfl (by simp [Value.oneCell']) ?_))
   refine bodyPost_ret (q1a (t:=2) (u:=3) rfl _ Tryz.underlying107 rfl _ _ S #[.int .u64 0,.string ByteArray.empty,.bool false] infoRr rfl (setRow_heap _ _ _ _ _ _ HT.out.r0)) rfl ?_
   exact ⟨rfl,HT.out.fin _⟩
 ·have hsz1:((s.size:Int) != 176)=true:=by simp;omega
  have hs176:¬s.size=176:=by omega
  clear hn h176 hL hll hs
  go_enter Tryz.func59,Tryz.ntmps59
  go_upto_region 2 with (refine atAlloc _ ?_;refine q0b rfl _ _ (q0e 107 rfl _ zeroRr) ?_)
  (try simp only [hw2,hsz])
  clear hw1 hw2 hS hsz
  go_wp2_with (first
   | (refine atLoad 107 ?_;refine q0c rfl 107 _ _ rfl Tryz.underlying107 rfl (S+1) 0 rfl [.int .u64 0,.string ByteArray.empty,.bool false] infoRr HT.out.range ?_)
   | (refine atStore _ ?_;refine wpList_store_row rfl 107 _ _ rfl S #[.int .u64 0,.string ByteArray.empty,.bool false] rfl rfl 107 _ HT.out.r0 infoRr rfl (by simp [Value.oneCell']) ?_))
  refine bodyPost_ret (q1a (t:=2) (u:=3) rfl _ Tryz.underlying107 rfl _ _ S #[.int .u64 0,.string ByteArray.empty,.bool false] infoRr rfl (setRow_heap _ _ _ _ _ _ HT.out.r0)) rfl ?_
  exact ⟨rfl,HT.out.fin _⟩
theorem z4v {w:World} {g i:Nat} {cs:Array Value} {t:TypeId} {v:Value} (h:w.heap[g]?=some (.cells cs t (0,0))):(w.setCell ⟨g,i,none⟩ v).heap[g]?=some (.cells (cs.setIfInBounds i v) t (0,0)):=heap_setCell_same w g i cs t v h
theorem z4n {w:World} {g i k:Nat} {v:Value} (h:k≠g):(w.setCell ⟨g,i,none⟩ v).heap[k]?=w.heap[k]?:=heap_setCell_other w ⟨g,i,none⟩ k v h
set_option maxRecDepth 20000 in
set_option maxHeartbeats 2000000 in
theorem rrget_ok (L:List Int) (hL:Byt L) (hn:fitR L) (w:World):
  Calls Tryz.prog 59 #[.string (strOfNums L)] w fun e w'=>e=.returned (.tuple #[.agg (rrc (getP L)).toArray,.int .i64 0])/\Below w.heap.size w w':=by
 have HI:Box (∀i:Nat,i<L.length->∀x,(Instr.index 9 (.string (strOfNums L)) (.int .i64 (i:Int))).run Tryz.prog x=.ok (.int .u8 (L.getD i 0)) x):=⟨fun i hi x=>q5h L hL i hi x⟩
 have h176:=hn.1
 obtain ⟨a0,a1,ha⟩:=(z0k L hL).1 hn.2
 have hlast:=head_one L hL hn.2
 have hs176:(strOfNums L).size=176:=by rw [q1w,h176]
 obtain ⟨q,hq⟩:=nm (num L 8 8)
 obtain ⟨sd,hsd⟩:=nm (strOfNums (L.drop 16))
 obtain ⟨lb,hlb⟩:=nm ((L.getD 1 0==1))
 have HRES:Box ((rrc (getP L)).toArray=#[.int .u64 q,.string sd,.bool lb]):=⟨by unfold getP rrc;simp only;rw [hq,hsd,hlast,hlb]⟩
 rw [HRES.out]
 have hdr:∀x,(Instr.sliceAt 9 (.string (strOfNums L)) (some (.int .i64 16)) none none).run Tryz.prog x=.ok (.string sd) x:=fun x=>by rw [<-hsd];exact str_drop L 16 (by omega) x
 have HCs:Box (∀x,∃c w',(convert 9 57 (.string (strOfNums L))).run Tryz.prog x=.ok (.slice (some ⟨x.heap.size,0,none⟩) 176 c) w'/\Bytes w' (some ⟨x.heap.size,0,none⟩) 176 L/\Below x.heap.size x w'):=⟨fun x=>by
  have:=q5q x L hL
  rwa [h176] at this⟩
 have C1:Box (∀x a c,Bytes x a 176 L->Calls Tryz.prog 86 #[.slice a 176 c,.int .i64 8,.int .i64 8] x fun e w'=>e=.returned (.tuple #[.int .u64 q,.int .i64 0])/\x=w'):=⟨fun x a c hB=>by rw [<-hq];exact z0t a 176 c L 8 8 x hB (by unfold maxLen;omega) (by omega) (by omega) (by omega)⟩
 obtain ⟨S,hS⟩:=nm w.heap.size
 obtain ⟨w2,hw2⟩:=nm ((w.alloc (.cells #[.int .u64 0,.string ByteArray.empty,.bool false] 107)).alloc (.cells #[.int .u64 0,.string ByteArray.empty,.bool false] 107))
 have HT:Box (Tz w w2 S):=⟨by rw [<-hw2,<-hS];exact tz_new w⟩
 have hsz:(w.alloc (.cells #[.int .u64 0,.string ByteArray.empty,.bool false] 107)).heap.size=S+1:=by simp [hS]
 obtain ⟨w1,hw1⟩:=nm (w.alloc (.cells #[.int .u64 0,.string ByteArray.empty,.bool false] 107))
 rw [hw1] at hw2 hsz
 generalize strOfNums L=s at HI hs176 HCs hdr ⊢
 have hsz1:((s.size:Int) != 176)=false:=by simp;omega
 have i0':∀x,(Instr.index 9 (.string s) (.int .i64 0)).run Tryz.prog x=.ok (.int .u8 (L.getD 0 0)) x:=HI.out 0 (by omega)
 have i1':∀x,(Instr.index 9 (.string s) (.int .i64 1)).run Tryz.prog x=.ok (.int .u8 (L.getD 1 0)) x:=HI.out 1 (by omega)
 obtain ⟨z0,hz0⟩:=nm (L.getD 0 0)
 obtain ⟨z1,hz1⟩:=nm (L.getD 1 0)
 rw [hz0] at i0' a0
 rw [hz1] at i1' a1 hlb
 have d0:(z0 != 1)=false:=by simp [a0]
 have d1':¬1<z1:=by omega
 have HA:Box ((∀i,2<=i->i<8->L.getD i 0=0)/\L.length=176):=⟨ha,h176⟩
 clear hn h176 hz0 hz1 a0 hL ha hlast hq hsd
 have HEND:Box (∀x3 y:World,(w2.setCell ⟨S+1,2,none⟩ (.bool lb))=x3->Bytes y (some ⟨x3.heap.size,0,none⟩) 176 L/\Below x3.heap.size x3 y->y.heap[S+1]?=some (.cells #[.int .u64 0,.string ByteArray.empty,.bool lb] 107 (0,0))/\y.heap[S]?=some (.cells #[.int .u64 0,.string ByteArray.empty,.bool false] 107 (0,0))/\Below w.heap.size w y):=⟨fun x3 y h1 h2=>by
  have e1:x3.heap[S+1]?=some (.cells #[.int .u64 0,.string ByteArray.empty,.bool lb] 107 (0,0)):=by rw [<-h1,z4v HT.out.r1];rfl
  have e2:x3.heap[S]?=some (.cells #[.int .u64 0,.string ByteArray.empty,.bool false] 107 (0,0)):=by rw [<-h1,z4n (by omega)];exact HT.out.r0
  have e3:Below w.heap.size w x3:=by rw [<-h1];exact q2i HT.out.bl (by have:=HT.out.s0;omega) _
  exact ⟨(h2.2.block _ (gE e1)).trans e1,(h2.2.block _ (gE e2)).trans e2,q0a e3 h2.2⟩⟩
 have f2:w2.frozen? ⟨S+1,2,none⟩=false:=frozen_of_row w2 (S+1) 2 _ _ HT.out.r1
 have cc2:w2.cell? ⟨S+1,2,none⟩=some (.bool false):=by rw [cell_of_row _ _ _ _ _ _ HT.out.r1];rfl
 go_enter Tryz.func59,Tryz.ntmps59
 go_upto_region 2 with (refine atAlloc _ ?_;refine q0b rfl _ _ (q0e 107 rfl _ zeroRr) ?_)
 (try simp only [hw2,hsz])
 clear hw1 hw2 hS hsz
 go_wp2
 go_loopw [5] (fun i wr=>∃k:Nat,2<=k/\k<=8/\i=.int .i64 (k:Int)/\w2=wr) (fun i _=>8-(intOf i).toNat)
 case atStart=>exact ⟨2,by omega,by omega,rfl,rfl⟩
 case round=>
  obtain ⟨k,hk1,hk2,rfl,rfl⟩:=hrel
  by_cases hlt:k<8
  ·have hk:=HI.out k (by have:=HA.out.2;omega)
   have hz:=HA.out.1 k hk1 hlt
   rw [hz] at hk
   have hw5:IntKind.i64.wrap ((k:Int)+1)=((k+1:Nat):Int):=by rw [IntKind.wrap_i64];omega
   clear hz
   go_wp2
   go_roundw
   case rel=>exact ⟨k+1,by omega,by omega,by go_num,by trivial⟩
   case measure=>simp [intOf];omega
  ·have hk8:k=8:=by omega
   clear hk1 hk2 hk8
   go_upto_region 10 with fail
   obtain ⟨x3,hx3⟩:=nm ((w2.setCell ⟨S+1,2,none⟩ (.bool lb)))
   (try simp only [hx3])
   obtain ⟨cv,y,hcv1,hcv2⟩:=HCs.out x3
   have HY:Box _:=⟨HEND.out x3 y hx3 hcv2⟩
   have HBy:Box _:=⟨hcv2.1⟩
   have f0:y.frozen? ⟨S+1,0,none⟩=false:=frozen_of_row y (S+1) 0 _ _ HY.out.1
   have cc0:y.cell? ⟨S+1,0,none⟩=some (.int .u64 0):=by rw [cell_of_row _ _ _ _ _ _ HY.out.1];rfl
   clear hcv2 hx3 f2 cc2 HEND HCs
   go_upto_region 11 with (go_at_call 86;refine (C1.out y _ cv HBy.out).mono ?_;rintro e x5 ⟨rfl,rfl⟩)
   obtain ⟨y2,hy2⟩:=nm (y.setCell ⟨S+1,0,none⟩ (.int .u64 q))
   (try simp only [hy2])
   have HY2:Box (y2.heap[S+1]?=some (.cells #[.int .u64 q,.string ByteArray.empty,.bool lb] 107 (0,0))/\y2.heap[S]?=some (.cells #[.int .u64 0,.string ByteArray.empty,.bool false] 107 (0,0))/\Below w.heap.size w y2):=⟨by rw [<-hy2,z4v HY.out.1];rfl,by rw [<-hy2,z4n (by omega)];exact HY.out.2.1,by rw [<-hy2];exact q2i HY.out.2.2 (by have:=HT.out.s0;omega) _⟩
   have f1:y2.frozen? ⟨S+1,1,none⟩=false:=frozen_of_row y2 (S+1) 1 _ _ HY2.out.1
   have cc1:y2.cell? ⟨S+1,1,none⟩=some (.string ByteArray.empty):=by rw [cell_of_row _ _ _ _ _ _ HY2.out.1];rfl
   clear hy2 f0 cc0 HY HBy
   go_upto_region 12 with fail
   obtain ⟨y3,hy3⟩:=nm (y2.setCell ⟨S+1,1,none⟩ (.string sd))
   (try simp only [hy3])
   have HY3:Box (y3.heap[S+1]?=some (.cells #[.int .u64 q,.string sd,.bool lb] 107 (0,0))/\y3.heap[S]?=some (.cells #[.int .u64 0,.string ByteArray.empty,.bool false] 107 (0,0))/\Below w.heap.size w y3):=⟨by rw [<-hy3,z4v HY2.out.1];rfl,by rw [<-hy3,z4n (by omega)];exact HY2.out.2.1,by rw [<-hy3];exact q2i HY2.out.2.2 (by have:=HT.out.s0;omega) _⟩
   have HRG:Box (y3.rangeAt (S+1) 0 [.int .u64 q,.string sd,.bool lb]):=⟨q2a HY3.out.1 _ (fun j v hv=>by simpa using hv)⟩
   clear hy3 f1 cc1 HY2
   go_wp2_with (first
    | (refine atLoad 107 ?_;refine q0c rfl 107 _ _ rfl Tryz.underlying107 rfl (S+1) 0 rfl [.int .u64 q,.string sd,.bool lb] infoRr HRG.out ?_)
    | (refine atStore _ ?_;refine wpList_store_row rfl 107 _ _ rfl S #[.int .u64 q,.string sd,.bool lb] rfl rfl 107 _ HY3.out.2.1 infoRr rfl (by simp [Value.oneCell']) ?_))
   refine bodyPost_ret (q1a (t:=2) (u:=3) rfl _ Tryz.underlying107 rfl _ _ S #[.int .u64 q,.string sd,.bool lb] infoRr rfl (setRow_heap _ _ _ _ _ _ HY3.out.2.1)) rfl ?_
   exact ⟨rfl,below_setRow HY3.out.2.2 (Nat.le_of_eq HT.out.s0) _⟩
theorem foldl_of (d:List (Int × List Int)) (hd:d≠[]) (o:List (List (Int × List Int))):(ofP d).foldl chSt (o,[])=(o++[d],[]):=by
 obtain ⟨D,x,rfl⟩:∃D x,d=D++[x]:=⟨d.dropLast,d.getLast hd,(List.dropLast_concat_getLast hd).symm⟩
 rw [z0m,List.foldl_append]
 have key:∀(E:List (Int × List Int)) (nw:List (Int × List Int)),(E.map (fun y=>(y,false))).foldl chSt (o,nw)=(o,nw++E):=by
  intro E
  induction E with
  | nil=>intro nw;simp
  | cons y E ih=>
   intro nw
   rw [List.map_cons,List.foldl_cons]
   have:chSt (o,nw) (y,false)=(o,nw++[y]):=by simp [chSt]
   rw [this,ih]
   simp
 rw [key]
 simp [chSt]
theorem chS_of (D:List (List (Int × List Int))) (h:∀d∈D,d≠[]):chS ((D.map ofP).flatten)=(D,[]):=by
 have key:∀(E:List (List (Int × List Int))) (o:List (List (Int × List Int))),(∀d∈E,d≠[])->((E.map ofP).flatten).foldl chSt (o,[])=(o++E,[]):=by
  intro E
  induction E with
  | nil=>intro o _;simp
  | cons d E ih=>
   intro o hE
   rw [List.map_cons,List.flatten_cons,List.foldl_append,foldl_of d (hE d (by simp)),ih _ (fun x hx=>hE x (by simp [hx]))]
   simp
 have:=key D [] h
 simpa [chS] using this
theorem last_of (D:List (List (Int × List Int))) (h:∀d∈D,d≠[]) (h0:0<((D.map ofP).flatten).length):(((D.map ofP).flatten)[((D.map ofP).flatten).length-1]'(by omega)).2=true:=by
 obtain ⟨E,d,rfl⟩:∃E d,D=E++[d]:=by
  have:D≠[]:=by intro e;subst e;simp at h0
  exact ⟨D.dropLast,D.getLast this,(List.dropLast_concat_getLast this).symm⟩
 have hd:=h d (by simp)
 obtain ⟨F,x,rfl⟩:∃F x,d=F++[x]:=⟨d.dropLast,d.getLast hd,(List.dropLast_concat_getLast hd).symm⟩
 have e:((E++[F++[x]]).map ofP).flatten=((E.map ofP).flatten++F.map (fun y=>(y,false)))++[(x,true)]:=by
  simp [z0m]
 have h2:(((E++[F++[x]]).map ofP).flatten)[(((E++[F++[x]]).map ofP).flatten).length-1]?=some (x,true):=by
  rw [e]
  simp
 rw [List.getElem?_eq_getElem (by omega)] at h2
 rw [Option.some.inj h2]
def RcOk (r:(Int × List Int) × Bool):Prop:=r.1.2.length=160/\Byt r.1.2/\N64 r.1.1
theorem opn_slt (K:List Int) (p:Nat) (v:Int) (r:(Int × List Int) × Bool) (hr:RcOk r) (hv:1<=v/\v<=9223372036854775807):Opn K (p,slt K (p:Int) v r)/\opR K (p,slt K (p:Int) v r)=r:=by
 have hl:=q8e r hr.1
 have e:Seal.op K (p:Int) (slt K (p:Int) v r) 176=putP r:=Seal.op_sl K (p:Int) v (putP r) 176 hl (z0y r hr.2.1) (by omega) ⟨by omega,by omega⟩
 refine ⟨⟨Seal.sl_fit K (p:Int) v (putP r) 176 hl (by omega) ⟨by omega,by omega⟩ (by omega) (by omega),?_⟩,?_⟩
 ·show fitR (Seal.op K (p:Int) (slt K (p:Int) v r) 176)
  rw [e]
  exact fit_putP r hr.1
 ·show getP (Seal.op K (p:Int) (slt K (p:Int) v r) 176)=r
  rw [e]
  exact getP_putP r hr.2.2
structure Jn (d:Disk.Dk) (K:List Int) (f n:Nat) (s:Jst) (R:List ((Int × List Int) × Bool)):Prop where
 ct:s.count=R.length
 tg:chn (lds d f n s)=s.tag
 op:∀x∈lds d f n s,Opn K x
 rs:(lds d f n s).map (opR K)=R
theorem jn_nil (d:Disk.Dk) (K:List Int) (f n:Nat) (st:Nat):Jn d K f n ⟨st,0,z32⟩ []:=⟨rfl,rfl,fun x hx=>by simp [lds,pcs] at hx,rfl⟩
theorem mod_other (st i c n:Nat) (h1:i<c) (h2:c<n):(st+i)%n≠(st+c)%n:=by
 intro e
 have h3:=Nat.sub_mod_eq_zero_of_mod_eq e.symm
 rw [show st+c-(st+i)=c-i by omega,Nat.mod_eq_of_lt (by omega)] at h3
 omega
theorem lds_wr (d:Disk.Dk) (f n:Nat) (s:Jst) (T tg:List Int) (hc:s.count<n):lds (Disk.wrOk d (f+(s.start+s.count)%n) T) f n ⟨s.start,s.count+1,tg⟩=lds d f n s++[(f+(s.start+s.count)%n,T)]:=by
 unfold lds
 show (pcs f n s.start (s.count+1)).map _=_
 rw [q6y,List.map_append]
 congr 1
 ·apply List.map_congr_left
  intro p hp
  obtain ⟨i,hi,rfl⟩:=List.mem_map.1 hp
  have hi':i<s.count:=List.mem_range.1 hi
  rw [Disk.lat_wr,if_neg]
  have:=mod_other s.start i s.count n hi' hc
  omega
 ·simp [Disk.lat_wr]
theorem Jn.step {d:Disk.Dk} {j:Jt} {s:Jst} {R:List ((Int × List Int) × Bool)} (h:Jn d j.key j.first j.size s R) (hc:s.count<j.size) (nx:Int) (hx:1<=nx/\nx<=9223372036854775807) (r:(Int × List Int) × Bool) (hr:RcOk r):
  Jn (Disk.wrOk d (plc j (s.start+s.count)) (slt j.key (plc j (s.start+s.count):Int) nx r)) j.key j.first j.size (nxS j s (plc j (s.start+s.count)) (slt j.key (plc j (s.start+s.count):Int) nx r)) (R++[r]):=by
 obtain ⟨o1,o2⟩:=opn_slt j.key (plc j (s.start+s.count)) nx r hr hx
 have e:=lds_wr d j.first j.size s (slt j.key (plc j (s.start+s.count):Int) nx r) (lnk s.tag (plc j (s.start+s.count):Int) (slt j.key (plc j (s.start+s.count):Int) nx r)) hc
 have e':lds (Disk.wrOk d (plc j (s.start+s.count)) (slt j.key (plc j (s.start+s.count):Int) nx r)) j.first j.size (nxS j s (plc j (s.start+s.count)) (slt j.key (plc j (s.start+s.count):Int) nx r))=lds d j.first j.size s++[(plc j (s.start+s.count),slt j.key (plc j (s.start+s.count):Int) nx r)]:=e
 refine ⟨by show s.count+1=_;rw [h.ct];simp,?_,?_,?_⟩
 ·rw [e',q6x,h.tg]
  rfl
 ·intro x hx
  rw [e'] at hx
  rcases List.mem_append.1 hx with hx | hx
  ·exact h.op x hx
  ·simp only [List.mem_cons,List.not_mem_nil,or_false] at hx
   rw [hx]
   exact o1
 ·rw [e',List.map_append,h.rs]
  simp [o2]
theorem jn_apL (j:Jt):∀(L:List ((Int × List Int) × Bool)) (d:Disk.Dk) (nx:Int) (s:Jst) (R:List ((Int × List Int) × Bool)),Up d->Jn d j.key j.first j.size s R->s.count+L.length<=j.size->(∀r∈L,RcOk r)->1<=nx->nx+(L.length:Int)<=9223372036854775807->Jn (apL j (d,nx,0,s) L).1 j.key j.first j.size (apL j (d,nx,0,s) L).2.2.2 (R++L)
 | [],d,nx,s,R,h,hj,_,_,_,_=>by simpa [apL] using hj
 | r::L,d,nx,s,R,h,hj,hc,hr,h1,h2=>by
  have e:apS j (d,nx,0,s) r=(Disk.wrOk d (plc j (s.start+s.count)) (apT j (d,nx,0,s) r),nx+1,0,nxS j s (plc j (s.start+s.count)) (apT j (d,nx,0,s) r)):=by
   unfold apS
   rw [if_neg (by simp),z5y h]
   rfl
  have e2:apL j (d,nx,0,s) (r::L)=apL j (Disk.wrOk d (plc j (s.start+s.count)) (apT j (d,nx,0,s) r),nx+1,0,nxS j s (plc j (s.start+s.count)) (apT j (d,nx,0,s) r)) L:=by rw [<-e];rfl
  simp only [List.length_cons] at hc h2
  have ih:=jn_apL j L (Disk.wrOk d (plc j (s.start+s.count)) (apT j (d,nx,0,s) r)) (nx+1) (nxS j s (plc j (s.start+s.count)) (apT j (d,nx,0,s) r)) (R++[r]) (up_wr h _ _) (hj.step (by omega) nx ⟨h1,by omega⟩ r (hr r (by simp))) (by show s.count+1+L.length<=_;omega) (fun x hx=>hr x (by simp [hx])) (by omega) (by omega)
  rw [e2]
  simpa using ih
theorem rcOk_of (L:List (Int × List Int)) (h:∀x∈L,x.2.length=160/\Byt x.2/\N64 x.1):∀r∈ofP L,RcOk r:=by
 intro r hr
 obtain ⟨i,hi,rfl⟩:=List.getElem_of_mem hr
 simp only [ofP,List.getElem_mapIdx]
 exact h _ (List.getElem_mem _)
theorem jn_appM (j:Jt) (ok:j.Ok) (d:Disk.Dk) (L:List (Int × List Int)) (hd:Up d) (hb:bad L=false) (h1:j.st.count+L.length<=j.size) (h2:j.nx+(L.length:Int)<=j.lim) (hL:∀x∈L,x.2.length=160/\Byt x.2/\N64 x.1) {R:List ((Int × List Int) × Bool)} (hj:Jn d j.key j.first j.size j.st R):Jn (appM j d L).1 j.key j.first j.size (appM j d L).2.2.2 (R++ofP L):=by
 have ht:tke j L.length=0:=by
  unfold tke
  rw [if_neg (by omega),if_neg (by omega)]
 have h:=q9t j (ofP L) d j.nx j.st hd ⟨ok.st.lt,ok.st.bt⟩
 have e:appM j d L=apL j (d,j.nx,0,j.st) (ofP L):=by
  unfold appM
  rw [if_neg (by rw [hb];simp),if_neg (fun h=>h ht),if_neg (fun hh=>hh h.er)]
 rw [e]
 have hnx:=ok.nx
 have hlm:=ok.lim
 exact jn_apL j (ofP L) d j.nx j.st R hd hj (by rw [q3h];exact h1) (rcOk_of L hL) hnx.1 (by rw [q3h];omega)
theorem jn_load {d:Disk.Dk} {K:List Int} {f n:Nat} {s:Jst} {X:List (List (Int × List Int))} (h:Jn d K f n s ((X.map ofP).flatten)) (hX:∀x∈X,x≠[]):LGood d K f n s/\ldC d K f n s=X:=by
 refine ⟨⟨h.tg,h.op,?_⟩,?_⟩
 ·rw [h.rs]
  exact fun h0=>last_of X hX h0
 ·unfold ldC
  rw [h.rs,chS_of X hX]
end Go.Proofs.YtjejnlebpcjidaaGreatDoor
