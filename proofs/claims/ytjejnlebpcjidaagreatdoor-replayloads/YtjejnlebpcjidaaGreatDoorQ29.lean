/-
 The reference's Write, in the words of a journal's disk: it answers as dwr, and the two disks stay alike. And what follows it.
-/
import Derived.Test.YtjejnlebpcjidaaGreatDoorQ01
import Derived.Test.YtjejnlebpcjidaaGreatDoorQ11
import Derived.Test.YtjejnlebpcjidaaGreatDoorQ22
import Derived.Test.YtjejnlebpcjidaaGreatDoorQ28
import Derived.Test.YtjejnlebpcjidaaGreatDoorQ23
import Derived.Lib.AppendStr
import Derived.Test.YtjejnlebpcjidaaGreatDoorQ06
import Derived.Test.YtjejnlebpcjidaaGreatDoorQ15
import Derived.Test.YtjejnlebpcjidaaGreatDoorQ26
set_option linter.unusedVariables false
set_option maxRecDepth 100000
set_option maxRecDepth 100000
namespace Go.Proofs.YtjejnlebpcjidaaGreatDoor
open Go.RowKit Plain
def RwK (r':Disk.Rd) (x:Int) (e:Ending) (w2 w3:World):Prop:=∃v',e=.returned (.tuple #[v',.int .i64 x])/\Disk.Rv w3 v' r'/\Below w2.heap.size w2 w3
theorem rwrite_j {k:Nat} {d:Disk.Dk} {r:Disk.Rd} (hJ:Disk.J k d r) (hk:k<900000) (p:Nat) (hp:p<d.n) (B:List Int) (hl:B.length=192):
  ∃r',Disk.J (k+1) (dwr d p B).1 r'/\∀w2 v,Disk.Rv w2 v r->Calls Tryz.prog 23 #[v,.int .i64 (p:Int),.string (strOfNums B)] w2 fun e w3=>RwK r' (dwr d p B).2 e w2 w3:=by
 have l1:=hJ.l1
 have l2:=hJ.l2
 have e1:=hJ.way
 have e2:=hJ.ops
 have hrf:Disk.rfit r.n (p:Int) B.length=0:=by
  rw [hJ.n]
  unfold Disk.rfit
  rw [if_pos (by simp;omega),if_pos hl]
 cases hd:d.down with
 | true=>
  have e:dwr d p B=(d,13):=by unfold dwr;rw [if_pos hd]
  rw [e]
  refine ⟨r,hJ.on,fun w2 v hv=>?_⟩
  obtain ⟨vd,vw,vo,rfl,h1,h2,h3⟩:=hv
  rw [hJ.down,hd]
  refine (Disk.z4b w2 r.n vd vw vo r.left (Disk.oneR h1) (Disk.oneR h2) (Disk.oneO h3) (p:Int) (strOfNums B)).mono ?_
  rintro e w3 ⟨rfl,hb⟩
  exact ⟨_,rfl,⟨vd,vw,vo,by rw [hJ.down,hd],h1.below hb,h2.below hb,h3.below hb⟩,hb⟩
 | false=>
  have hd':¬d.down=true:=by rw [hd];decide
  by_cases hstop:d.st=true/\d.left=0
  ·have hrl:r.left=0:=by rw [hJ.st hstop.1];exact hstop.2
   have e:dwr d p B=({d with down:=true},13):=by unfold dwr;rw [if_neg hd',if_pos hstop]
   rw [e]
   refine ⟨{r with down:=true},⟨hJ.n,hJ.pl,hJ.way,rfl,hJ.st,hJ.no,hJ.lo,hJ.ops,by show r.done.length+r.way.length<=k+1;omega,by show r.ops.length<=k+1;omega⟩,fun w2 v hv=>?_⟩
   obtain ⟨vd,vw,vo,rfl,h1,h2,h3⟩:=hv
   rw [hJ.down,hd,hrl]
   refine (Disk.q8n w2 r.n vd vw vo (Disk.oneR h1) (Disk.oneR h2) (Disk.oneO h3) (p:Int) (strOfNums B) B.length (Disk.q6v B) hrf).mono ?_
   rintro e w3 ⟨rfl,hb⟩
   exact ⟨_,rfl,⟨vd,vw,vo,by first | rfl | rw [hrl],h1.below hb,h2.below hb,h3.below hb⟩,hb⟩
  ·have e:dwr d p B=(Disk.wrOk d p B,0):=by unfold dwr;rw [if_neg hd',if_neg hstop]
   rw [e]
   by_cases hst:d.st=true
   ·have hrl:=hJ.st hst
    have hlo:=hJ.lo
    have hpos:0<r.left:=by rw [hrl];have:d.left≠0:=fun h=>hstop ⟨hst,h⟩;omega
    refine ⟨{r with left:=r.left-1,way:=r.way++[(p,B)],ops:=r.ops++[(2,(p:Int))]},⟨hJ.n,hJ.pl,by show r.way++[(p,B)]=d.uw++[(p,B)];rw [e1],hJ.down,fun _=>by show r.left-1=if d.st then d.left-1 else d.left;rw [if_pos hst,hrl],fun h=>absurd h (by rw [show (Disk.wrOk d p B).st=d.st from rfl,hst];simp),by show 0<=(if d.st then d.left-1 else d.left)/\(if d.st then d.left-1 else d.left)<=_;rw [if_pos hst];omega,by show r.ops++_=d.ops++_;rw [e2],by show r.done.length+(r.way++[(p,B)]).length<=k+1;simp;omega,by show (r.ops++[(2,(p:Int))]).length<=k+1;simp;omega⟩,fun w2 v hv=>?_⟩
    obtain ⟨vd,vw,vo,rfl,h1,h2,h3⟩:=hv
    rw [hJ.down,hd]
    refine (Disk.z5b w2 r.n vd vw vo r.left r.way r.ops (Disk.oneR h1) h2 h3 (by omega) (by omega) p B hrf hpos (by omega)).mono ?_
    rintro e w3 ⟨vw',vo',rfl,hb,h4,h5⟩
    exact ⟨_,rfl,⟨vd,vw',vo',by first | rfl | (rw [hJ.down,hd]),h1.below hb,h4,h5⟩,hb⟩
   ·have hst':d.st=false:=by simpa using hst
    have hrl:=hJ.no hst'
    refine ⟨{r with way:=r.way++[(p,B)],ops:=r.ops++[(2,(p:Int))]},⟨hJ.n,hJ.pl,by show r.way++[(p,B)]=d.uw++[(p,B)];rw [e1],hJ.down,fun h=>by rw [show (Disk.wrOk d p B).st=d.st from rfl] at h;exact absurd h hst,fun _=>hrl,by show 0<=(if d.st then d.left-1 else d.left)/\(if d.st then d.left-1 else d.left)<=_;rw [if_neg hst];exact hJ.lo,by show r.ops++_=d.ops++_;rw [e2],by show r.done.length+(r.way++[(p,B)]).length<=k+1;simp;omega,by show (r.ops++[(2,(p:Int))]).length<=k+1;simp;omega⟩,fun w2 v hv=>?_⟩
    obtain ⟨vd,vw,vo,rfl,h1,h2,h3⟩:=hv
    rw [hJ.down,hd]
    refine (Disk.rwrite_on w2 r.n vd vw vo r.left r.way r.ops (Disk.oneR h1) h2 h3 (by omega) (by omega) p B hrf (by omega)).mono ?_
    rintro e w3 ⟨vw',vo',rfl,hb,h4,h5⟩
    exact ⟨_,rfl,⟨vd,vw',vo',by first | rfl | (rw [hJ.down,hd]),h1.below hb,h4,h5⟩,hb⟩
attribute [local go_sem] Oper.semAt_some
theorem zeroS13:(Tryz.prog.info? 42).map (·.zero)=some (some (.agg (sa zs))):=by kernel_rfl
theorem infoS13:(Tryz.prog.info? 42).map (·.size)=some 34:=by kernel_rfl
def sq (a c:Int) (t:List Int):List Value:=.int .u64 a::.int .u64 c::t.map (Value.int .u8)
theorem q9q (a c:Int) (t:List Int) (h:t.length=32):(sq a c t).length=34:=by simp [sq,h]
theorem sq_t (a c:Int) (t u:List Int) (h:t.length=32) (hu:u.length=32):splice (sq a c t) 2 (u.map (Value.int .u8))=sq a c u:=by simp [splice,sq,h,hu]
theorem builtS (parts:List (Nat × Value)):Tryz.prog.built 42 parts=Instr.fill (fun i=>#[(0,1),(1,1),(2,32)][i]?) (sq 0 0 z32).toArray parts:=by kernel_rfl
theorem built_S13 (s:Jst) (hs:OkS s):Tryz.prog.built 42 [(0,.int .u64 (s.start:Int)),(1,.int .u64 (s.count:Int)),(2,.agg (u8s s.tag))]=some (sa s):=by
 have hz:z32.length=32:=q1l
 have hu:(u8s s.tag).toList=s.tag.map (Value.int .u8):=by simp [u8s]
 rw [builtS,q3l _ _ 0 0 _ rfl _ rfl (by rw [List.size_toArray,q9q _ _ _ hz];omega),List.setIfInBounds_toArray,show (sq 0 0 z32).set 0 (.int .u64 (s.start:Int))=sq (s.start:Int) 0 z32 from rfl]
 rw [q3l _ _ 1 1 _ rfl _ rfl (by rw [List.size_toArray,q9q _ _ _ hz];omega),List.setIfInBounds_toArray,show (sq (s.start:Int) 0 z32).set 1 (.int .u64 (s.count:Int))=sq (s.start:Int) (s.count:Int) z32 from rfl]
 rw [q3i _ _ 2 2 32 _ _ rfl (by rw [q0h,hs.lt]) (by rw [List.size_toArray,q9q _ _ _ hz];omega),hu,sq_t _ _ _ _ hz hs.lt,Instr.fill]
 rfl
theorem z5a (s:Jst) (hs:OkS s) (w:World):Calls Tryz.prog 26 #[.agg (sa s)] w fun e w'=>e=.returned (.agg (sa s))/\Below w.heap.size w w':=by
 obtain ⟨S,hS⟩:=nm w.heap.size
 obtain ⟨w1,hw1⟩:=nm ((w.alloc (.cells (sa s) 27)).alloc (.cells (sa zs) 42))
 have hs2:(w.alloc (.cells (sa s) 27)).heap.size=S+1:=by simp [hS]
 have hb1:Below w.heap.size w w1:=by rw [<-hw1];exact ((Below.refl _ _).alloc (Nat.le_refl _) _).alloc (by simp) _
 have k1:w1.heap[S]?=some (.cells (sa s) 27 (0,0)):=by rw [<-hw1];exact q0i (q0g hS)
 have k2:w1.heap[S+1]?=some (.cells (sa zs) 42 (0,0)):=by rw [<-hw1];exact q0g hs2
 have HR:Box (w1.rangeAt S 2 (s.tag.map (Value.int .u8))/\w1.cell? ⟨S,0,none⟩=some (.int .u64 (s.start:Int))/\w1.cell? ⟨S,1,none⟩=some (.int .u64 (s.count:Int))):=⟨fun j v hv=>by
  rw [cell_of_row _ _ _ _ _ _ k1,Nat.add_comm]
  simpa [sa,scs] using hv,by rw [cell_of_row _ _ _ _ _ _ k1];rfl,by rw [cell_of_row _ _ _ _ _ _ k1];rfl⟩
 have HX:Box (w1.heap[S+1]?=some (.cells (sa zs) 42 (0,0))):=⟨k2⟩
 have HB:Box (Below w.heap.size w w1/\w.heap.size=S):=⟨hb1,hS⟩
 have HT:Box ((Tryz.prog.info? 23).map (·.size)=some (s.tag.map (Value.int .u8)).length):=⟨by rw [List.length_map,hs.lt];exact infoSum⟩
 have HI:Box ((Tryz.prog.info? 42).map (·.size)=some (sa s).size):=⟨by rw [q1b hs];exact infoS13⟩
 have HBU:Box (Tryz.prog.built 42 [(0,.int .u64 (s.start:Int)),(1,.int .u64 (s.count:Int)),(2,.agg (s.tag.map (Value.int .u8)).toArray)]=some (sa s)):=⟨built_S13 s hs⟩
 have HZ:Box ((sa s).size=(sa zs).size):=⟨by rw [q1b hs,q1b q1f]⟩
 have c0:=HR.out.2.1
 have c1:=HR.out.2.2
 clear hs k1 k2 hb1
 go_enter Tryz.func26,Tryz.ntmps26
 go_upto_region 1 with (refine atAlloc _ ?_;refine q0b rfl _ _ (q0e 42 rfl _ zeroS13) ?_)
 (try rw [hs2])
 (try simp only [hw1])
 clear hw1 hs2 hS
 go_wp2_with (first
  | (refine atLoad 23 ?_;refine q0c rfl 23 _ _ rfl Tryz.underlying23 rfl S 2 rfl (s.tag.map (Value.int .u8)) HT.out HR.out.1 ?_)
  | (refine atBuild _ ?_;refine q0b rfl _ _ (q0n 42 [(0,.tmp 4),(1,.tmp 6),(2,.tmp 8)] rfl _ rfl _ HBU.out) ?_)
  | (refine atStore _ ?_;refine wpList_store_row rfl 42 _ _ rfl (S+1) (sa s) rfl rfl 42 (sa zs) HX.out HI.out HZ.out.symm (q3z s) ?_))
 refine bodyPost_ret (results_cell_row (p:=2) (ty:=42) rfl _ _ (S+1) 42 (sa s) (0,0) _ rfl (setRow_heap _ _ _ _ _ _ HX.out) Tryz.underlying42 rfl HI.out) rfl ?_
 exact ⟨rfl,q1i HB.out.1 (q0s _ _ _) (by have:=HB.out.2;omega) HB.out.1.size⟩
end Go.Proofs.YtjejnlebpcjidaaGreatDoor
namespace Go.Proofs.YtjejnlebpcjidaaGreatDoor
open Go.RowKit Plain
attribute [local go_sem] Oper.semAt_some
def rq (K:List Int) (f n:Int) (s:Jst) (x y:Int):List Value:=K.map (Value.int .u8)++(.int .i64 f::.int .u64 n::(scs s++[.int .u64 x,.int .u64 y]))
theorem q1u (K:List Int) (f n:Int) (s:Jst) (x y:Int) (hK:K.length=32) (hs:OkS s):(rq K f n s x y).length=70:=by simp [rq,hK,q0u hs]
theorem rq_key (K L:List Int) (f n:Int) (s:Jst) (x y:Int) (hK:K.length=32) (hL:L.length=32):splice (rq K f n s x y) 0 (L.map (Value.int .u8))=rq L f n s x y:=by
 simp [splice,rq,hL,hK]
theorem rq_f (K:List Int) (f n m:Int) (s:Jst) (x y:Int) (hK:K.length=32):(rq K f n s x y).set 32 (.int .i64 m)=rq K m n s x y:=by
 simp [rq,hK]
theorem rq_n (K:List Int) (f n m:Int) (s:Jst) (x y:Int) (hK:K.length=32):(rq K f n s x y).set 33 (.int .u64 m)=rq K f m s x y:=by
 simp [rq,hK]
theorem rq_s (K:List Int) (f n:Int) (s t:Jst) (x y:Int) (hK:K.length=32) (hs:OkS s) (ht:OkS t):splice (rq K f n s x y) 34 (scs t)=rq K f n t x y:=by
 simp [splice,rq,List.take_append,List.drop_append,hK,q0u hs,q0u ht]
 rw [List.take_of_length_le (by simp [hK]),List.drop_of_length_le (by simp [hK])]
 rfl
theorem rq_x (K:List Int) (f n:Int) (s:Jst) (x y z:Int) (hK:K.length=32) (hs:OkS s):(rq K f n s x y).set 68 (.int .u64 z)=rq K f n s z y:=by
 simp [rq,hK,q0u hs]
theorem rq_y (K:List Int) (f n:Int) (s:Jst) (x y z:Int) (hK:K.length=32) (hs:OkS s):(rq K f n s x y).set 69 (.int .u64 z)=rq K f n s x z:=by
 simp [rq,hK,q0u hs]
theorem q4y (K:List Int) (f n:Int) (s:Jst) (x y:Int):(rq K f n s x y).toArray.all (·.oneCell')=true:=by
 rw [List.all_toArray,List.all_eq_true]
 intro u hu
 simp only [rq,List.mem_append,List.mem_cons,List.mem_map,List.not_mem_nil,or_false] at hu
 rcases hu with ⟨z,_,rfl⟩ | rfl | rfl | h | rfl | rfl
 ·rfl
 ·rfl
 ·rfl
 ·exact one_scs s u h
 ·rfl
 ·rfl
theorem zeroRj:(Tryz.prog.info? 44).map (·.zero)=some (some (.agg (rq z32 0 0 zs 0 0).toArray)):=by kernel_rfl
theorem infoRj:(Tryz.prog.info? 44).map (·.size)=some 70:=by kernel_rfl
theorem builtRj (parts:List (Nat × Value)):Tryz.prog.built 44 parts=Instr.fill (fun i=>#[(0,32),(32,1),(33,1),(34,34),(68,1),(69,1)][i]?) (rq z32 0 0 zs 0 0).toArray parts:=by kernel_rfl
theorem built_Rj (K:List Int) (f n:Int) (s:Jst) (x y:Int) (hk:K.length=32) (hs:OkS s):Tryz.prog.built 44 [(0,.agg (u8s K)),(1,.int .i64 f),(2,.int .u64 n),(3,.agg (sa s)),(4,.int .u64 x),(5,.int .u64 y)]=some (rq K f n s x y).toArray:=by
 have hz:z32.length=32:=q1l
 have hu:(u8s K).toList=K.map (Value.int .u8):=by simp [u8s]
 rw [builtRj,q3i _ _ 0 0 32 _ _ rfl (by rw [q0h,hk]) (by rw [List.size_toArray,q1u _ _ _ _ _ _ hz q1f];omega),hu,rq_key _ _ _ _ _ _ _ hz hk]
 rw [q3l _ _ 1 32 _ rfl _ rfl (by rw [List.size_toArray,q1u _ _ _ _ _ _ hk q1f];omega),List.setIfInBounds_toArray,rq_f _ _ _ _ _ _ _ hk]
 rw [q3l _ _ 2 33 _ rfl _ rfl (by rw [List.size_toArray,q1u _ _ _ _ _ _ hk q1f];omega),List.setIfInBounds_toArray,rq_n _ _ _ _ _ _ _ hk]
 rw [q3i _ _ 3 34 34 _ _ rfl (q1b hs) (by rw [List.size_toArray,q1u _ _ _ _ _ _ hk q1f];omega),q5p,rq_s _ _ _ _ _ _ _ hk q1f hs]
 rw [q3l _ _ 4 68 _ rfl _ rfl (by rw [List.size_toArray,q1u _ _ _ _ _ _ hk hs];omega),List.setIfInBounds_toArray,rq_x _ _ _ _ _ _ _ hk hs]
 rw [q3l _ _ 5 69 _ rfl _ rfl (by rw [List.size_toArray,q1u _ _ _ _ _ _ hk hs];omega),List.setIfInBounds_toArray,rq_y _ _ _ _ _ _ _ hk hs,Instr.fill]
set_option maxHeartbeats 2000000 in
theorem q8r (P f n:Nat) (h1:1<=n) (hfit:f+n<=P) (hP:P<=4096) (K:List Int) (hK:K.length=32) (s:Jst) (hs:OkS s) (hst:s.start<n) (hct:s.count<=n) (nx lim:Int) (hn:1<=nx/\nx<=18446744073709551615) (hl:0<=lim/\lim<=9223372036854775807) (w:World):
  Calls Tryz.prog 9 #[.int .i64 (P:Int),.agg (u8s K),.int .i64 (f:Int),.int .i64 (n:Int),.agg (sa s),.int .u64 nx,.int .u64 lim] w fun e w'=>e=.returned (.tuple #[.agg (rq K (f:Int) (n:Int) s nx lim).toArray,.int .i64 0])/\Below w.heap.size w w':=by
 obtain ⟨S,hS⟩:=nm w.heap.size
 obtain ⟨AK,hAK⟩:=nm (u8s K)
 obtain ⟨AR,hAR⟩:=nm ((rq K (f:Int) (n:Int) s nx lim).toArray)
 obtain ⟨AZ,hAZ⟩:=nm ((rq z32 0 0 zs 0 0).toArray)
 obtain ⟨w1,hw1⟩:=nm (((w.alloc (.cells AK 23)).alloc (.cells (sa s) 42)).alloc (.cells AZ 44))
 have hs1:(w.alloc (.cells AK 23)).heap.size=S+1:=by simp [hS]
 have hs2:((w.alloc (.cells AK 23)).alloc (.cells (sa s) 42)).heap.size=S+2:=by simp [hS]
 have hb1:Below w.heap.size w w1:=by rw [<-hw1];exact (((Below.refl _ _).alloc (Nat.le_refl _) _).alloc (by simp) _).alloc (by simp;omega) _
 have k1:w1.heap[S]?=some (.cells AK 23 (0,0)):=by rw [<-hw1];exact q0i (q0i (q0g hS))
 have k2:w1.heap[S+1]?=some (.cells (sa s) 42 (0,0)):=by rw [<-hw1];exact q0i (q0g hs1)
 have k3:w1.heap[S+2]?=some (.cells AZ 44 (0,0)):=by rw [<-hw1];exact q0g hs2
 have HZ:Box ((Tryz.prog.info? 44).map (·.zero)=some (some (.agg AZ))):=⟨hAZ▸zeroRj⟩
 have HRa:Box (w1.rangeAt S 0 (K.map (Value.int .u8))):=⟨fun i v hv=>by
  rw [cell_of_row _ _ _ _ _ _ k1,Nat.zero_add,<-hAK]
  simpa [u8s] using hv⟩
 have HRb:Box (w1.rangeAt (S+1) 0 (scs s)):=⟨q3q k2⟩
 have HX:Box (w1.heap[S+2]?=some (.cells AZ 44 (0,0))):=⟨k3⟩
 have c0:w1.cell? ⟨S+1,0,none⟩=some (.int .u64 (s.start:Int)):=by rw [cell_of_row _ _ _ _ _ _ k2];rfl
 have c1:w1.cell? ⟨S+1,1,none⟩=some (.int .u64 (s.count:Int)):=by rw [cell_of_row _ _ _ _ _ _ k2];rfl
 have HIL:Box ((Tryz.prog.info? 23).map (·.size)=some (K.map (Value.int .u8)).length/\(Tryz.prog.info? 42).map (·.size)=some (scs s).length/\(Tryz.prog.info? 44).map (·.size)=some AR.size/\AZ.size=AR.size/\AR.all (·.oneCell')=true):=⟨by rw [List.length_map,hK];exact infoSum,by rw [q0u hs];exact infoS13,by rw [<-hAR,List.size_toArray,q1u _ _ _ _ _ _ hK hs];exact infoRj,by rw [<-hAR,<-hAZ,List.size_toArray,List.size_toArray,q1u _ _ _ _ _ _ hK hs,q1u _ _ _ _ _ _ q1l q1f],by rw [<-hAR];exact q4y _ _ _ _ _ _⟩
 have HBJ:Box (Tryz.prog.built 44 [(0,.agg AK),(1,.int .i64 (f:Int)),(2,.int .u64 (n:Int)),(3,.agg (sa s)),(4,.int .u64 nx),(5,.int .u64 lim)]=some AR):=⟨by rw [<-hAK,<-hAR];exact built_Rj K _ _ s nx lim hK hs⟩
 have HAK:Box ((K.map (Value.int .u8)).toArray=AK/\(scs s).toArray=sa s):=⟨by rw [<-hAK];rfl,rfl⟩
 have HB:Box (Below w.heap.size w w1/\w.heap.size=S):=⟨hb1,hS⟩
 obtain ⟨r,hr⟩:=nm (P-f)
 have hwr:IntKind.i64.wrap ((P:Int)-(f:Int))=(r:Int):=by rw [IntKind.wrap_i64];omega
 have hwn:IntKind.u64.wrap (n:Int)=(n:Int):=by rw [IntKind.wrap_u64];omega
 have g1:¬(f:Int)<0:=by omega
 have g2:¬(n:Int)<1:=by omega
 have g3:decide (P<f)=false:=by simp;omega
 have g4:decide (r<n)=false:=by simp;omega
 have g5:decide (n<=s.start)=false:=by simp;omega
 have g6:decide (n<s.count)=false:=by simp;omega
 have g7:(nx==0)=false:=by simp;omega
 have g8:¬(9223372036854775807:Int)<lim:=by omega
 rw [hAK,hAR]
 clear hK h1 hfit hP hs hst hct hn hl k1 k2 k3 hb1 hAK hAR hr hAZ
 go_enter Tryz.func9,Tryz.ntmps9
 go_upto_region 1 with (refine atAlloc _ ?_;refine q0b rfl _ _ (q0e 44 rfl _ HZ.out) ?_)
 (try rw [hs2])
 (try rw [hs1])
 (try simp only [hS,hw1])
 clear hs1 hs2 hw1 hS
 go_wp2_with (first
  | (refine atLoad 23 ?_;refine q0c rfl 23 _ _ rfl Tryz.underlying23 rfl S 0 rfl (K.map (Value.int .u8)) HIL.out.1 HRa.out ?_;rw [HAK.out.1])
  | (refine atLoad 42 ?_;refine q0c rfl 42 _ _ rfl Tryz.underlying42 rfl (S+1) 0 rfl (scs s) HIL.out.2.1 HRb.out ?_;rw [HAK.out.2])
  | (refine atBuild 44 ?_;refine q0b rfl _ _ (q0n 44 [(0,.tmp 57),(1,.tmp 58),(2,.tmp 60),(3,.tmp 61),(4,.tmp 62),(5,.tmp 63)] rfl [(0,.agg AK),(1,.int .i64 (f:Int)),(2,.int .u64 (n:Int)),(3,.agg (sa s)),(4,.int .u64 nx),(5,.int .u64 lim)] rfl _ HBJ.out) ?_)
  | (refine atStore _ ?_;refine wpList_store_row rfl 44 _ _ rfl (S+2) AR rfl rfl 44 AZ HX.out HIL.out.2.2.1 HIL.out.2.2.2.1 HIL.out.2.2.2.2 ?_))
 refine bodyPost_ret (q1a (t:=14) (u:=15) rfl _ Tryz.underlying44 rfl _ _ (S+2) AR HIL.out.2.2.1 rfl (setRow_heap _ _ _ _ _ _ HX.out)) rfl ?_
 exact ⟨rfl,q1i HB.out.1 (q0s _ _ _) (by have:=HB.out.2;omega) HB.out.1.size⟩
end Go.Proofs.YtjejnlebpcjidaaGreatDoor
namespace Go.Proofs.YtjejnlebpcjidaaGreatDoor
open Go.RowKit Plain
theorem q4r {fn:Func} {t1 t2 t3:TypeId} {t u v x:Tmp} (h:fn.results=#[.cell t t1,.cell u t2,.cell v t3,.tmp x]) (d1 d2 d3:TypeDesc) (hu1:Tryz.prog.underlying t1=some d1) (hd1:d1.isRow=true) (hu2:Tryz.prog.underlying t2=some d2) (hd2:d2.isRow=true) (hu3:Tryz.prog.underlying t3=some d3) (hd3:d3.isRow=true) (tmps:Array Value) (w:World) (b1 b2 b3:Nat) (c1 c2 c3:List Value)
  (i1:(Tryz.prog.info? t1).map (·.size)=some c1.length) (i2:(Tryz.prog.info? t2).map (·.size)=some c2.length) (i3:(Tryz.prog.info? t3).map (·.size)=some c3.length)
  (ht:tmps.getD t undef=.pointer (some ⟨b1,0,none⟩)) (hu:tmps.getD u undef=.pointer (some ⟨b2,0,none⟩)) (hv:tmps.getD v undef=.pointer (some ⟨b3,0,none⟩)) (r1:w.rangeAt b1 0 c1) (r2:w.rangeAt b2 0 c2) (r3:w.rangeAt b3 0 c3):
  (results fn tmps).run Tryz.prog w=.ok (.tuple #[.agg c1.toArray,.agg c2.toArray,.agg c3.toArray,tmps.getD x undef]) w:=by
 have l1:=run_loadVar_mid (P:=Tryz.prog) w b1 0 t1 c1 d1 r1 hu1 hd1 i1
 have l2:=run_loadVar_mid (P:=Tryz.prog) w b2 0 t2 c2 d2 r2 hu2 hd2 i2
 have l3:=run_loadVar_mid (P:=Tryz.prog) w b3 0 t3 c3 d3 r3 hu3 hd3 i3
 simp only [Array.getD_eq_getD_getElem?] at ht hu hv
 simp [results,h,ht,hu,hv,l1,l2,l3,asAddr]
def Up (d:Disk.Dk):Prop:=d.down=false/\d.st=false
theorem z5y {d:Disk.Dk} (h:Up d) (p:Nat) (S:List Int):dwr d p S=(Disk.wrOk d p S,0):=by simp [dwr,h.1,h.2]
theorem up_wr {d:Disk.Dk} (h:Up d) (p:Nat) (S:List Int):Up (Disk.wrOk d p S):=h
def pls (j:Jt) (k n:Nat):List Nat:=(List.range n).map fun x=>plc j (k+x)
theorem z5h (j:Jt) (k n:Nat):pls j k (n+1)=plc j k::pls j (k+1) n:=by
 unfold pls
 rw [List.range_succ_eq_map,List.map_cons,List.map_map]
 congr 1
 apply List.map_congr_left
 intro x _
 simp only [Function.comp]
 congr 1
 omega
structure ApU (j:Jt) (d:Disk.Dk) (nx:Int) (s:Jst) (n:Nat) (y:Ast):Prop where
 up:Up y.1
 nn:y.1.n=d.n
 pl:y.1.pl=d.pl
 ops:y.1.ops=d.ops++(pls j (s.start+s.count) n).map fun (p:Nat)=>((2:Int),(p:Int))
 uw:∃W:List (Nat × List Int),y.1.uw=d.uw++W/\W.map Prod.fst=pls j (s.start+s.count) n
 left:y.1.left=d.left
 nx:y.2.1=nx+(n:Int)
 er:y.2.2.1=0
 st:y.2.2.2.start=s.start
 ct:y.2.2.2.count=s.count+n
 tg:y.2.2.2.tag.length=32/\Byt y.2.2.2.tag
theorem q9t (j:Jt):∀(L:List ((Int × List Int) × Bool)) (d:Disk.Dk) (nx:Int) (s:Jst),Up d->s.tag.length=32/\Byt s.tag->ApU j d nx s L.length (apL j (d,nx,0,s) L)
 | [],d,nx,s,h,ht=>⟨h,rfl,rfl,by simp [pls,apL],⟨[],by simp [apL],rfl⟩,rfl,by show nx=nx+((0:Nat):Int);omega,rfl,rfl,rfl,ht⟩
 | r::L,d,nx,s,h,ht=>by
  have e:apS j (d,nx,0,s) r=(Disk.wrOk d (plc j (s.start+s.count)) (apT j (d,nx,0,s) r),nx+1,0,nxS j s (plc j (s.start+s.count)) (apT j (d,nx,0,s) r)):=by
   unfold apS
   rw [if_neg (by simp),z5y h]
   rfl
  have e2:apL j (d,nx,0,s) (r::L)=apL j (Disk.wrOk d (plc j (s.start+s.count)) (apT j (d,nx,0,s) r),nx+1,0,nxS j s (plc j (s.start+s.count)) (apT j (d,nx,0,s) r)) L:=by rw [<-e];rfl
  rw [e2]
  have ih:=q9t j L (Disk.wrOk d (plc j (s.start+s.count)) (apT j (d,nx,0,s) r)) (nx+1) (nxS j s (plc j (s.start+s.count)) (apT j (d,nx,0,s) r)) (up_wr h _ _) ⟨q2w _,q8c _⟩
  generalize apL j (Disk.wrOk d (plc j (s.start+s.count)) (apT j (d,nx,0,s) r),nx+1,0,nxS j s (plc j (s.start+s.count)) (apT j (d,nx,0,s) r)) L=y at ih ⊢
  have hst:(nxS j s (plc j (s.start+s.count)) (apT j (d,nx,0,s) r)).start+(nxS j s (plc j (s.start+s.count)) (apT j (d,nx,0,s) r)).count=s.start+s.count+1:=rfl
  have ho:=ih.ops
  obtain ⟨W,hW1,hW2⟩:=ih.uw
  rw [hst] at ho hW2
  refine ⟨ih.up,ih.nn,ih.pl,?_,⟨(plc j (s.start+s.count),apT j (d,nx,0,s) r)::W,?_,?_⟩,?_,?_,ih.er,ih.st,?_,ih.tg⟩
  ·rw [ho,List.length_cons,z5h]
   simp [Disk.wrOk]
  ·rw [hW1]
   simp [Disk.wrOk]
  ·rw [List.length_cons,z5h,List.map_cons,hW2]
  ·rw [ih.left]
   simp [Disk.wrOk,h.2]
  ·rw [ih.nx,List.length_cons]
   omega
  ·rw [ih.ct,List.length_cons]
   show s.count+1+L.length=_
   omega
theorem appM_up (j:Jt) (ok:j.Ok) (d:Disk.Dk) (L:List (Int × List Int)) (hd:Up d) (hb:bad L=false) (h1:j.st.count+L.length<=j.size) (h2:j.nx+(L.length:Int)<=j.lim):ApU j d j.nx j.st L.length (appM j d L):=by
 have ht:tke j L.length=0:=by
  unfold tke
  rw [if_neg (by omega),if_neg (by omega)]
 have h:=q9t j (ofP L) d j.nx j.st hd ⟨ok.st.lt,ok.st.bt⟩
 rw [q3h] at h
 have e:appM j d L=apL j (d,j.nx,0,j.st) (ofP L):=by
  unfold appM
  rw [if_neg (by rw [hb];simp),if_neg (fun h=>h ht),if_neg (fun hh=>hh h.er)]
 rw [e]
 exact h
theorem ApU.okS {j:Jt} {d:Disk.Dk} {nx:Int} {s:Jst} {n:Nat} {y:Ast} (h:ApU j d nx s n y) (h1:s.start<=1000000) (h2:s.count+n<=1000000):OkS y.2.2.2:=⟨h.tg.1,h.tg.2,by rw [h.st];omega,by rw [h.ct];omega⟩
theorem rof (a:Option Addr) (len cap:Nat) (M:List Int) (w:World) (hb:Bytes w a len M) (hl:len<=900000):
  Calls Tryz.prog 78 #[.slice a len cap] w fun e w'=>e=.returned (.agg (u8s (dsha M)))/\Below w.heap.size w w':=Dig.rof_any a len cap M w hb hl
theorem z1a (L:List Int) (hL:Byt L):Lib.strCells (strOfNums L)=L.map (Value.int .u8):=by
 unfold Lib.strCells
 rw [strOfNums_data,List.map_map]
 apply List.map_congr_left
 intro z hz
 obtain ⟨i,hi,rfl⟩:=List.getElem_of_mem hz
 have:=hL i
 rw [List.getD,List.getElem?_eq_getElem hi,Option.getD_some] at this
 simp
 omega
theorem z0g {ops:Array Oper} {rest:List Oper} {o:Oper} {act:Act} {w:World} {Q:Exit->Act->World->Prop} (hgd:o.guard=none) (s x:Operand)
  (ho:o.op=.call {callee:=.builtin .append,args:=#[s,x],argTypes:=#[57,9]}) (base n:Nat) (v:Value) (A L:List Int) (w0:World)
  (hs:act.eval s=v) (hx:act.eval x=.string (strOfNums L)) (hown:w.ownsRow base 5 1 v n (A.map (Value.int .u8))) (hL:Byt L) (hl:n+L.length<=140737488355328) (hbel:Below base w0 w) (hbase:base<=w.heap.size)
  (h:∀v' w',Box (w'.ownsRow base 5 1 v' (n+L.length) ((A++L).map (Value.int .u8))/\Below base w0 w'/\base<=w'.heap.size)->wpList Tryz.prog ops Q rest (act.put o.dst v') w'):wpList Tryz.prog ops Q (o::rest) act w:=by
 obtain ⟨i0,hi,hz0,hz1,hz2⟩:=info_parts info5
 have hsz:=strOfNums_size L
 refine Lib.wpList_append_own_string w hgd s x 57 9 ho base 5 i0 Tryz.underlying57 Tryz.underlying9 hi hz0 hz1 hz2 v n _ hs hown (strOfNums L) hx (by rw [hsz];unfold maxLen;omega) (by rw [hsz];exact hl) hbase ?_
 intro v' w' h1 h2 _
 have hz:=h2.size
 rw [hsz,z1a L hL] at h1
 exact h v' w' ⟨by rw [List.map_append];exact h1,hbel.grown h2 hbase (q2c hown),by omega⟩
theorem own_lit (w:World) (A:List Int) (B:Nat) (hB:B<=w.heap.size) (hA:A.length<=maxLen):(w.alloc (.cells (u8s A) 5)).ownsRow B 5 1 (.slice (some ⟨w.heap.size,0,none⟩) A.length A.length) A.length (A.map (Value.int .u8)):=by
 refine ⟨by simp,.inr ⟨w.heap.size,A.length,u8s A,rfl,hB,heap_alloc_new w _,Nat.le_refl _,hA,by simp [u8s],?_⟩⟩
 simp [u8s]
 exact List.take_of_length_le (by simp)
theorem rput4 (x x':Int) (w:World) (hx:0<=x/\x<=4294967295) (he:x'=x):
  Calls Tryz.prog 75 #[.int .u64 x',.int .i64 4] w fun e w'=>∃a' cap',e=.returned (.slice a' 4 cap')/\Bytes w' a' 4 (bytesOf x 4)/\Below w.heap.size w w':=
 by subst he;exact (q7b x' 4 4 w ⟨hx.1,by omega⟩ rfl (by omega)).mono fun e w' ⟨a',cap',he,ho⟩=>⟨a',cap',he,ho.bytes (q1e _ 4),ho.2.2⟩
set_option maxHeartbeats 2000000 in
theorem z1z (tag:List Int) (p:Int) (L:List Int) (w:World) (ht:tag.length=32) (htb:Byt tag) (hp:0<=p/\p<=4294967295) (hL:Byt L) (hl:L.length<=800000):
  Calls Tryz.prog 42 #[.agg (u8s tag),.int .u32 p,.string (strOfNums L)] w fun e w'=>e=.returned (.agg (u8s (lnk tag p L)))/\Below w.heap.size w w':=by
 unfold lnk
 obtain ⟨X,HX⟩:∃X,Box (dsha (lk tag p L)=X):=⟨_,⟨rfl⟩⟩
 have HXs:Box ((u8s X).size=32):=⟨by rw [<-HX.out,q0h,q2w]⟩
 obtain ⟨S,hS⟩:=nm w.heap.size
 have HS:Box (w.heap.size=S/\w.heap.size<=S+1):=⟨hS,by omega⟩
 have HL:Box (Byt L/\L.length<=800000/\Byt (lk tag p L)):=⟨hL,hl,q4h _ _ (by omega) (q1x _ _ htb (q1x _ _ (q1e _ 4) hL))⟩
 obtain ⟨s,HSt⟩:∃s,Box (strOfNums L=s):=⟨_,⟨rfl⟩⟩
 have HD:Box ([255]++tag++bytesOf p 4++L=lk tag p L):=⟨by simp [lk]⟩
 obtain ⟨AT,hAT⟩:=nm (u8s tag)
 obtain ⟨w1,hw1⟩:=nm ((w.alloc (.cells AT 23)).alloc (.cells (u8s z32) 23))
 have hb1:Below w.heap.size w w1:=by rw [<-hw1];exact ((Below.refl _ _).alloc (Nat.le_refl _) _).alloc (by simp) _
 have r0:w1.heap[S]?=some (.cells (u8s tag) 23 (0,0)):=by rw [<-hw1,hAT];exact q0i (q0g hS)
 have r1:w1.heap[S+1]?=some (.cells (u8s z32) 23 (0,0)):=by rw [<-hw1];exact q0g (by simp [hS])
 have hsz1:w1.heap.size=S+2:=by rw [<-hw1];simp [hS]
 have hbt:Bytes w1 (some ⟨S,0,none⟩) 32 tag:=by have:=q1c htb r0;rwa [ht] at this
 have H1:Box (w1.heap[S+1]?=some (.cells (u8s z32) 23 (0,0))/\Below w.heap.size w w1/\w1.heap.size=S+2/\Bytes w1 (some ⟨S,0,none⟩) 32 tag):=⟨r1,hb1,hsz1,hbt⟩
 have hs2:(w.alloc (.cells AT 23)).heap.size=S+1:=by simp [hS]
 have HTG:Box (Byt tag/\tag.length=32):=⟨htb,ht⟩
 rw [HSt.out,hAT]
 clear hL hl ht htb hb1 r0 r1 hsz1 hbt hAT
 generalize lk tag p L=M at HX HL HD
 go_enter Tryz.func42,Tryz.ntmps42
 go_upto_region 1 with (refine q0b rfl _ _ (q0e 23 rfl _ zeroSum) ?_)
 (try rw [hs2])
 (try simp only [hw1])
 clear hs2 hw1 hS
 have H2:Box (Pu w1 (w1.alloc (.cells #[.int .u8 255] 5)) (S+2) (.slice (some ⟨w1.heap.size,0,none⟩) 1 1) 1 [255]/\Bytes (w1.alloc (.cells #[.int .u8 255] 5)) (some ⟨S,0,none⟩) 32 tag):=⟨⟨own_lit w1 [255] (S+2) (by rw [H1.out.2.2.1];exact Nat.le_refl _) (by simp [maxLen]),(Below.refl _ _).alloc (by rw [H1.out.2.2.1];exact Nat.le_refl _) _,by simp [H1.out.2.2.1]⟩,H1.out.2.2.2.below ((Below.refl _ _).alloc (Nat.le_refl _) _)⟩
 go_upto_region 2 with fail
 generalize w1.alloc (.cells #[.int .u8 255] 5)=w2 at H2 ⊢
 generalize w1.heap.size=g1 at H2 ⊢
 go_upto_region 3 with (first
  | (at_builtin;refine Seal.q1m rfl (.tmp 9) (.tmp 10) rfl (S+2) 1 32 _ _ [255] tag _ w2 rfl rfl H2.out.1.1 H2.out.2 (by decide) (Below.refl _ _) H2.out.1.2.2 ?_;intro v3 w3 h3;have H3:Box (Pu w1 w3 (S+2) v3 33 ([255]++tag)):=⟨H2.out.1.app h3⟩;clear h3))
 clear H2
 go_upto_region 4 with (first
  | (go_at_call 75;refine Calls.mono (rput4 p _ _ hp (by first | rfl | (rw [IntKind.wrap_u64];omega))) ?_;rintro e w4 ⟨a4,c4,rfl,hB,hb⟩;have H4:Box (Pu w1 w4 (S+2) v3 33 ([255]++tag)/\Bytes w4 a4 4 (bytesOf p 4)):=⟨H3.out.below hb,hB⟩;clear hb hB)
  | (at_builtin;refine Seal.q1m rfl (.tmp 12) (.tmp 15) rfl (S+2) 33 4 _ _ ([255]++tag) (bytesOf p 4) _ w4 rfl rfl H4.out.1.1 H4.out.2 (by decide) (Below.refl _ _) H4.out.1.2.2 ?_;intro v5 w5 h5;have H5:Box (Pu w1 w5 (S+2) v5 37 ([255]++tag++bytesOf p 4)):=⟨H4.out.1.app h5⟩;clear h5))
 clear H3 H4
 go_upto_region 5 with (first
  | (at_builtin;rw [<-HSt.out];refine z0g rfl (.tmp 17) (.tmp 18) rfl (S+2) 37 _ ([255]++tag++bytesOf p 4) L w5 rfl rfl H5.out.1 HL.out.1 (by have:=HL.out.2.1;omega) (Below.refl _ _) H5.out.2.2 ?_;intro v6 w6 h6;have H6:Box (Pu w1 w6 (S+2) v6 (37+L.length) M):=⟨HD.out▸H5.out.app h6⟩;clear h6))
 obtain ⟨a6,c6,rfl⟩:=q1z H6.out.1
 have HC:Box (Calls Tryz.prog 78 #[.slice a6 (37+L.length) c6] w6 fun e w'=>e=.returned (.agg (u8s X))/\Below w6.heap.size w6 w'):=⟨by
  have:=rof a6 (37+L.length) c6 M w6 (q2p H6.out.1 HL.out.2.2) (by have:=HL.out.2.1;omega)
  rwa [HX.out] at this⟩
 have H7:Box (w6.heap[S+1]?=some (.cells (u8s z32) 23 (0,0))/\Below w.heap.size w w6):=⟨(H6.out.2.1.block (S+1) (by omega)).trans H1.out.1,H1.out.2.1.trans (H6.out.2.1.mono (by have:=HS.out.1;omega))⟩
 clear H5 H6
 generalize 37+L.length=len at HC ⊢
 go_wp2_with (first
  | (go_at_call 78;refine Calls.mono HC.out ?_;rintro e w7 ⟨rfl,hb⟩;have H8:Box (w7.heap[S+1]?=some (.cells (u8s z32) 23 (0,0))/\Below w.heap.size w w7):=⟨(hb.block _ (gE H7.out.1)).trans H7.out.1,q0a H7.out.2 hb⟩;clear hb)
  | (refine wpList_store_row rfl 23 _ _ rfl (S+1) (u8s X) rfl rfl 23 (u8s z32) H8.out.1 (by rw [HXs.out];exact infoSum) (by rw [HXs.out,q0h];exact q1l) (q1r X) ?_))
 (try simp only [Exit.inBlock,Exit.then])
 refine bodyPost_ret (results_cell_row (p:=6) (ty:=23) rfl _ _ (S+1) 23 (u8s X) (0,0) _ rfl (setRow_heap _ _ _ _ _ _ H8.out.1) Tryz.underlying23 rfl (by rw [HXs.out];exact infoSum)) rfl ?_
 exact ⟨by rw [HX.out],q1i H8.out.2 (q0s _ _ _) HS.out.2 H8.out.2.size⟩
theorem wp_appR {o:Oper} {act:Act} {w:World} {K:Act->World->Prop} {Q:Exit->Act->World->Prop} (t e:TypeId) (ht:Tryz.prog.underlying t=some (.slice e)) (sz bytes:Nat) (z:Value) (hi:(Tryz.prog.info? e).map (fun i=>(i.zero,i.size,i.bytes))=some (some z,sz,bytes)) (hzs:z.cells.size=sz) (hsz:0<sz) (s x:Operand)
  (ho:o.op=.call {callee:=.builtin .append,args:=#[s,x],argTypes:=#[t,t]}) (B n:Nat) (v:Value) (xs cs:List Value) (wn:World) (hs:act.eval s=v) (hx:act.eval x=.slice (some ⟨wn.heap.size,0,none⟩) 1 1) (hw:w=wn.alloc (.cells cs.toArray e)) (hown:wn.ownsRow B e sz v n xs) (hcs:cs.length=sz) (h1:∀u∈cs,u.oneCell'=true) (hn:n<=1000000) (hby:bytes<=1000) (hB:B<=wn.heap.size)
  (h:∀v' w',w'.ownsRow B e sz v' (n+1) (xs++cs)->wn.grownBy w' v.ownBlock->K (act.put o.dst v') w'):Oper.wp Tryz.prog o act w K Q:=by
 obtain ⟨i0,hi1,hz0,hz1,hz2⟩:=info_parts hi
 subst hw
 have hm:(n+1)*bytes<=140737488355328:=Nat.le_trans (Nat.mul_le_mul (show n+1<=1000001 by omega) hby) (by decide)
 obtain ⟨v',w',hr,h2,h3,_⟩:=run_append_own (P:=Tryz.prog) _ B t o.type e i0 z sz bytes ht hi1 hz0 hz1 hz2 hzs hsz v n xs (q2v hown ((Below.refl _ _).alloc (Nat.le_refl _) _)) ⟨wn.heap.size,0,none⟩ 1 1 cs (by rw [hcs,Nat.one_mul]) (q3d wn cs e) h1 (by unfold maxLen;omega) hm (by simp;omega)
 unfold Oper.wp execOp
 simp only [ho,resolve,invoke,builtin,Sem.run_bind,Sem.run_pure,Result.andThen_ok,List.map_toArray,List.map_cons,List.map_nil,hs,hx,hr]
 exact h v' w' h2 (q6j h3)
structure MoK (w wr:World) (M:List Im) (k:Nat) (v:Value):Prop where
 row:wr.ownsRow w.heap.size 105 2 v k (((M.map pl).take k).map ic).flatten
 bel:Below w.heap.size w wr
theorem MoK.step {w wr wd w':World} {M:List Im} {k:Nat} {v v':Value} (h:MoK w wr M k v) (hk:k<M.length) (hb:Below wr.heap.size wr wd) (ho:w'.ownsRow w.heap.size 105 2 v' (k+1) ((((M.map pl).take k).map ic).flatten++ic (pl M[k]))) (hg:wd.grownBy w' v.ownBlock):MoK w w' M (k+1) v':=by
 have hk2:k<(M.map pl).length:=by simpa using hk
 refine ⟨?_,(q0a h.bel hb).grown hg (q0a h.bel hb).size (fun j hj=>(q1j (q2v h.row hb) j hj).1)⟩
 rw [List.take_succ_eq_append_getElem hk2]
 simp only [List.map_append,List.map_cons,List.map_nil,List.flatten_append,List.getElem_map,List.flatten_cons,List.flatten_nil,List.append_nil]
 exact ho
set_option maxRecDepth 20000 in
set_option maxHeartbeats 2000000 in
theorem q8p (a:Option Addr) (cap:Nat) (M:List Im) (w:World) (h:Imgs w a M) (hl:M.length<=1000):
  Calls Tryz.prog 13 #[.slice a M.length cap] w fun e w'=>∃v,e=.returned v/\MoK w w' M M.length v:=by
 have HM:Box (∀x,Below w.heap.size w x->Imgs x a M):=⟨fun x hx=>h.below hx⟩
 clear h
 go_enter Tryz.func13,Tryz.ntmps13
 go_wp2
 go_loopw [3,4] (fun v i wr=>∃k:Nat,k<=M.length/\i=.int .i64 (k:Int)/\Box (MoK w wr M k v)) (fun _ i _=>M.length-(intOf i).toNat)
 case atStart=>exact ⟨0,Nat.zero_le _,rfl,⟨⟨World.ownsRow_nil _ _ _ _,Below.refl _ _⟩⟩⟩
 case round=>
  obtain ⟨k,hk,rfl,HG⟩:=hrel
  by_cases hlt:k<M.length
  ·have hlt1:decide ((k:Int)<(M.length:Int))=true:=by simp;omega
   obtain ⟨b,o,hae,hbl,hr⟩:=(HM.out w (Below.refl _ _)).tb (by omega)
   subst hae
   have hby:=(HM.out w (Below.refl _ _)).byt M[k] (List.getElem_mem hlt)
   have HML:Box (k<M.length):=⟨hlt⟩
   have HST:Box (∀wd w' v',Below wr.heap.size wr wd->w'.ownsRow w.heap.size 105 2 v' (k+1) ((((M.map pl).take k).map ic).flatten++ic (pl M[k]))->wd.grownBy w' u3.ownBlock->MoK w w' M (k+1) v'):=⟨fun wd w' v' h1 h2 h3=>HG.out.step hlt h1 h2 h3⟩
   obtain ⟨⟨blk,ba,bl,bc,bs⟩,hmm⟩:∃m,M[k]=m:=⟨_,rfl⟩
   have hrk:=hr k hlt
   rw [hmm] at hby hrk HST
   obtain ⟨s,HS⟩:∃s,Box (strOfNums bs=s):=⟨_,⟨rfl⟩⟩
   have HST2:Box (∀wd w' v',Below wr.heap.size wr wd->w'.ownsRow w.heap.size 105 2 v' (k+1) ((((M.map pl).take k).map ic).flatten++[.int .u64 blk,.string s])->wd.grownBy w' u3.ownBlock->MoK w w' M (k+1) v'):=⟨by rw [<-HS.out];exact HST.out⟩
   have HR:Box (∀x,Below w.heap.size w x->x.cell? ⟨b,o+k*2,none⟩=some (.int .u64 blk)/\x.cell? ⟨b,o+k*2+1,none⟩=some (.slice ba bl bc)/\Bytes x ba bl bs):=⟨fun x hx=>⟨(hx.cell hbl).trans (hrk 0 _ rfl),(hx.cell hbl).trans (hrk 1 _ rfl),hby.1.below hx⟩⟩
   have HOW:Box (∀x,Below wr.heap.size wr x->x.ownsRow w.heap.size 105 2 u3 k (((M.map pl).take k).map ic).flatten/\w.heap.size<=x.heap.size):=⟨fun x hx=>⟨q2v HG.out.row hx,Nat.le_trans HG.out.bel.size hx.size⟩⟩
   have HL2:Box (k<=1000000):=⟨by omega⟩
   have hw4:IntKind.i64.wrap ((k:Int)+1)=((k+1:Nat):Int):=by rw [IntKind.wrap_i64];omega
   clear hr hby hmm hrk HST
   go_upto_region 5 with fail
   refine q1g (S:=fun x=>Below w.heap.size w x) (by kernel_rfl) (fun wd hwd=>?_)
   have hS:Below w.heap.size w wd:=by rw [hwd];exact HG.out.bel.drew
   have hbd:Below wr.heap.size wr wd:=by rw [hwd];exact (Below.refl _ _).drew
   clear hwd
   refine take_y (i:=0) rfl hS ?_
   try simp only [Act.put,pC,pD,pE,pF,pG]
   refine take_y (i:=1) rfl hS ?_
   try simp only [Act.put,pC,pD,pE,pF,pG,pH]
   refine take_y (i:=2) rfl hS ?_
   try simp only [Act.put,pC,pD,pE,pF,pG,pH]
   refine take_x (i:=3) (v:=.pointer (some ⟨b,o+k*2,none⟩)) rfl (fun w' hLat=>q0p 47 79 Tryz.underlying47 2 infoIm _ _ rfl b o M.length cap k rfl rfl HML.out) hS ?_
   try simp only [Act.put,pC,pD,pE,pF,pG,pH]
   refine take_y (i:=4) rfl hS ?_
   try simp only [Act.put,pC,pD,pE,pF,pG,pH]
   refine take_x (i:=5) (v:=.int .u64 blk) rfl (fun w' hLat=>q0w 25 _ _ rfl Tryz.underlying25 rfl _ rfl _ (HR.out w' hLat).1) hS ?_
   try simp only [Act.put,pC,pD,pE,pF,pG,pH]
   refine take_y (i:=6) rfl hS ?_
   try simp only [Act.put,pC,pD,pE,pF,pG,pH]
   refine take_y (i:=7) rfl hS ?_
   try simp only [Act.put,pC,pD,pE,pF,pG,pH]
   refine take_x (i:=8) (v:=.pointer (some ⟨b,o+k*2,none⟩)) rfl (fun w' hLat=>q0p 47 79 Tryz.underlying47 2 infoIm _ _ rfl b o M.length cap k rfl rfl HML.out) hS ?_
   try simp only [Act.put,pC,pD,pE,pF,pG,pH]
   refine take_y (i:=9) rfl hS ?_
   try simp only [Act.put,pC,pD,pE,pF,pG,pH]
   refine take_x (i:=10) (v:=.slice ba bl bc) rfl (fun w' hLat=>q0w 57 _ _ rfl Tryz.underlying57 rfl _ rfl _ (HR.out w' hLat).2.1) hS ?_
   try simp only [Act.put,pC,pD,pE,pF,pG,pH]
   refine take_x (i:=11) (v:=.string s) rfl (fun w' hLat=>by rw [<-HS.out];exact q3b (.tmp 21) rfl rfl (HR.out w' hLat).2.2) hS ?_
   try simp only [Act.put,pC,pD,pE,pF,pG,pH]
   refine take_x (i:=12) (v:=.agg #[.int .u64 blk,.string s]) rfl (fun w' hLat=>q0n 105 [(0,.tmp 16),(1,.tmp 22)] rfl [(0,.int .u64 blk),(1,.string s)] rfl _ (built_I _ _)) hS ?_
   try simp only [Act.put,pC,pD,pE,pF,pG,pH]
   refine q0m (i:=13) (by kernel_rfl) ?_
   refine q0d rfl (by rfl) ?_
   go_simp
   have hS2:=hS
   have hS:Below w.heap.size w (wd.alloc (.cells #[.int .u64 blk,.string s] 105)):=hS2.alloc hS2.size _
   refine ⟨hS,?_⟩
   try simp only [Act.put,pC,pD,pE,pF,pG,pH]
   refine q0m (i:=14) (by kernel_rfl) ?_
   refine q0d rfl (by rfl) ?_
   refine wp_appR 53 105 Tryz.underlying53 2 24 _ infI rfl (by decide) (.tmp 11) (.tmp 24) rfl w.heap.size k u3 (((M.map pl).take k).map ic).flatten [.int .u64 blk,.string s] wd rfl rfl rfl (HOW.out wd hbd).1 rfl (by simp [Value.oneCell']) HL2.out (by decide) (HOW.out wd hbd).2 ?_
   intro v5 x5 hown hgr
   have H5:Box (MoK w x5 M (k+1) v5):=⟨HST2.out wd x5 v5 hbd hown hgr⟩
   have hS:Below w.heap.size w x5:=H5.out.bel
   refine ⟨hS,?_⟩
   try simp only [Act.put,pC,pD,pE,pF,pG,pH]
   refine take_y (i:=15) rfl hS ?_
   try simp only [Act.put,pC,pD,pE,pF,pG,pH]
   refine wpAnyH_done (by kernel_rfl) ?_ _
   clear hS2 hS hown hgr hbd
   go_wp2
   go_roundw
   case rel=>exact ⟨k+1,HML.out,by go_num,H5⟩
   case measure=>simp [intOf];have:=HML.out;omega
  ·obtain rfl:k=M.length:=by omega
   have hlt1:decide ((M.length:Int)<(M.length:Int))=false:=by simp
   go_wp2
   go_ret
   exact ⟨_,rfl,HG.out⟩
end Go.Proofs.YtjejnlebpcjidaaGreatDoor
