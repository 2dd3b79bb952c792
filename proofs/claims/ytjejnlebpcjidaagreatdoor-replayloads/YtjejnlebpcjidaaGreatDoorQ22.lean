/-
 A journal in memory, told plainly: its cells, its disk, what a call leaves of it. And what follows it.
-/
import Derived.Test.YtjejnlebpcjidaaGreatDoorQ01
import Derived.Test.YtjejnlebpcjidaaGreatDoorQ10
import Derived.Test.YtjejnlebpcjidaaGreatDoorQ15
import Derived.Test.YtjejnlebpcjidaaGreatDoorQ04
import Derived.Test.YtjejnlebpcjidaaGreatDoorQ21
import Derived.Test.YtjejnlebpcjidaaGreatDoorQ00
import Derived.Deep.QuietTactic
import Derived.BigQuiet
set_option linter.unusedVariables false
set_option maxRecDepth 100000
set_option maxRecDepth 100000
namespace Go.Proofs.YtjejnlebpcjidaaGreatDoor
open Go.RowKit Plain
def dsha (M:List Int):List Int:=Dig.Plain.sha M
theorem q2w (M:List Int):(dsha M).length=32:=Dig.Plain.q6c M
theorem q8c (M:List Int):Byt (dsha M):=Dig.Plain.byt_sha M
def z32:List Int:=List.replicate 32 0
theorem q1l:z32.length=32:=by simp [z32]
theorem z0w:Byt z32:=q2g 32
def lk (tag:List Int) (p:Int) (L:List Int):List Int:=255::(tag++(bytesOf p 4++L))
theorem len_lk (tag:List Int) (p:Int) (L:List Int):(lk tag p L).length=tag.length+L.length+5:=by
 simp [lk,q0f]
 omega
def lnk (tag:List Int) (p:Int) (L:List Int):List Int:=dsha (lk tag p L)
structure Jst where
 start:Nat
 count:Nat
 tag:List Int
structure OkS (s:Jst):Prop where
 lt:s.tag.length=32
 bt:Byt s.tag
 s64:s.start<=18446744073709551615
 c64:s.count<=18446744073709551615
def scs (s:Jst):List Value:=.int .u64 (s.start:Int)::.int .u64 (s.count:Int)::s.tag.map (Value.int .u8)
def sa (s:Jst):Array Value:=(scs s).toArray
def zs:Jst:=⟨0,0,z32⟩
theorem q1f:OkS zs:=⟨q1l,z0w,Nat.zero_le _,Nat.zero_le _⟩
theorem q0u {s:Jst} (h:OkS s):(scs s).length=34:=by simp [scs,h.lt]
theorem q1b {s:Jst} (h:OkS s):(sa s).size=34:=by rw [sa,List.size_toArray,q0u h]
theorem q5p (s:Jst):(sa s).toList=scs s:=by simp [sa]
theorem one_scs (s:Jst):∀u∈scs s,u.oneCell'=true:=by
 intro u hu
 simp only [scs,List.mem_cons,List.mem_map] at hu
 rcases hu with rfl | rfl | ⟨z,_,rfl⟩<;>rfl
theorem q3z (s:Jst):(sa s).all (·.oneCell')=true:=by
 rw [sa]
 simp only [List.all_toArray,List.all_eq_true]
 exact one_scs s
theorem zeroSt:(Tryz.prog.info? 27).map (·.zero)=some (some (.agg (sa zs))):=by kernel_rfl
theorem infoSt:(Tryz.prog.info? 27).map (·.size)=some 34:=by kernel_rfl
theorem zeroSum:(Tryz.prog.info? 23).map (·.zero)=some (some (.agg (u8s z32))):=by kernel_rfl
theorem infoSum:(Tryz.prog.info? 23).map (·.size)=some 32:=by kernel_rfl
theorem q5g:Tryz.prog.built 27 []=some (sa zs):=by kernel_rfl
theorem built_St1 (x:Nat):Tryz.prog.built 27 [(0,.int .u64 (x:Int))]=some (sa ⟨x,0,z32⟩):=by kernel_rfl
structure Jt where
 key:List Int
 first:Nat
 size:Nat
 st:Jst
 nx:Int
 lim:Int
structure Jt.Ok (j:Jt):Prop where
 key:j.key.length=32
 kb:Byt j.key
 lo:1<=j.size
 hi:j.first+j.size<=4096
 st:OkS j.st
 sl:j.st.start<j.size
 cl:j.st.count<=j.size
 nx:1<=j.nx/\j.nx<=18446744073709551615
 lim:0<=j.lim/\j.lim<=9223372036854775807
def jq (p:Value) (K:List Int) (f n:Int) (s:Jst) (x y:Int):List Value:=p::(K.map (Value.int .u8)++(.int .u64 f::.int .u64 n::(scs s++[.int .u64 x,.int .u64 y])))
def jcs (D:Nat) (j:Jt):List Value:=jq (.pointer (some ⟨D,0,none⟩)) j.key (j.first:Int) (j.size:Int) j.st j.nx j.lim
theorem q7v (p:Value) (K:List Int) (f n:Int) (s:Jst) (x y:Int) (hK:K.length=32) (hs:OkS s):(jq p K f n s x y).length=71:=by simp [jq,hK,q0u hs]
theorem q3l (place:Nat->Option (Nat × Nat)) (cells:Array Value) (i off:Nat) (v:Value) (hv:v.cells=#[v]) (rest:List (Nat × Value)) (hp:place i=some (off,1)) (hf:off+1<=cells.size):
  Instr.fill place cells ((i,v)::rest)=Instr.fill place (cells.setIfInBounds off v) rest:=by
 rw [Instr.fill,hp]
 simp only [hv]
 rw [if_neg (by simp;omega)]
 rfl
theorem jq_key (p:Value) (K L:List Int) (f n:Int) (s:Jst) (x y:Int) (hK:K.length=32) (hL:L.length=32):splice (jq p K f n s x y) 1 (L.map (Value.int .u8))=jq p L f n s x y:=by
 simp [splice,jq,hL,hK]
theorem jq_f (p:Value) (K:List Int) (f n m:Int) (s:Jst) (x y:Int) (hK:K.length=32):(jq p K f n s x y).set 33 (.int .u64 m)=jq p K m n s x y:=by
 simp [jq,hK]
theorem jq_n (p:Value) (K:List Int) (f n m:Int) (s:Jst) (x y:Int) (hK:K.length=32):(jq p K f n s x y).set 34 (.int .u64 m)=jq p K f m s x y:=by
 simp [jq,hK]
theorem jq_s (p:Value) (K:List Int) (f n:Int) (s t:Jst) (x y:Int) (hK:K.length=32) (hs:OkS s) (ht:OkS t):splice (jq p K f n s x y) 35 (scs t)=jq p K f n t x y:=by
 simp [splice,jq,List.take_append,List.drop_append,hK,q0u hs,q0u ht]
 rw [List.take_of_length_le (by simp [hK]),List.drop_of_length_le (by simp [hK])]
 rfl
theorem jq_x (p:Value) (K:List Int) (f n:Int) (s:Jst) (x y z:Int) (hK:K.length=32) (hs:OkS s):(jq p K f n s x y).set 69 (.int .u64 z)=jq p K f n s z y:=by
 simp [jq,hK,q0u hs]
theorem jq_y (p:Value) (K:List Int) (f n:Int) (s:Jst) (x y z:Int) (hK:K.length=32) (hs:OkS s):(jq p K f n s x y).set 70 (.int .u64 z)=jq p K f n s x z:=by
 simp [jq,hK,q0u hs]
theorem builtJ (parts:List (Nat × Value)):Tryz.prog.built 88 parts=Instr.fill (fun i=>#[(0,1),(1,32),(33,1),(34,1),(35,34),(69,1),(70,1)][i]?) (jq (.pointer none) z32 0 0 zs 0 0).toArray parts:=by kernel_rfl
theorem built_J (p:Value) (hp:p.cells=#[p]) (K:List Int) (f n:Int) (s:Jst) (x y:Int) (hk:K.length=32) (hs:OkS s):Tryz.prog.built 88 [(0,p),(1,.agg (u8s K)),(2,.int .u64 f),(3,.int .u64 n),(4,.agg (sa s)),(5,.int .u64 x),(6,.int .u64 y)]=some (jq p K f n s x y).toArray:=by
 have hz:z32.length=32:=q1l
 have hu:(u8s K).toList=K.map (Value.int .u8):=by simp [u8s]
 rw [builtJ,q3l _ _ 0 0 _ hp _ rfl (by rw [List.size_toArray,q7v _ _ _ _ _ _ _ hz q1f];omega)]
 rw [List.setIfInBounds_toArray,show (jq (.pointer none) z32 0 0 zs 0 0).set 0 p=jq p z32 0 0 zs 0 0 from rfl]
 rw [q3i _ _ 1 1 32 _ _ rfl (by rw [q0h,hk]) (by rw [List.size_toArray,q7v _ _ _ _ _ _ _ hz q1f];omega),hu,jq_key _ _ _ _ _ _ _ _ hz hk]
 rw [q3l _ _ 2 33 _ rfl _ rfl (by rw [List.size_toArray,q7v _ _ _ _ _ _ _ hk q1f];omega),List.setIfInBounds_toArray,jq_f _ _ _ _ _ _ _ _ hk]
 rw [q3l _ _ 3 34 _ rfl _ rfl (by rw [List.size_toArray,q7v _ _ _ _ _ _ _ hk q1f];omega),List.setIfInBounds_toArray,jq_n _ _ _ _ _ _ _ _ hk]
 rw [q3i _ _ 4 35 34 _ _ rfl (q1b hs) (by rw [List.size_toArray,q7v _ _ _ _ _ _ _ hk q1f];omega),q5p,jq_s _ _ _ _ _ _ _ _ hk q1f hs]
 rw [q3l _ _ 5 69 _ rfl _ rfl (by rw [List.size_toArray,q7v _ _ _ _ _ _ _ hk hs];omega),List.setIfInBounds_toArray,jq_x _ _ _ _ _ _ _ _ hk hs]
 rw [q3l _ _ 6 70 _ rfl _ rfl (by rw [List.size_toArray,q7v _ _ _ _ _ _ _ hk hs];omega),List.setIfInBounds_toArray,jq_y _ _ _ _ _ _ _ _ hk hs,Instr.fill]
structure JC (w0 w:World) (J D:Nat) (fp:Nat->Prop) (j:Jt) (d:Disk.Dk):Prop where
 cx:Disk.Cx w0 w D fp d
 row:w.heap[J]?=some (.cells (jcs D j).toArray 88 (0,0))
 lo:w0.heap.size<=J
 nJ:¬fp J
 ok:j.Ok
 fit:j.first+j.size<=d.n
 dig:Dig.Tabs w0
 tab:Seal.Tab w0
structure Fw (S:Nat->Prop) (w w':World) (fp fp':Nat->Prop):Prop where
 t:Disk.Turned (fun k=>fp k∨S k) w w'
 k:∀k,k<w.heap.size->¬fp k->¬fp' k
def No (k:Nat):Prop:=False
theorem Fw.refl (S:Nat->Prop) (w:World) (fp:Nat->Prop):Fw S w w fp fp:=⟨Disk.Turned.refl _ _,fun _ _ h=>h⟩
theorem Fw.below {w w':World} (S:Nat->Prop) (fp:Nat->Prop) (h:Below w.heap.size w w'):Fw S w w' fp fp:=⟨Disk.Turned.of_below h,fun _ _ h=>h⟩
theorem Fw.size {S:Nat->Prop} {w w':World} {fp fp':Nat->Prop} (h:Fw S w w' fp fp'):w.heap.size<=w'.heap.size:=h.t.size
theorem Fw.block {S:Nat->Prop} {w w':World} {fp fp':Nat->Prop} (h:Fw S w w' fp fp') {k:Nat} (hk:k<w.heap.size) (h1:¬fp k) (h2:¬S k):w'.heap[k]?=w.heap[k]?:=h.t.block k hk (fun h=>h.elim h1 h2)
theorem Fw.trans {S:Nat->Prop} {a b c:World} {fp fp' fp'':Nat->Prop} (h:Fw S a b fp fp') (k:Fw S b c fp' fp''):Fw S a c fp fp'':=by
 refine ⟨⟨k.t.os.trans h.t.os,k.t.tape.trans h.t.tape,k.t.output.trans h.t.output,Nat.le_trans h.t.size k.t.size,fun i hi hn=>?_⟩,fun i hi hn=>?_⟩
 ·have h1:¬fp i:=fun hf=>hn (.inl hf)
  have h2:¬S i:=fun hf=>hn (.inr hf)
  exact (k.block (Nat.lt_of_lt_of_le hi h.size) (h.k i hi h1) h2).trans (h.block hi h1 h2)
 ·exact k.k i (Nat.lt_of_lt_of_le hi h.size) (h.k i hi hn)
theorem Fw.wider {S S':Nat->Prop} {w w':World} {fp fp':Nat->Prop} (h:Fw S w w' fp fp') (hs:∀k,k<w.heap.size->S k->S' k):Fw S' w w' fp fp':=
 ⟨⟨h.t.os,h.t.tape,h.t.output,h.t.size,fun i hi hn=>h.t.block i hi (fun hf=>hn (hf.imp id (hs i hi)))⟩,h.k⟩
theorem Fw.of_fol {w w':World} {fp fp':Nat->Prop} (h:Disk.Fol w fp w' fp') (S:Nat->Prop):Fw S w w' fp fp':=
 ⟨⟨h.t.os,h.t.tape,h.t.output,h.t.size,fun i hi hn=>h.t.block i hi (fun hf=>hn (.inl hf))⟩,h.k⟩
theorem Fw.of_but {w w':World} {G:Nat} (S:Nat->Prop) (hS:S G) (h:But G w w') (fp:Nat->Prop):Fw S w w' fp fp:=
 ⟨⟨h.os,h.tape,h.output,h.size,fun i hi hn=>h.block i hi (fun e=>hn (.inr (e▸hS)))⟩,fun _ _ h=>h⟩
theorem JC.lt {w0 w:World} {J D:Nat} {fp:Nat->Prop} {j:Jt} {d:Disk.Dk} (h:JC w0 w J D fp j d):J<w.heap.size:=(gE h.row)
theorem JC.below {w0 w w':World} {J D:Nat} {fp:Nat->Prop} {j:Jt} {d:Disk.Dk} (h:JC w0 w J D fp j d) (hb:Below w.heap.size w w'):JC w0 w' J D fp j d:=
 ⟨h.cx.step hb,(hb.block J h.lt).trans h.row,h.lo,h.nJ,h.ok,h.fit,h.dig,h.tab⟩
theorem JC.fol {w0 w w':World} {J D:Nat} {fp fp':Nat->Prop} {j:Jt} {d d':Disk.Dk} (h:JC w0 w J D fp j d) (c:Disk.Cx w0 w' D fp' d') (f:Disk.Fol w fp w' fp') (hd:d'.n=d.n):JC w0 w' J D fp' j d':=
 ⟨c,(f.t.block J h.lt h.nJ).trans h.row,h.lo,fun hf=>f.k J h.lt h.nJ hf,h.ok,by rw [hd];exact h.fit,h.dig,h.tab⟩
theorem JC.set {w0 w w':World} {J D:Nat} {fp:Nat->Prop} {j:Jt} {d:Disk.Dk} (h:JC w0 w J D fp j d) (G:Nat) (hb:But G w w') (h1:¬fp G) (h2:G≠J) (h4:w0.heap.size<=G):JC w0 w' J D fp j d:=by
 have hne:∀k,fp k->k≠G:=fun k hk e=>h1 (e▸hk)
 refine ⟨⟨h.cx.is.same (fun k hk hl=>hb.block k hl (hne k hk)),?_,h.cx.lo,fun k hk=>Nat.lt_of_lt_of_le (h.cx.hi k hk) hb.size⟩,(hb.block J h.lt (fun e=>h2 e.symm)).trans h.row,h.lo,h.nJ,h.ok,h.fit,h.dig,h.tab⟩
 have hl:=h.cx.bel
 exact ⟨hb.os.trans hl.os,hb.tape.trans hl.tape,hb.output.trans hl.output,Nat.le_trans hl.size hb.size,fun k hk=>(hb.block k (Nat.lt_of_lt_of_le hk hl.size) (by omega)).trans (hl.block k hk)⟩
theorem JC.turn {w0 w w':World} {J D:Nat} {fp:Nat->Prop} {j j':Jt} {d:Disk.Dk} (h:JC w0 w J D fp j d) (hb:But J w w') (hr:w'.heap[J]?=some (.cells (jcs D j').toArray 88 (0,0))) (ok:j'.Ok) (hf:j'.first=j.first) (hz:j'.size=j.size):JC w0 w' J D fp j' d:=by
 have hne:∀k,fp k->k≠J:=fun k hk e=>h.nJ (e▸hk)
 refine ⟨⟨h.cx.is.same (fun k hk hl=>hb.block k hl (hne k hk)),?_,h.cx.lo,fun k hk=>Nat.lt_of_lt_of_le (h.cx.hi k hk) hb.size⟩,hr,h.lo,h.nJ,ok,by rw [hf,hz];exact h.fit,h.dig,h.tab⟩
 have hl:=h.cx.bel
 have hlo:=h.lo
 exact ⟨hb.os.trans hl.os,hb.tape.trans hl.tape,hb.output.trans hl.output,Nat.le_trans hl.size hb.size,fun k hk=>(hb.block k (Nat.lt_of_lt_of_le hk hl.size) (by omega)).trans (hl.block k hk)⟩
structure Jrd (w:World) (J D:Nat) (j:Jt):Prop where
 disk:w.cell? ⟨J,0,none⟩=some (.pointer (some ⟨D,0,none⟩))
 key:w.rangeAt J 1 (j.key.map (Value.int .u8))
 first:w.cell? ⟨J,33,none⟩=some (.int .u64 (j.first:Int))
 size:w.cell? ⟨J,34,none⟩=some (.int .u64 (j.size:Int))
 st:w.rangeAt J 35 (scs j.st)
 start:w.cell? ⟨J,35,none⟩=some (.int .u64 (j.st.start:Int))
 count:w.cell? ⟨J,36,none⟩=some (.int .u64 (j.st.count:Int))
 nx:w.cell? ⟨J,69,none⟩=some (.int .u64 j.nx)
 lim:w.cell? ⟨J,70,none⟩=some (.int .u64 j.lim)
theorem q9u {w:World} {J D:Nat} {j:Jt} (h:w.heap[J]?=some (.cells (jcs D j).toArray 88 (0,0))) (hk:j.key.length=32) (hs:OkS j.st):Jrd w J D j:=by
 have hr:=q0u hs
 have hm:(j.key.map (Value.int .u8)).length=32:=by simp [hk]
 have key:∀i,(jcs D j)[33+i]?=(Value.int .u64 (j.first:Int)::.int .u64 (j.size:Int)::(scs j.st++[.int .u64 j.nx,.int .u64 j.lim]))[i]?:=fun i=>by
  rw [jcs,jq,show 33+i=(32+i)+1 by omega,List.getElem?_cons_succ,List.getElem?_append_right (by omega),hm]
  congr 1
  omega
 have hc:∀i x,(jcs D j)[i]?=some x->w.cell? ⟨J,i,none⟩=some x:=fun i x hx=>by
  rw [cell_of_row _ _ _ _ _ _ h]
  simpa using hx
 have st:w.rangeAt J 35 (scs j.st):=fun i x hx=>by
  have hi:=(List.getElem?_eq_some_iff.1 hx).1
  refine hc _ _ ?_
  rw [show 35+i=33+(i+2) by omega,key,List.getElem?_cons_succ,List.getElem?_cons_succ,List.getElem?_append_left hi]
  exact hx
 refine ⟨hc _ _ rfl,fun i x hx=>?_,hc _ _ (key 0),hc _ _ (key 1),st,st 0 _ rfl,st 1 _ rfl,?_,?_⟩
 ·have hi:=(List.getElem?_eq_some_iff.1 hx).1
  refine hc _ _ ?_
  rw [jcs,jq,Nat.add_comm,List.getElem?_cons_succ,List.getElem?_append_left hi]
  exact hx
 ·refine hc _ _ ?_
  rw [show 69=33+(34+2) by rfl,key,List.getElem?_cons_succ,List.getElem?_cons_succ,List.getElem?_append_right (by omega),hr]
  rfl
 ·refine hc _ _ ?_
  rw [show 70=33+(35+2) by rfl,key,List.getElem?_cons_succ,List.getElem?_cons_succ,List.getElem?_append_right (by omega),hr]
  rfl
theorem JC.rd {w0 w:World} {J D:Nat} {fp:Nat->Prop} {j:Jt} {d:Disk.Dk} (h:JC w0 w J D fp j d):Jrd w J D j:=q9u h.row h.ok.key h.ok.st
def dwr (d:Disk.Dk) (p:Nat) (B:List Int):Disk.Dk × Int:=if d.down=true then (d,13) else if d.st=true/\d.left=0 then ({d with down:=true},13) else (Disk.wrOk d p B,0)
theorem dwrite_v {w0 w:World} {D:Nat} {fp:Nat->Prop} {d:Disk.Dk} (C:Disk.Cx w0 w D fp d) (p:Nat) (a:Option Addr) (cap:Nat) (B:List Int) (hB:Bytes w a 192 B) (hap:∀ad,a=some ad->¬fp ad.block) (hi:p<d.n) (hl:0<=d.left/\d.left<=9223372036854775807) (ho:d.ops.length<1000000) (hu:d.uw.length<1000000):
  Calls Tryz.prog 21 #[.pointer (some ⟨D,0,none⟩),.int .i64 (p:Int),.slice a 192 cap] w fun e w'=>e=.returned (.int .i64 (dwr d p B).2)/\(dwr d p B).1.n=d.n/\∃fp',Disk.Cx w0 w' D fp' (dwr d p B).1/\Disk.Fol w fp w' fp':=by
 by_cases hd:d.down=true
 ·refine (Disk.z7s w D fp d C.is p a 192 cap hd).mono ?_
  rintro e w' ⟨rfl,rfl⟩
  simp only [dwr,hd,if_true]
  exact ⟨trivial,trivial,fp,C,⟨Disk.Turned.refl _ _,fun _ _ h=>h⟩⟩
 ·have hd':d.down=false:=by simpa using hd
  by_cases hs:d.st=true/\d.left=0
  ·refine (Disk.q9o w D fp d C.is p a 192 cap hd' (by simp [Disk.fit,Disk.hsp,hi]) hs.1 hs.2).mono ?_
   rintro e w' ⟨rfl,h2⟩
   have e:dwr d p B=(({d with down:=true}:Disk.Dk),13):=by simp only [dwr];rw [if_neg hd,if_pos hs]
   rw [e]
   exact ⟨rfl,rfl,C.nx h2⟩
  ·refine (Disk.write_cx C p a cap B hB hap hd' hi (fun h1 h2=>hs ⟨h1,h2⟩) hl ho hu).mono ?_
   rintro e w' ⟨rfl,h2⟩
   simp only [dwr,hd',hs,Bool.false_eq_true,if_false]
   exact ⟨trivial,rfl,h2⟩
def Nums (w:World) (a:Option Addr) (len:Nat) (L:List Int):Prop:=
 L.length=len/\(∀i,0<=L.getD i 0/\L.getD i 0<=18446744073709551615)/\(0<len->∃b off,a=some ⟨b,off,none⟩/\b<w.heap.size/\∀i,i<len->w.cell? ⟨b,off+i,none⟩=some (.int .u64 (L.getD i 0)))
def sumTo (L:List Int):Nat->Int
 | 0=>0
 | k+1=>sumTo L k+L.getD k 0
theorem q5v (L:List Int) (hL:∀i,0<=L.getD i 0/\L.getD i 0<=18446744073709551615) (k n:Nat) (h:k<=n):sumTo L k<=sumTo L n:=by
 induction n with
 | zero=>rw [Nat.le_zero.1 h];exact Int.le_refl _
 | succ n ih=>
  by_cases e:k=n+1
  ·rw [e];exact Int.le_refl _
  ·have:=ih (by omega)
   have:=hL n
   rw [sumTo];omega
theorem q7u (L:List Int) (hL:∀i,0<=L.getD i 0/\L.getD i 0<=18446744073709551615) (k:Nat):0<=sumTo L k:=q5v L hL 0 k (Nat.zero_le _)
theorem z2z (s z:Int) (hs:0<=s/\s<=18446744073709551615) (hz:0<=z/\z<=18446744073709551615) (h:18446744073709551615<s+z):IntKind.u64.wrap (s+z)<z:=by
 rw [IntKind.wrap_u64];omega
def addEnd (s:Int):Ending:=if s<=18446744073709551615 then .returned (.tuple #[.int .u64 s,.bool true]) else .returned (.tuple #[.int .u64 0,.bool false])
theorem z2h {s:Int} (h:s<=18446744073709551615):addEnd s=.returned (.tuple #[.int .u64 s,.bool true]):=if_pos h
theorem z3a {s:Int} (h:18446744073709551615<s):addEnd s=.returned (.tuple #[.int .u64 0,.bool false]):=if_neg (by omega)
set_option maxHeartbeats 400000 in
theorem z1b (a:Option Addr) (len cap:Nat) (L:List Int) (w:World) (hb:Nums w a len L) (hl:len<=maxLen):
  Calls Tryz.prog 71 #[.slice a len cap] w fun e w'=>e=addEnd (sumTo L len)/\w=w':=by
 obtain ⟨hL,hz,hc⟩:=hb
 have hl':=hl
 unfold maxLen at hl'
 go_enter Tryz.func71,Tryz.ntmps71
 go_wp2
 go_loop [4,9] (fun t i=>∃k:Nat,k<=len/\i=.int .i64 k/\sumTo L k<=18446744073709551615/\t=.int .u64 (sumTo L k)) (fun _ i=>len-(intOf i).toNat)
 case atStart=>exact ⟨0,Nat.zero_le _,rfl,by simp [sumTo],rfl⟩
 case round=>
  obtain ⟨k,hk,rfl,hs,rfl⟩:=hrel
  by_cases hlt:k<len
  ·obtain ⟨b,off,rfl,hlt',hc⟩:=hc (by omega)
   have hck:=hc k hlt
   have hzk:=hz k
   have hnn:=q7u L hz k
   have hsu:sumTo L (k+1)=sumTo L k+L.getD k 0:=rfl
   have HM:Hid (sumTo L (k+1)<=sumTo L len):=q5v L hz (k+1) len hlt
   generalize L.getD k 0=z at hck hzk hsu
   have HS:Hid (sumTo L (k+1)=sumTo L k+z):=hsu
   clear hsu hc hz
   generalize hgen:sumTo L k=s at hs hnn HS
   clear hgen
   by_cases ho:s+z<=18446744073709551615
   ·have hno:¬s+z<z:=by omega
    go_wp2
    go_round
    case rel=>exact ⟨k+1,by omega,by go_num,by rw [HS.out];exact ho,by rw [HS.out]⟩
    case measure=>simp [intOf];omega
   ·have hov:=z2z s z ⟨hnn,hs⟩ hzk (by omega)
    have HF:Hid (18446744073709551615<sumTo L len):=by have h1:=HM.out;have h2:=HS.out;show _<_;omega
    go_wp2
    go_ret2
    exact ⟨by rw [z3a HF.out];rfl,rfl⟩
  ·obtain rfl:k=len:=by omega
   have HF:Hid (sumTo L k<=18446744073709551615):=hs
   clear hc hz
   go_wp2
   go_ret2
   exact ⟨by rw [z2h HF.out];rfl,rfl⟩
theorem add2 (W:World) (N:Nat) (hN:N=W.heap.size) (a b:Int) (ha:0<=a/\a<=18446744073709551615) (hb:0<=b/\b<=18446744073709551615):
  Calls Tryz.prog 71 #[.slice (some ⟨N,0,none⟩) 2 2] (W.alloc (.cells #[.int .u64 a,.int .u64 b] 25)) fun e w'=>e=addEnd (a+b)/\W.alloc (.cells #[.int .u64 a,.int .u64 b] 25)=w':=by
 subst hN
 have hr:(W.alloc (.cells #[.int .u64 a,.int .u64 b] 25)).heap[W.heap.size]?=some (.cells #[.int .u64 a,.int .u64 b] 25 (0,0)):=q0g rfl
 have hn:Nums (W.alloc (.cells #[.int .u64 a,.int .u64 b] 25)) (some ⟨W.heap.size,0,none⟩) 2 [a,b]:=by
  refine ⟨rfl,fun i=>?_,fun _=>⟨W.heap.size,0,rfl,(gE hr),fun i hi=>?_⟩⟩
  ·match i with
   | 0=>exact ha
   | 1=>exact hb
   | i+2=>simp
  ·rw [cell_of_row _ _ _ _ _ _ hr]
   match i,hi with
   | 0,_=>rfl
   | 1,_=>rfl
 have:=z1b _ 2 2 _ _ hn (by unfold maxLen;omega)
 have e:sumTo [a,b] 2=a+b:=by simp [sumTo]
 rw [e] at this
 exact this
attribute [local go_sem] Oper.semAt_some
theorem q7p {w:World} {J D:Nat} {j:Jt} (h:Jrd w J D j) (hz:1<=j.size):Calls Tryz.prog 33 #[.pointer (some ⟨J,0,none⟩)] w fun e w'=>e=.returned (.bool false)/\w=w':=by
 have c:=h.size
 have hne:((j.size:Int)==0)=false:=by simp;omega
 clear h hz
 go_enter Tryz.func33,Tryz.ntmps33
 go_wp2
 go_ret
 exact ⟨rfl,rfl⟩
def may (n:Nat) (s:Jst):Bool:=decide (s.start<n)&&decide (s.count<=n)
theorem q9c {w:World} {J D:Nat} {j:Jt} (h:Jrd w J D j) (s:Jst) (hlt:J<w.heap.size):Calls Tryz.prog 32 #[.pointer (some ⟨J,0,none⟩),.agg (sa s)] w fun e w'=>e=.returned (.bool (may j.size s))/\Below w.heap.size w w':=by
 have HL:Box (Below w.heap.size w (w.alloc (.cells (sa s) 27))):=⟨(Below.refl _ w).alloc (Nat.le_refl _) _⟩
 have hr:(w.alloc (.cells (sa s) 27)).heap[w.heap.size]?=some (.cells (sa s) 27 (0,0)):=q0g rfl
 have k1:(w.alloc (.cells (sa s) 27)).cell? ⟨w.heap.size,0,none⟩=some (.int .u64 (s.start:Int)):=by rw [cell_of_row _ _ _ _ _ _ hr];rfl
 have k2:(w.alloc (.cells (sa s) 27)).cell? ⟨w.heap.size,1,none⟩=some (.int .u64 (s.count:Int)):=by rw [cell_of_row _ _ _ _ _ _ hr];rfl
 have k3:(w.alloc (.cells (sa s) 27)).cell? ⟨J,34,none⟩=some (.int .u64 (j.size:Int)):=(HL.out.cell hlt).trans h.size
 obtain ⟨S,hS⟩:=nm w.heap.size
 rw [hS] at k1 k2
 have HS:Box (w.heap.size=S):=⟨hS⟩
 clear h hS hr hlt
 by_cases h1:s.start<j.size
 ·have d1:decide (s.start<j.size)=true:=by simpa using h1
  by_cases h2:s.count<=j.size
  ·have d2:decide (s.count<=j.size)=true:=by simpa using h2
   have HM:Box (may j.size s=true):=⟨by simp [may,h1,h2]⟩
   clear h1 h2
   go_enter Tryz.func32,Tryz.ntmps32
   go_upto_region 1 with fail
   rw [HS.out]
   generalize w.alloc (.cells (sa s) 27)=w1 at HL k1 k2 k3 ⊢
   go_quiet (fail)
   go_wp2
   go_ret
   exact ⟨by rw [HM.out];rfl,q3e HL.out _⟩
  ·have d2:decide (s.count<=j.size)=false:=by simpa using h2
   have HM:Box (may j.size s=false):=⟨by simp [may,h2]⟩
   clear h1 h2
   go_enter Tryz.func32,Tryz.ntmps32
   go_upto_region 1 with fail
   rw [HS.out]
   generalize w.alloc (.cells (sa s) 27)=w1 at HL k1 k2 k3 ⊢
   go_quiet (fail)
   go_wp2
   go_ret
   exact ⟨by rw [HM.out];rfl,q3e HL.out _⟩
 ·have d1:decide (s.start<j.size)=false:=by simpa using h1
  have HM:Box (may j.size s=false):=⟨by simp [may,h1]⟩
  clear h1
  go_enter Tryz.func32,Tryz.ntmps32
  go_upto_region 1 with fail
  rw [HS.out]
  generalize w.alloc (.cells (sa s) 27)=w1 at HL k1 k2 k3 ⊢
  go_quiet (fail)
  go_wp2
  go_ret
  exact ⟨by rw [HM.out];rfl,q3e HL.out _⟩
theorem rest_any {w:World} {J D:Nat} {j:Jt} (h:Jrd w J D j) (hz:1<=j.size) (k:Nat) (k':Int) (hk:k'=(k:Int)):Calls Tryz.prog 72 #[.pointer (some ⟨J,0,none⟩),.int .u64 k'] w fun e w'=>e=.returned (.int .u64 ((k%j.size:Nat):Int))/\w=w':=by
 subst hk
 have c:=h.size
 have hne:(j.size:Int)≠0:=by omega
 obtain ⟨m,hm⟩:=nm (k%j.size)
 have ht:(k:Int).tmod (j.size:Int)=(m:Int):=by rw [<-hm];rfl
 have ht2:(k:Int)%(j.size:Int)=(m:Int):=by rw [<-hm];rfl
 rw [hm]
 clear h hz hm
 go_enter Tryz.func72,Tryz.ntmps72
 go_wp2
 go_ret
 exact ⟨rfl,rfl⟩
def plc (j:Jt) (k:Nat):Nat:=j.first+k%j.size
theorem plc_lt (j:Jt) (k:Nat) (h:1<=j.size):plc j k<j.first+j.size:=by
 have:=Nat.mod_lt k h
 unfold plc
 omega
set_option maxHeartbeats 1000000 in
theorem place_any {w:World} {J D:Nat} {j:Jt} (h:Jrd w J D j) (ok:j.Ok) (hlt:J<w.heap.size) (k:Nat) (k':Int) (hk:k'=(k:Int)):Calls Tryz.prog 37 #[.pointer (some ⟨J,0,none⟩),.int .u64 k'] w fun e w'=>e=.returned (.int .u32 (plc j k:Int))/\Below w.heap.size w w':=by
 subst hk
 have c:=h.first
 have hlo:=ok.lo
 have hhi:=ok.hi
 have hm:=Nat.mod_lt k hlo
 have HR:Box (∀n,Calls Tryz.prog 72 #[.pointer (some ⟨J,0,none⟩),.int .u64 (k:Int)] (w.drewN n) fun e w'=>e=.returned (.int .u64 ((k%j.size:Nat):Int))/\w'=w.drewN n):=⟨fun n=>by
  have hj:Jrd (w.drewN n) J D j:=⟨h.disk,h.key,h.first,h.size,h.st,h.start,h.count,h.nx,h.lim⟩
  exact (rest_any hj hlo k _ rfl).mono fun _ _ ⟨h1,h2⟩=>⟨h1,h2.symm⟩⟩
 have HP:Box (plc j k=j.first+k%j.size):=⟨rfl⟩
 have hw1:IntKind.u64.wrap ((j.first:Int)+((k%j.size:Nat):Int))=((j.first+k%j.size:Nat):Int):=by rw [IntKind.wrap_u64];omega
 have hw2:IntKind.u32.wrap ((j.first+k%j.size:Nat):Int)=((j.first+k%j.size:Nat):Int):=by rw [IntKind.wrap_u32];omega
 rw [HP.out]
 generalize k%j.size=m at *
 clear h ok hlt
 go_enter Tryz.func37,Tryz.ntmps37
 go_upto_region 1 with fail
 go_quiet (first | (go_at_call 72;exact Calls.quiet_of_same (HR.out _)))
 go_wp2
 go_ret
 exact ⟨by first | rfl | (congr 1) | skip,q3e (Below.refl _ _) nq⟩
set_option maxHeartbeats 1000000 in
theorem room_any {w:World} {J D:Nat} {j:Jt} (h:Jrd w J D j) (ok:j.Ok):Calls Tryz.prog 70 #[.pointer (some ⟨J,0,none⟩)] w fun e w'=>e=.returned (.int .u64 ((j.size-j.st.count:Nat):Int))/\∃n,w'=w.drewN n:=by
 have HN:Box (∀x,x=w->Calls Tryz.prog 33 #[.pointer (some ⟨J,0,none⟩)] x fun e w'=>e=.returned (.bool false)/\x=w'):=⟨fun x hx=>by rw [hx];exact q7p h ok.lo⟩
 have c1:=h.size
 have c2:=h.count
 have hlo:=ok.lo
 have hhi:=ok.hi
 have hcl:=ok.cl
 have hw1:IntKind.u64.wrap ((j.size:Int)-(j.st.count:Int))=((j.size-j.st.count:Nat):Int):=by rw [IntKind.wrap_u64];omega
 clear h ok
 go_enter Tryz.func70,Tryz.ntmps70
 go_upto_region 3 with (go_at_call 33;refine (HN.out _ rfl).mono ?_;rintro e x1 ⟨rfl,rfl⟩)
 go_quiet (fail)
 go_wp2
 go_ret
 exact ⟨rfl,nq,rfl⟩
end Go.Proofs.YtjejnlebpcjidaaGreatDoor
namespace Go.Proofs.YtjejnlebpcjidaaGreatDoor
open Go.RowKit Plain
attribute [local go_sem] Oper.semAt_some
def Any (w:World):Prop:=True
theorem put4 (x x':Int) (w:World) (hx:0<=x/\x<=4294967295) (he:x'=x):
  Calls Tryz.prog 63 #[.int .u64 x',.int .i64 4] w fun e w'=>∃g,e=.returned (.slice (some ⟨g,0,none⟩) 4 4)/\Bytes w' (some ⟨g,0,none⟩) 4 (bytesOf x 4)/\Below w.heap.size w w':=
 by subst he;exact (z5m x' 4 w hx.1 (by omega) (by omega) (by omega)).mono fun e w' ⟨g,he,ho⟩=>⟨g,he,ho.bytes (q1e _ 4),ho.2.2⟩
theorem pieces4 (g:Nat) (a1 a2 a3 a4:Option Addr) (l1 l2 l3 l4 c1 c2 c3 c4:Nat) (A B C E:List Int) (X:List Int) (w:World) (hT:Dig.Tabs w) (hg:w.heap[g]?=some (.cells #[.slice a1 l1 c1,.slice a2 l2 c2,.slice a3 l3 c3,.slice a4 l4 c4] 57 (0,0)))
  (hA:Bytes w a1 l1 A) (hB:Bytes w a2 l2 B) (hC:Bytes w a3 l3 C) (hE:Bytes w a4 l4 E) (k1:l1<=c1) (k2:l2<=c2) (k3:l3<=c3) (k4:l4<=c4) (m1:c1<=9223372036854775807) (m2:c2<=9223372036854775807) (m3:c3<=9223372036854775807) (m4:c4<=9223372036854775807) (hX:A++(B++(C++E))=X) (hl:X.length<=900000):
  Calls Tryz.prog 62 #[.slice (some ⟨g,0,none⟩) 4 4] w fun e w'=>e=.returned (.agg (u8s (dsha X)))/\Below w.heap.size w w':=by
 refine Dig.z3s [⟨a1,l1,c1,A⟩,⟨a2,l2,c2,B⟩,⟨a3,l3,c3,C⟩,⟨a4,l4,c4,E⟩] g 4 X 57 (0,0) w hT hg ?_ rfl (by omega) (by simp [Dig.joinTo,<-hX]) hl
 intro p hp
 simp only [List.mem_cons,List.not_mem_nil,or_false] at hp
 rcases hp with rfl | rfl | rfl | rfl
 ·exact ⟨hA,k1,m1⟩
 ·exact ⟨hB,k2,m2⟩
 ·exact ⟨hC,k3,m3⟩
 ·exact ⟨hE,k4,m4⟩
set_option maxHeartbeats 4000000 in
theorem z6n (tag:List Int) (p:Int) (a:Option Addr) (len cap:Nat) (L:List Int) (w:World) (hT:Dig.Tabs w) (ht:tag.length=32) (htb:Byt tag) (hp:0<=p/\p<=4294967295) (hb:Bytes w a len L) (hl:len<=800000) (hc:len<=cap) (hm:cap<=9223372036854775807):
  Calls Tryz.prog 29 #[.agg (u8s tag),.int .u32 p,.slice a len cap] w fun e w'=>e=.returned (.agg (u8s (lnk tag p L)))/\Below w.heap.size w w':=by
 unfold lnk
 obtain ⟨X,HX⟩:∃X,Box (dsha (lk tag p L)=X):=⟨_,⟨rfl⟩⟩
 have HXs:Box ((u8s X).size=32):=⟨by rw [<-HX.out,q0h,q2w]⟩
 obtain ⟨S,hS⟩:=nm w.heap.size
 have HQ:Box (Byt [255]):=⟨q4h _ _ (by omega) q5i⟩
 have HD:Box (lk tag p L=[255]++(tag++(bytesOf p 4++L))/\(lk tag p L).length<=900000):=⟨rfl,by rw [len_lk,hb.1,ht];omega⟩
 obtain ⟨AT,hAT⟩:=nm (u8s tag)
 obtain ⟨w1,hw1⟩:=nm ((w.alloc (.cells AT 23)).alloc (.cells (u8s z32) 23))
 have hb1:Below w.heap.size w w1:=by rw [<-hw1];exact ((Below.refl _ _).alloc (Nat.le_refl _) _).alloc (by simp) _
 have r0:w1.heap[S]?=some (.cells (u8s tag) 23 (0,0)):=by rw [<-hw1,hAT];exact q0i (q0g hS)
 have r1:w1.heap[S+1]?=some (.cells (u8s z32) 23 (0,0)):=by rw [<-hw1];exact q0g (by simp [hS])
 have hbt:Bytes w1 (some ⟨S,0,none⟩) 32 tag:=by have:=q1c htb r0;rwa [ht] at this
 have H1:Box (∀x,Below w1.heap.size w1 x->x.heap[S+1]?=some (.cells (u8s z32) 23 (0,0))/\Bytes x (some ⟨S,0,none⟩) 32 tag/\Dig.Tabs x/\Bytes x a len L/\Below w.heap.size w x):=⟨fun x hx=>⟨(hx.block _ (gE r1)).trans r1,hbt.below hx,hT.below (q0a hb1 hx),hb.below (q0a hb1 hx),q0a hb1 hx⟩⟩
 have H0:Box (len<=cap/\cap<=9223372036854775807):=⟨hc,hm⟩
 have HS:Box (w.heap.size=S/\w.heap.size<=S+1):=⟨hS,by omega⟩
 have HA:Box (u8s tag=AT):=⟨hAT⟩
 have hs2:(w.alloc (.cells AT 23)).heap.size=S+1:=by simp [hS]
 rw [hAT]
 clear hT ht htb hb hc hm r0 r1 hbt hb1 hAT
 generalize lk tag p L=M at HX HD
 have HPC:Box (∀(z:World) (q g:Nat),Below w1.heap.size w1 z->Bytes z (some ⟨q,0,none⟩) 1 [255]->Bytes z (some ⟨g,0,none⟩) 4 (bytesOf p 4)->Calls Tryz.prog 62 #[.slice (some ⟨z.heap.size,0,none⟩) 4 4] (z.alloc (.cells #[.slice (some ⟨q,0,none⟩) 1 1,.slice (some ⟨S,0,none⟩) 32 32,.slice (some ⟨g,0,none⟩) 4 4,.slice a len cap] 57)) fun e w'=>e=.returned (.agg (u8s X))/\Below z.heap.size z w'):=⟨fun z q g hz h1 h2=>by
  have ba:=(Below.refl z.heap.size z).alloc (Nat.le_refl _) (.cells #[.slice (some ⟨q,0,none⟩) 1 1,.slice (some ⟨S,0,none⟩) 32 32,.slice (some ⟨g,0,none⟩) 4 4,.slice a len cap] 57)
  obtain ⟨_,t2,t3,t4,_⟩:=H1.out _ (q0a hz ba)
  refine (pieces4 z.heap.size _ _ _ _ 1 32 4 len 1 32 4 cap [255] tag (bytesOf p 4) L M _ t3 (q0g rfl) (h1.below ba) t2 (h2.below ba) t4 (by omega) (by omega) (by omega) H0.out.1 (by omega) (by omega) (by omega) H0.out.2 HD.out.1.symm HD.out.2).mono fun e w' ⟨he,hb⟩=>⟨by rw [he,HX.out],q0a ba hb⟩⟩
 go_enter Tryz.func29,Tryz.ntmps29
 go_upto_region 1 with (refine q0b rfl _ _ (q0e 23 rfl _ zeroSum) ?_)
 (try rw [hs2])
 simp only [hw1]
 clear hs2 hw1 hS
 refine q1g (S:=Any) (by kernel_rfl) (fun wd hwd=>?_)
 have hbd:Below w1.heap.size w1 wd:=by rw [hwd];exact (Below.refl _ _).drew
 have hS:Any wd:=trivial
 clear hwd
 refine take_y (i:=1) rfl hS ?_
 try simp only [Act.put,pC,pD,pE,pF,pG,pH]
 refine take_y (i:=2) rfl hS ?_
 try simp only [Act.put,pC,pD,pE,pF,pG,pH]
 refine take_y (i:=3) rfl hS ?_
 try simp only [Act.put,pC,pD,pE,pF,pG,pH]
 refine take_y (i:=5) rfl hS ?_
 try simp only [Act.put,pC,pD,pE,pF,pG,pH]
 refine q2d (i:=0) (j:=4) (by kernel_rfl) ?_ ?_
 ·refine q0d rfl (by rfl) ?_
  go_simp
  obtain ⟨q,hq⟩:=nm wd.heap.size
  obtain ⟨v1,hv1⟩:=nm (wd.alloc (.cells #[.int .u8 255] 5))
  have hbq:Below wd.heap.size wd v1:=by rw [<-hv1];exact (Below.refl _ _).alloc (Nat.le_refl _) _
  have hBq:Bytes v1 (some ⟨q,0,none⟩) 1 [255]:=by rw [<-hv1];exact q1c (X:=[255]) (t:=5) (fr:=(0,0)) HQ.out (q0g hq)
  simp only [hq,hv1]
  refine ⟨trivial,?_⟩
  clear hv1 hq
  try simp only [Act.put,pC,pD,pE,pF,pG,pH]
  refine q0m (i:=4) (by kernel_rfl) ?_
  refine q0d rfl (by rfl) ?_
  go_simp
  refine Calls.mono (put4 p _ v1 hp (by first | rfl | (rw [IntKind.wrap_u64];omega))) ?_
  rintro e v2 ⟨g,rfl,hBg,hbg⟩
  refine ⟨trivial,?_⟩
  try simp only [Act.put,pC,pD,pE,pF,pG,pH]
  have HB:Box (Below w1.heap.size w1 v2/\Bytes v2 (some ⟨q,0,none⟩) 1 [255]/\Bytes v2 (some ⟨g,0,none⟩) 4 (bytesOf p 4)):=⟨q0a (q0a hbd hbq) hbg,hBq.below hbg,hBg⟩
  clear hbq hbg hBq hBg hbd
  refine q0m (i:=6) (by kernel_rfl) ?_
  refine q0d rfl (by rfl) ?_
  go_simp
  refine ⟨trivial,?_⟩
  try simp only [Act.put,pC,pD,pE,pF,pG,pH]
  refine q0m (i:=7) (by kernel_rfl) ?_
  refine q0d rfl (by rfl) ?_
  go_simp
  refine Calls.mono (HPC.out v2 q g HB.out.1 HB.out.2.1 HB.out.2.2) ?_
  rintro e v4 ⟨rfl,hb7⟩
  have H4:=H1.out v4 (q0a HB.out.1 hb7)
  refine ⟨trivial,?_⟩
  try simp only [Act.put,pC,pD,pE,pF,pG,pH]
  refine q0m (i:=8) (by kernel_rfl) ?_
  refine q0d rfl (by rfl) ?_
  refine wp_store_mid 23 (.tmp 6) (.tmp 14) rfl (S+1) 0 (u8s X) rfl rfl (q0z H4.1 (by rw [HXs.out,q0h];exact Nat.le_of_eq q1l.symm)) (by rw [HXs.out];exact infoSum) (q1r X) ?_
  obtain ⟨y,hy⟩:=nm (v4.setCells (S+1) 0 (u8s X).toList)
  rw [hy]
  have hry:y.heap[S+1]?=some (.cells (u8s X) 23 (0,0)):=by rw [<-hy,Disk.q1o (S+1) _ _ 0 _ _ H4.1 (by rw [Array.length_toList,HXs.out,q0h];exact Nat.le_of_eq q1l.symm),Disk.q3n _ _ (by rw [Array.length_toList,Array.length_toList,HXs.out,q0h];exact q1l)]
  have hby:Below w.heap.size w y:=q1i H4.2.2.2.2 (by rw [<-hy];exact q0t _ _ _ _ _ (But.refl _ _)) HS.out.2 H4.2.2.2.2.size
  refine ⟨trivial,?_⟩
  refine wpAnyH_done (by kernel_rfl) ?_ _
  clear H4 hy
  (try simp only [Exit.then])
  go_wp2
  refine bodyPost_ret (results_cell_row (p:=6) (ty:=23) rfl _ _ (S+1) 23 (u8s X) (0,0) _ rfl hry Tryz.underlying23 rfl (by rw [HXs.out];exact infoSum)) rfl ?_
  exact ⟨by rw [HX.out],hby⟩
 ·refine q0d rfl (by rfl) ?_
  go_simp
  refine Calls.mono (put4 p _ wd hp (by first | rfl | (rw [IntKind.wrap_u64];omega))) ?_
  rintro e v2 ⟨g,rfl,hBg,hbg⟩
  refine ⟨trivial,?_⟩
  try simp only [Act.put,pC,pD,pE,pF,pG,pH]
  refine q0m (i:=0) (by kernel_rfl) ?_
  refine q0d rfl (by rfl) ?_
  go_simp
  obtain ⟨q,hq⟩:=nm v2.heap.size
  obtain ⟨v1,hv1⟩:=nm (v2.alloc (.cells #[.int .u8 255] 5))
  have hbq:Below v2.heap.size v2 v1:=by rw [<-hv1];exact (Below.refl _ _).alloc (Nat.le_refl _) _
  have hBq:Bytes v1 (some ⟨q,0,none⟩) 1 [255]:=by rw [<-hv1];exact q1c (X:=[255]) (t:=5) (fr:=(0,0)) HQ.out (q0g hq)
  simp only [hq,hv1]
  refine ⟨trivial,?_⟩
  clear hv1 hq
  try simp only [Act.put,pC,pD,pE,pF,pG,pH]
  have HB:Box (Below w1.heap.size w1 v1/\Bytes v1 (some ⟨q,0,none⟩) 1 [255]/\Bytes v1 (some ⟨g,0,none⟩) 4 (bytesOf p 4)):=⟨q0a (q0a hbd hbg) hbq,hBq,hBg.below hbq⟩
  clear hbq hbg hBq hBg hbd
  refine q0m (i:=6) (by kernel_rfl) ?_
  refine q0d rfl (by rfl) ?_
  go_simp
  refine ⟨trivial,?_⟩
  try simp only [Act.put,pC,pD,pE,pF,pG,pH]
  refine q0m (i:=7) (by kernel_rfl) ?_
  refine q0d rfl (by rfl) ?_
  go_simp
  refine Calls.mono (HPC.out v1 q g HB.out.1 HB.out.2.1 HB.out.2.2) ?_
  rintro e v4 ⟨rfl,hb7⟩
  have H4:=H1.out v4 (q0a HB.out.1 hb7)
  refine ⟨trivial,?_⟩
  try simp only [Act.put,pC,pD,pE,pF,pG,pH]
  refine q0m (i:=8) (by kernel_rfl) ?_
  refine q0d rfl (by rfl) ?_
  refine wp_store_mid 23 (.tmp 6) (.tmp 14) rfl (S+1) 0 (u8s X) rfl rfl (q0z H4.1 (by rw [HXs.out,q0h];exact Nat.le_of_eq q1l.symm)) (by rw [HXs.out];exact infoSum) (q1r X) ?_
  obtain ⟨y,hy⟩:=nm (v4.setCells (S+1) 0 (u8s X).toList)
  rw [hy]
  have hry:y.heap[S+1]?=some (.cells (u8s X) 23 (0,0)):=by rw [<-hy,Disk.q1o (S+1) _ _ 0 _ _ H4.1 (by rw [Array.length_toList,HXs.out,q0h];exact Nat.le_of_eq q1l.symm),Disk.q3n _ _ (by rw [Array.length_toList,Array.length_toList,HXs.out,q0h];exact q1l)]
  have hby:Below w.heap.size w y:=q1i H4.2.2.2.2 (by rw [<-hy];exact q0t _ _ _ _ _ (But.refl _ _)) HS.out.2 H4.2.2.2.2.size
  refine ⟨trivial,?_⟩
  refine wpAnyH_done (by kernel_rfl) ?_ _
  clear H4 hy
  (try simp only [Exit.then])
  go_wp2
  refine bodyPost_ret (results_cell_row (p:=6) (ty:=23) rfl _ _ (S+1) 23 (u8s X) (0,0) _ rfl hry Tryz.underlying23 rfl (by rw [HXs.out];exact infoSum)) rfl ?_
  exact ⟨by rw [HX.out],hby⟩
end Go.Proofs.YtjejnlebpcjidaaGreatDoor
