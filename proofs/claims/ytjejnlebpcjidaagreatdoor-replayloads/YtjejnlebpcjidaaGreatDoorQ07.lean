/-
 A disk in memory, told plainly: its places, what is under way, its operations; and the worlds in which nothing but its own blocks has turned. Nothing of the program is said here but the types' numbers. And what follows it.
-/
import Derived.Test.YtjejnlebpcjidaaGreatDoorQ00
import Derived.Test.YtjejnlebpcjidaaGreatDoorRows
import Derived.WalkKit
import Derived.WalkSpells
import Derived.WalkLawsBesides
import Derived.RangeFuncNested
import Derived.RangeFuncBound
import Derived.RangeFuncCalls
import Derived.RangeFuncLeaves
import Derived.Shelf.Abstract
import Derived.Shelf.RegionOpen
import Derived.OwnWalkIn
import Derived.TacticsInMore
import Derived.LoopNIn
import Derived.LoopIn
import Derived.OrdersHeld
set_option linter.unusedVariables false
set_option maxRecDepth 100000
set_option maxRecDepth 100000
namespace Go.Proofs.YtjejnlebpcjidaaGreatDoor.Disk.Plain
end Go.Proofs.YtjejnlebpcjidaaGreatDoor.Disk.Plain
namespace Go.Proofs.YtjejnlebpcjidaaGreatDoor.Disk
open Go.RowKit Go.Proofs.YtjejnlebpcjidaaGreatDoor.Plain Go.Proofs.YtjejnlebpcjidaaGreatDoor.Disk.Plain
def z192:List Int:=List.replicate 192 0
theorem q0y:z192.length=192:=List.length_replicate
theorem z1g:Byt z192:=q2g 192
theorem z8h (n j:Nat):(List.replicate n (0:Int)).getD j 0=0:=by
 simp only [List.getD,List.getElem?_replicate]
 split<;>rfl
theorem getD_z192 (j:Nat):z192.getD j 0=0:=z8h 192 j
structure Dk where
 n:Nat
 pl:Nat->List Int
 uw:List (Nat × List Int)
 ops:List (Int × Int)
 down:Bool
 st:Bool
 left:Int
def wc (x:Nat × List Int):List Value:=.int .i64 (x.1:Int)::x.2.map (Value.int .u8)
def wcs (L:List (Nat × List Int)):List Value:=(L.map wc).flatten
def oc (x:Int × Int):List Value:=[.int .i64 x.1,.int .i64 x.2]
def ocs (L:List (Int × Int)):List Value:=(L.map oc).flatten
theorem z6t (L:List (Nat × List Int)) (x:Nat × List Int):wcs (L++[x])=wcs L++wc x:=by simp [wcs]
theorem z6f (L:List (Int × Int)) (x:Int × Int):ocs (L++[x])=ocs L++oc x:=by simp [ocs]
theorem q1d (x:Nat × List Int) (h:x.2.length=192):(wc x).length=193:=by simp [wc,h]
theorem q6q (x:Nat × List Int):∀u∈wc x,u.oneCell'=true:=by
 intro u hu
 simp only [wc,List.mem_cons,List.mem_map] at hu
 rcases hu with rfl | ⟨z,_,rfl⟩<;>rfl
theorem one_oc (x:Int × Int):∀u∈oc x,u.oneCell'=true:=by
 intro u hu
 simp only [oc,List.mem_cons,List.not_mem_nil,or_false] at hu
 rcases hu with rfl | rfl<;>rfl
theorem q6h (L:List (List Value)) (sz:Nat) (hL:∀x∈L,x.length=sz) (k:Nat) (hk:k<L.length) (j:Nat) (hj:j<sz):L.flatten[sz*k+j]?=(L[k])[j]?:=by
 induction L generalizing k with
 | nil=>simp at hk
 | cons x L ih=>
  have hx:x.length=sz:=hL x (by simp)
  cases k with
  | zero=>simp [List.getElem?_append,hx,hj]
  | succ k=>
   have h1:sz*(k+1)+j-x.length=sz*k+j:=by rw [hx,Nat.mul_succ];omega
   rw [List.flatten_cons,List.getElem?_append_right (by rw [hx,Nat.mul_succ];omega),h1,ih (fun y hy=>hL y (by simp [hy])) k (by simpa using hk)]
   simp
theorem q6i (L:List (List Value)) (sz:Nat) (hL:∀x∈L,x.length=sz):L.flatten.length=L.length*sz:=by
 induction L with
 | nil=>simp
 | cons x L ih=>simp [hL x (by simp),ih (fun y hy=>hL y (by simp [hy])),Nat.succ_mul];omega
def Good (n:Nat) (L:List (Nat × List Int)):Prop:=∀x∈L,x.1<n/\x.2.length=192/\Byt x.2
theorem Good.snoc {n:Nat} {L:List (Nat × List Int)} (h:Good n L) (x:Nat × List Int) (hx:x.1<n/\x.2.length=192/\Byt x.2):Good n (L++[x]):=by
 intro y hy
 rcases List.mem_append.1 hy with hy | hy
 ·exact h y hy
 ·simp at hy;subst hy;exact hx
theorem Good.all {n:Nat} {L:List (Nat × List Int)} (h:Good n L):∀x∈L.map wc,x.length=193:=by
 intro x hx
 obtain ⟨y,hy,rfl⟩:=List.mem_map.1 hx
 exact q1d y (h y hy).2.1
def foot (D P:Nat) (uv ov:Value) (k:Nat):Prop:=k=D∨k=P∨uv.ownBlock=some k∨ov.ownBlock=some k
def Pls (cs:Array Value) (n:Nat) (pl:Nat->List Int):Prop:=cs.size=192*n/\∀i,i<n->∀j,j<192->cs[192*i+j]?=some (.int .u8 ((pl i).getD j 0))
structure At (w:World) (D P:Nat) (uv ov:Value) (d:Dk):Prop where
 hd:w.heap[D]?=some (.cells #[.slice (some ⟨P,0,none⟩) d.n d.n,uv,ov,.bool d.down,.bool d.st,.int .i64 d.left] 85 (0,0))
 hp:∃cs,w.heap[P]?=some (.cells cs 114 (0,0))/\Pls cs d.n d.pl
 hpl:∀i,(d.pl i).length=192/\Byt (d.pl i)
 hn:1<=d.n/\d.n<=4096
 hu:w.ownsRow 0 118 193 uv d.uw.length (wcs d.uw)
 huw:Good d.n d.uw
 ho:w.ownsRow 0 161 2 ov d.ops.length (ocs d.ops)
 neP:D≠P
 neU:uv.ownBlock≠some D/\uv.ownBlock≠some P
 neO:ov.ownBlock≠some D/\ov.ownBlock≠some P
 neUO:uv.ownBlock=none∨uv.ownBlock≠ov.ownBlock
structure Turned (fp:Nat->Prop) (w w':World):Prop where
 os:w'.os=w.os
 tape:w'.tape=w.tape
 output:w'.output=w.output
 size:w.heap.size<=w'.heap.size
 block:∀k,k<w.heap.size->¬fp k->w'.heap[k]?=w.heap[k]?
def Is (w:World) (D:Nat) (fp:Nat->Prop) (d:Dk):Prop:=∃P uv ov,At w D P uv ov d/\∀k,foot D P uv ov k->fp k
def Nx (D:Nat) (fp:Nat->Prop) (w w':World) (d':Dk):Prop:=∃fp',Is w' D fp' d'/\Turned fp w w'/\∀k,fp' k->fp k∨w.heap.size<=k
theorem Turned.refl (fp:Nat->Prop) (w:World):Turned fp w w:=⟨rfl,rfl,rfl,Nat.le_refl _,fun _ _ _=>rfl⟩
theorem Turned.trans {fp fp':Nat->Prop} {a b c:World} (h:Turned fp a b) (k:Turned fp' b c) (hs:∀k,fp' k->fp k∨a.heap.size<=k):Turned fp a c:=
 ⟨k.os.trans h.os,k.tape.trans h.tape,k.output.trans h.output,Nat.le_trans h.size k.size,fun i hi hn=>
  (k.block i (Nat.lt_of_lt_of_le hi h.size) (fun hf=>(hs i hf).elim hn (fun hle=>by omega))).trans (h.block i hi hn)⟩
theorem Turned.of_below {fp:Nat->Prop} {w w':World} (h:Below w.heap.size w w'):Turned fp w w':=⟨h.os,h.tape,h.output,h.size,fun k hk _=>h.block k hk⟩
theorem Turned.below {fp:Nat->Prop} {w w':World} {B:Nat} (h:Turned fp w w') (hB:B<=w.heap.size) (hf:∀k,fp k->B<=k):Below B w w':=
 ⟨h.os,h.tape,h.output,h.size,fun k hk=>h.block k (by omega) (fun hfk=>by have:=hf k hfk;omega)⟩
theorem q0j {w w':World} {base n:Nat} {e:TypeId} {sz:Nat} {v:Value} {xs:List Value} (h:w.ownsRow base e sz v n xs) (hs:∀k,v.ownBlock=some k->w'.heap[k]?=w.heap[k]?):w'.ownsRow base e sz v n xs:=by
 refine ⟨h.1,?_⟩
 rcases h.2 with hn | ⟨g,cap,cur,rfl,hb,hgg,rest⟩
 ·exact .inl hn
 ·exact .inr ⟨g,cap,cur,rfl,hb,by rw [hs g rfl];exact hgg,rest⟩
theorem At.lt {w:World} {D P:Nat} {uv ov:Value} {d:Dk} (h:At w D P uv ov d):∀k,foot D P uv ov k->k<w.heap.size:=by
 rintro k (rfl | rfl | hk | hk)
 ·exact (gE h.hd)
 ·obtain ⟨cs,h1,_⟩:=h.hp
  exact (gE h1)
 ·exact (h.hu.lt k hk).2
 ·exact (h.ho.lt k hk).2
theorem At.same {w w':World} {D P:Nat} {uv ov:Value} {d:Dk} (h:At w D P uv ov d) (hs:∀k,foot D P uv ov k->w'.heap[k]?=w.heap[k]?):At w' D P uv ov d:=by
 obtain ⟨cs,h1,h2⟩:=h.hp
 exact ⟨by rw [hs D (.inl rfl)];exact h.hd,⟨cs,by rw [hs P (.inr (.inl rfl))];exact h1,h2⟩,h.hpl,h.hn,q0j h.hu (fun k hk=>hs k (.inr (.inr (.inl hk)))),h.huw,q0j h.ho (fun k hk=>hs k (.inr (.inr (.inr hk)))),h.neP,h.neU,h.neO,h.neUO⟩
theorem At.below {w w':World} {D P:Nat} {uv ov:Value} {d:Dk} (h:At w D P uv ov d) (hb:Below w.heap.size w w'):At w' D P uv ov d:=h.same (fun k hk=>hb.block k (h.lt k hk))
theorem Is.below {w w':World} {D:Nat} {fp:Nat->Prop} {d:Dk} (h:Is w D fp d) (hb:Below w.heap.size w w'):Is w' D fp d:=by
 obtain ⟨P,uv,ov,h1,h2⟩:=h
 exact ⟨P,uv,ov,h1.below hb,h2⟩
theorem Is.same {w w':World} {D:Nat} {fp:Nat->Prop} {d:Dk} (h:Is w D fp d) (hs:∀k,fp k->k<w.heap.size->w'.heap[k]?=w.heap[k]?):Is w' D fp d:=by
 obtain ⟨P,uv,ov,h1,h2⟩:=h
 exact ⟨P,uv,ov,h1.same (fun k hk=>hs k (h2 k hk) (h1.lt k hk)),h2⟩
theorem Is.cut {w:World} {D:Nat} {fp:Nat->Prop} {d:Dk} (h:Is w D fp d):Is w D (fun k=>fp k/\k<w.heap.size) d:=by
 obtain ⟨P,uv,ov,h1,h2⟩:=h
 exact ⟨P,uv,ov,h1,fun k hk=>⟨h2 k hk,h1.lt k hk⟩⟩
theorem q0b {ops:Array Oper} {rest:List Oper} {o:Oper} {a:Act} {w:World} {Q:Exit->Act->World->Prop} (hg:o.guard=none) (v:Value) (w':World) (hr:(execOp a.eval o).run Tryz.prog w=.ok (.value v) w') (h:wpList Tryz.prog ops Q rest (a.put o.dst v) w'):wpList Tryz.prog ops Q (o::rest) a w:=
 wpList_plain hg fun _ hK=>by unfold Oper.wp;rw [hr];exact hK _ _ h
theorem q0e {o:Oper} {ρ:Operand->Value} {w:World} (t:TypeId) (ho:o.op=.alloc t) (Z:Array Value) (hz:(Tryz.prog.info? t).map (·.zero)=some (some (.agg Z))):
  (execOp ρ o).run Tryz.prog w=.ok (.value (.pointer (some ⟨w.heap.size,0,none⟩))) (w.alloc (.cells Z t)):=by
 cases hq:Tryz.prog.info? t with
 | none=>simp [hq] at hz
 | some i=>
  have hs:i.zero=some (.agg Z):=by simpa [hq] using hz
  unfold execOp
  simp [ho,Instr.alloc,zeroValue,typeInfo,hq,hs,newVar,newRow,Value.cells,Sem.run_bind]
theorem zero79:(Tryz.prog.info? 114).map (·.zero)=some (some (.agg (u8s (z192)))):=by kernel_rfl
theorem zero84:(Tryz.prog.info? 118).map (·.zero)=some (some (.agg (wc (0,z192)).toArray)):=by kernel_rfl
theorem info79:(Tryz.prog.info? 114).map (·.size)=some 192:=by kernel_rfl
theorem info84:(Tryz.prog.info? 118).map (·.size)=some 193:=by kernel_rfl
theorem z1j {P:Program} (w:World) (t ty e:TypeId) (i:TypeInfo) (z:Value) (size bytes:Nat) (ht:P.underlying t=some (.slice e)) (hi:P.info? e=some i) (hz:i.zero=some z)
  (hsize:i.size=size) (hby:i.bytes=bytes) (hzs:z.cells.size=size) (hsz:0<size) (v:Value) (n:Nat) (xs:List Value) (hown:w.ownsRow 0 e size v n xs)
  (a:Addr) (m c:Nat) (news:List Value) (hl:news.length=m*size) (hnews:∀j u,news[j]?=some u->w.cell? (a.add j)=some u) (h1:∀u∈news,u.oneCell'=true)
  (h63:n+m<=maxLen) (hbytes:(n+m)*bytes<=140737488355328):
  ∃v' w',(Builtin.append_ #[t,t] ty #[v,.slice (some a) m c]).run P w=.ok v' w'/\w'.ownsRow 0 e size v' (n+m) (xs++news)/\w.grownBy w' v.ownBlock/\∀k,v'.ownBlock=some k->v.ownBlock=some k∨w.heap.size<=k:=by
 obtain ⟨v',w',hr,h2,h3,h4⟩:=run_append_own (P:=P) w 0 t ty e i z size bytes ht hi hz hsize hby hzs hsz v n xs hown a m c news hl hnews h1 h63 hbytes (Nat.zero_le _)
 refine ⟨v',w',hr,h2,h3,?_⟩
 rcases hown.2 with ⟨rfl,rfl⟩ | ⟨g,cap,cur,rfl,hbg,hg,hnc,hcm,hcs,htake⟩
 ·have hx:xs=[]:=List.eq_nil_of_length_eq_zero (by simpa using hown.1)
  subst hx
  obtain ⟨v2,w2,hr2,h22,_⟩:=run_append_own (P:=P) w w.heap.size t ty e i z size bytes ht hi hz hsize hby hzs hsz _ 0 [] (World.ownsRow_nil w w.heap.size e size) a m c news hl hnews h1 h63 hbytes (Nat.le_refl _)
  rw [hr] at hr2
  simp only [Result.ok.injEq] at hr2
  obtain ⟨rfl,rfl⟩:=hr2
  exact fun k hk=>.inr (h22.lt k hk).1
 ·subst hsize
  subst hby
  by_cases hroom:n+m<=cap
  ·have hfit:n*i.size+news.length<=cur.size:=by rw [hl,hcs,<-Nat.add_mul];exact Nat.mul_le_mul_right _ hroom
   have hr2:=run_append_room (P:=P) w t ty e i ht hi g n cap cur hg a m c news hl hnews h1 hroom hfit
   rw [hr] at hr2
   simp only [Result.ok.injEq] at hr2
   obtain ⟨rfl,rfl⟩:=hr2
   exact fun k hk=>.inl hk
  ·have hsmall:n+m<=9223372036854775807:=by simp only [maxLen] at h63;omega
   have holds:∀j u,xs[j]?=some u->w.cell? ((⟨g,0,none⟩:Addr).add j)=some u:=hown.cells (g:=g) rfl
   have hr2:=run_append_grow (P:=P) w t ty e i z ht hi hz ⟨g,0,none⟩ n cap xs hown.1 holds a m c news hl hnews (by omega) (by omega) (growslice_fits (by omega) hbytes)
   rw [hr] at hr2
   simp only [Result.ok.injEq] at hr2
   obtain ⟨rfl,rfl⟩:=hr2
   exact fun k hk=>.inr (by simp [Value.ownBlock] at hk;omega)
theorem z2l {P:Program} {o:Oper} {act:Act} {w:World} {K:Act->World->Prop} {Q:Exit->Act->World->Prop} (s x:Operand) (t:TypeId) (ho:o.op=.call {callee:=.builtin .append,args:=#[s,x],argTypes:=#[t,t]})
  (e:TypeId) (size bytes:Nat) (z:Value) (ht:P.underlying t=some (.slice e)) (hi:(P.info? e).map (fun i=>(i.zero,i.size,i.bytes))=some (some z,size,bytes)) (hzs:z.cells.size=size) (hsz:0<size) (v:Value) (n:Nat) (xs:List Value) (hs:act.eval s=v) (hown:w.ownsRow 0 e size v n xs)
  (a:Addr) (m c:Nat) (news:List Value) (hx:act.eval x=.slice (some a) m c) (hl:news.length=m*size) (hnews:∀j u,news[j]?=some u->w.cell? (a.add j)=some u) (h1:∀u∈news,u.oneCell'=true)
  (hbytes:(n+m)*bytes<=140737488355328) (hb:0<bytes)
  (h:∀v' w',w'.ownsRow 0 e size v' (n+m) (xs++news)->w.grownBy w' v.ownBlock->(∀k,v'.ownBlock=some k->v.ownBlock=some k∨w.heap.size<=k)->K (act.put o.dst v') w'):o.wp P act w K Q:=by
 obtain ⟨i,hi,hz,hsize,hby⟩:=info_parts hi
 have h63:n+m<=maxLen:=by
  have:(n+m)*1<=(n+m)*bytes:=Nat.mul_le_mul_left _ hb
  unfold maxLen
  omega
 obtain ⟨v',w',hr,h2,h3,h4⟩:=z1j (P:=P) w t o.type e i z size bytes ht hi hz hsize hby hzs hsz v n xs hown a m c news hl hnews h1 h63 hbytes
 unfold Oper.wp execOp
 simp only [ho,resolve,invoke,builtin,Sem.run_bind,Sem.run_pure,Result.andThen_ok,List.map_toArray,List.map_cons,List.map_nil,hs,hx,hr]
 exact h v' w' h2 h3 h4
theorem q4w {P:Program} {ops:Array Oper} {rest:List Oper} {o:Oper} {act:Act} {w:World} {Q:Exit->Act->World->Prop} (hgd:o.guard=none) (s x:Operand) (t:TypeId) (ho:o.op=.call {callee:=.builtin .append,args:=#[s,x],argTypes:=#[t,t]})
  (e:TypeId) (size bytes:Nat) (z:Value) (ht:P.underlying t=some (.slice e)) (hi:(P.info? e).map (fun i=>(i.zero,i.size,i.bytes))=some (some z,size,bytes)) (hzs:z.cells.size=size) (hsz:0<size) (v:Value) (n:Nat) (xs:List Value) (hs:act.eval s=v) (hown:w.ownsRow 0 e size v n xs)
  (a:Addr) (m c:Nat) (news:List Value) (hx:act.eval x=.slice (some a) m c) (hl:news.length=m*size) (hnews:∀j u,news[j]?=some u->w.cell? (a.add j)=some u) (h1:∀u∈news,u.oneCell'=true)
  (hbytes:(n+m)*bytes<=140737488355328) (hb:0<bytes)
  (h:∀v' w',w'.ownsRow 0 e size v' (n+m) (xs++news)->w.grownBy w' v.ownBlock->(∀k,v'.ownBlock=some k->v.ownBlock=some k∨w.heap.size<=k)->wpList P ops Q rest (act.put o.dst v') w'):wpList P ops Q (o::rest) act w:=
 wpList_plain hgd fun _ hK=>z2l s x t ho e size bytes z ht hi hzs hsz v n xs hs hown a m c news hx hl hnews h1 hbytes hb fun v' w' h2 h3 h4=>hK _ _ (h v' w' h2 h3 h4)
end Go.Proofs.YtjejnlebpcjidaaGreatDoor.Disk
namespace Go.Proofs.YtjejnlebpcjidaaGreatDoor.Disk.Plain
end Go.Proofs.YtjejnlebpcjidaaGreatDoor.Disk.Plain
namespace Go.Proofs.YtjejnlebpcjidaaGreatDoor.Disk
open Go.RowKit Go.Proofs.YtjejnlebpcjidaaGreatDoor.Plain Go.Proofs.YtjejnlebpcjidaaGreatDoor.Disk.Plain
theorem At.cells {w:World} {D P:Nat} {uv ov:Value} {d:Dk} (h:At w D P uv ov d):
  w.cell? ⟨D,0,none⟩=some (.slice (some ⟨P,0,none⟩) d.n d.n)/\w.cell? ⟨D,1,none⟩=some uv/\w.cell? ⟨D,2,none⟩=some ov /\
   w.cell? ⟨D,3,none⟩=some (.bool d.down)/\w.cell? ⟨D,4,none⟩=some (.bool d.st)/\w.cell? ⟨D,5,none⟩=some (.int .i64 d.left)/\∀k,w.frozen? ⟨D,k,none⟩=false:=by
 refine ⟨?_,?_,?_,?_,?_,?_,fun k=>frozen_of_row w D k _ _ h.hd⟩<;>(rw [cell_of_row _ _ _ _ _ _ h.hd];rfl)
theorem At.put {w w':World} {D P:Nat} {uv ov:Value} {d:Dk} (h:At w D P uv ov d) (b s:Bool) (l:Int) (hs:∀k,k≠D->w'.heap[k]?=w.heap[k]?)
  (hd:w'.heap[D]?=some (.cells #[.slice (some ⟨P,0,none⟩) d.n d.n,uv,ov,.bool b,.bool s,.int .i64 l] 85 (0,0))):At w' D P uv ov {d with down:=b,st:=s,left:=l}:=by
 obtain ⟨cs,h1,h2⟩:=h.hp
 exact ⟨hd,⟨cs,by rw [hs P (Ne.symm h.neP)];exact h1,h2⟩,h.hpl,h.hn,q0j h.hu (fun k hk=>hs k (fun e=>h.neU.1 (by rw [hk,e]))),h.huw,q0j h.ho (fun k hk=>hs k (fun e=>h.neO.1 (by rw [hk,e]))),h.neP,h.neU,h.neO,h.neUO⟩
theorem q2h {fp:Nat->Prop} {w0 w:World} {D k:Nat} (h:Turned fp w0 w) (hf:fp D) (v:Value):Turned fp w0 (w.setCell ⟨D,k,none⟩ v):=
 ⟨h.os,h.tape,h.output,by simpa using h.size,fun j hj hn=>by
  rw [heap_setCell_other w ⟨D,k,none⟩ j _ (fun e=>hn (by have e':D=j:=e.symm;rw [<-e'];exact hf))]
  exact h.block j hj hn⟩
theorem q7t {x:Value} {k D:Nat} (h:x.ownBlock≠some D) (hk:x.ownBlock=some k):k≠D:=fun e=>h (by rw [hk,e])
theorem At.noted {w w1 w2:World} {D P:Nat} {uv ov v':Value} {d:Dk} (h:At w D P uv ov d) (x:Int × Int) (hb:Below w.heap.size w w1) (ho:w2.ownsRow 0 161 2 v' (d.ops.length+1) (ocs d.ops++oc x)) (hg:w1.grownBy w2 ov.ownBlock)
  (hv:∀k,v'.ownBlock=some k->ov.ownBlock=some k∨w1.heap.size<=k) (hh:w2.heap[D]?=w.heap[D]?):
  At (w2.setCell ⟨D,2,none⟩ v') D P uv v' {d with ops:=d.ops++[x]}/\Turned (foot D P uv ov) w (w2.setCell ⟨D,2,none⟩ v')/\∀k,foot D P uv v' k->foot D P uv ov k∨w.heap.size<=k:=by
 obtain ⟨cs,h1,h2⟩:=h.hp
 have hlt:=h.lt
 have hle:=hb.size
 have hv':∀k,v'.ownBlock=some k->ov.ownBlock=some k∨w.heap.size<=k:=fun k hk=>(hv k hk).imp id (fun h=>by omega)
 have same:∀k,k<w.heap.size->k≠D->ov.ownBlock≠some k->(w2.setCell ⟨D,2,none⟩ v').heap[k]?=w.heap[k]?:=fun k hk hne hno=>by
  rw [heap_setCell_other w2 ⟨D,2,none⟩ k _ hne,hg.block k (by omega) (Ne.symm hno),hb.block k hk]
 have hD:(w2.setCell ⟨D,2,none⟩ v').heap[D]?=_:=heap_setCell_same w2 D 2 _ _ v' (hh.trans h.hd)
 have nD:v'.ownBlock≠some D:=fun e=>(hv' D e).elim h.neO.1 (fun hl=>by have:=hlt D (.inl rfl);omega)
 have nP:v'.ownBlock≠some P:=fun e=>(hv' P e).elim h.neO.2 (fun hl=>by have:=hlt P (.inr (.inl rfl));omega)
 refine ⟨⟨hD,⟨cs,?_,h2⟩,h.hpl,h.hn,q0j h.hu (fun k hk=>?_),h.huw,?_,h.neP,h.neU,⟨nD,nP⟩,?_⟩,⟨?_,?_,?_,?_,fun k hk hn=>?_⟩,?_⟩
 ·rw [same P (hlt P (.inr (.inl rfl))) (Ne.symm h.neP) h.neO.2];exact h1
 ·refine same k (hlt k (.inr (.inr (.inl hk)))) (q7t h.neU.1 hk) (fun e=>?_)
  rcases h.neUO with hn | hn
  ·rw [hn] at hk;cases hk
  ·exact hn (by rw [hk,e])
 ·rw [z6f,List.length_append,List.length_singleton]
  exact q0j ho (fun k hk=>heap_setCell_other w2 ⟨D,2,none⟩ k _ (q7t nD hk))
 ·cases hu:uv.ownBlock with
  | none=>exact .inl rfl
  | some u=>
   refine .inr (fun e=>?_)
   rcases hv' u e.symm with h5 | h5
   ·rcases h.neUO with hn | hn
    ·rw [hn] at hu;cases hu
    ·exact hn (by rw [hu,h5])
   ·have:=hlt u (.inr (.inr (.inl hu)));omega
 ·exact hg.os.trans hb.os
 ·exact hg.tape.trans hb.tape
 ·exact hg.output.trans hb.output
 ·have:=hg.size;simp;omega
 ·exact same k hk (fun e=>hn (.inl e)) (fun e=>hn (.inr (.inr (.inr e))))
 ·rintro k (rfl | rfl | hk | hk)
  ·exact .inl (.inl rfl)
  ·exact .inl (.inr (.inl rfl))
  ·exact .inl (.inr (.inr (.inl hk)))
  ·exact (hv' k hk).imp (fun h=>.inr (.inr (.inr h))) id
def rdy (d:Dk):Int:=if d.down then 13 else 0
theorem q4n (w:World) (D P:Nat) (uv ov:Value) (d:Dk) (h:At w D P uv ov d):
  Calls Tryz.prog 43 #[.pointer (some ⟨D,0,none⟩)] w fun e w'=>e=.returned (.int .i64 (rdy d))/\w=w':=by
 obtain ⟨-,-,-,c3,-,-,-⟩:=h.cells
 have E:Box (rdy d=if d.down then 13 else 0):=⟨rfl⟩
 clear h
 go_enter Tryz.func43,Tryz.ntmps43
 go_wp2
 ·rename_i hb
  go_ret
  exact ⟨by rw [E.out,hb];rfl,rfl⟩
 ·rename_i hb
  go_ret
  exact ⟨by rw [E.out,hb];rfl,rfl⟩
def hsp (d:Dk) (i:Int):Bool:=decide (0<=i/\i<(d.n:Int))
set_option maxHeartbeats 1000000 in
theorem z3x (w:World) (D P:Nat) (uv ov:Value) (d:Dk) (h:At w D P uv ov d) (i:Int):
  Calls Tryz.prog 44 #[.pointer (some ⟨D,0,none⟩),.int .i64 i] w fun e w'=>e=.returned (.bool (hsp d i))/\w=w':=by
 obtain ⟨c0,-,-,-,-,-,-⟩:=h.cells
 have E:Box (hsp d i=decide (0<=i/\i<(d.n:Int))):=⟨rfl⟩
 clear h
 go_enter Tryz.func44,Tryz.ntmps44
 by_cases h0:0<=i
 ·go_wp2
  go_ret
  exact ⟨by rw [E.out];simp [h0],rfl⟩
 ·have h0':decide (0<=i)=false:=by simpa using h0
  go_wp2
  go_ret
  exact ⟨by rw [E.out];symm;simp;omega,rfl⟩
def fit (d:Dk) (i:Int) (len:Nat):Int:=if hsp d i then (if len=192 then 0 else 1) else 12
set_option maxHeartbeats 1000000 in
theorem z0d (w:World) (D P:Nat) (uv ov:Value) (d:Dk) (h:At w D P uv ov d) (i:Int) (a:Option Addr) (len cap:Nat):
  Calls Tryz.prog 47 #[.pointer (some ⟨D,0,none⟩),.int .i64 i,.slice a len cap] w fun e w'=>e=.returned (.int .i64 (fit d i len))/\w=w':=by
 have E:Box (fit d i len=if hsp d i then (if len=192 then 0 else 1) else 12):=⟨rfl⟩
 have H:=z3x w D P uv ov d h i
 generalize hsp d i=b at H E
 have HB:Box (Calls Tryz.prog 44 #[.pointer (some ⟨D,0,none⟩),.int .i64 i] w fun e w'=>e=.returned (.bool b)/\w=w'):=⟨H⟩
 clear h H
 go_enter Tryz.func47,Tryz.ntmps47
 cases b
 ·go_wp2_with (go_at_call 44;refine HB.out.mono ?_;rintro e w' ⟨rfl,rfl⟩)
  go_ret
  exact ⟨by rw [E.out];rfl,rfl⟩
 ·by_cases hl:len=192
  ·subst hl
   go_wp2_with (go_at_call 44;refine HB.out.mono ?_;rintro e w' ⟨rfl,rfl⟩)
   go_ret
   exact ⟨by rw [E.out];rfl,rfl⟩
  ·have hl':((len:Int)==192)=false:=by simp;omega
   go_wp2_with (go_at_call 44;refine HB.out.mono ?_;rintro e w' ⟨rfl,rfl⟩)
   go_ret
   exact ⟨by rw [E.out];simp [hl],rfl⟩
theorem size_any (w:World) (D P:Nat) (uv ov:Value) (d:Dk) (h:At w D P uv ov d):
  Calls Tryz.prog 31 #[.pointer (some ⟨D,0,none⟩)] w fun e w'=>e=.returned (.int .i64 (d.n:Int))/\w=w':=by
 obtain ⟨c0,-,-,-,-,-,-⟩:=h.cells
 clear h
 go_enter Tryz.func31,Tryz.ntmps31
 go_wp2
 go_ret
 exact ⟨rfl,rfl⟩
theorem q0l {w:World} {base n:Nat} {e:TypeId} {sz:Nat} {v:Value} {xs:List Value} (h:w.ownsRow base e sz v n xs):∃a cap,v=.slice a n cap:=by
 rcases h.2 with ⟨rfl,rfl⟩ | ⟨g,cap,cur,rfl,_⟩
 ·exact ⟨_,_,rfl⟩
 ·exact ⟨_,_,rfl⟩
theorem info75:(Tryz.prog.info? 161).map (fun i=>(i.zero,i.size,i.bytes))=some (some (.agg (oc (0,0)).toArray),2,16):=by kernel_rfl
theorem q3d (w:World) (cs:List Value) (e:TypeId):∀j u,cs[j]?=some u->(w.alloc (.cells cs.toArray e)).cell? ((⟨w.heap.size,0,none⟩:Addr).add j)=some u:=by
 intro j u hj
 rw [Addr.add_lit,Nat.zero_add,cell_of_row _ _ _ _ _ _ (q0g rfl)]
 simpa using hj
theorem At.after {w w2:World} {D P:Nat} {uv ov:Value} {d:Dk} (h:At w D P uv ov d) (o:Obj) (row:Option Nat) (hr:row≠some D) (hg:(w.alloc o).grownBy w2 row):w2.heap[D]?=w.heap[D]?:=by
 have hl:=h.lt D (.inl rfl)
 rw [hg.block D (by simp;omega) (Ne.symm hr),Below.heap_alloc w o D hl]
set_option maxHeartbeats 1000000 in
theorem q8m (w:World) (D P:Nat) (uv ov:Value) (d:Dk) (h:At w D P uv ov d) (k i:Int) (hl:d.ops.length<1000000000):
  Calls Tryz.prog 45 #[.pointer (some ⟨D,0,none⟩),.int .i64 k,.int .i64 i] w fun e w'=>
   e=.returned (.tuple #[])/\∃ov',At w' D P uv ov' {d with ops:=d.ops++[(k,i)]}/\Turned (foot D P uv ov) w w'/\∀k,foot D P uv ov' k->foot D P uv ov k∨w.heap.size<=k:=by
 obtain ⟨-,-,c2,-,-,-,fz⟩:=h.cells
 have f2:=fz 2
 have HA:Box (At w D P uv ov d):=⟨h⟩
 have HL:Box ((d.ops.length+1)*16<=140737488355328):=⟨by omega⟩
 clear h fz hl
 go_enter Tryz.func45,Tryz.ntmps45
 go_wp2_with (at_builtin;refine q4w rfl _ _ 83 rfl 161 2 16 (.agg (oc (0,0)).toArray) Tryz.underlying83 info75 rfl (by decide) ov d.ops.length (ocs d.ops) rfl (HA.out.ho.alloc _) ⟨w.heap.size,0,none⟩ 1 1 (oc (k,i)) rfl rfl (q3d w (oc (k,i)) _) (one_oc _) HL.out (by decide) ?_;intro v' w2 hown hgr hblk;obtain ⟨a',cap',rfl⟩:=q0l hown;have HD:=HA.out.after _ _ HA.out.neO.1 hgr;have c2':w2.cell? ⟨D,2,none⟩=some ov:=(World.cell?_of_block HD).trans c2;have f2':w2.frozen? ⟨D,2,none⟩=false:=(World.frozen?_of_block HD).trans f2;have HN:Box _:=⟨HA.out.noted (k,i) ((Below.refl _ w).alloc (Nat.le_refl _) _) hown hgr hblk HD⟩;clear hown hgr hblk HD)
 go_end0
 exact ⟨rfl,_,HN.out⟩
theorem At.nx_put {w w':World} {D P:Nat} {uv ov:Value} {d:Dk} {fp:Nat->Prop} (h:At w D P uv ov d) (h2:∀k,foot D P uv ov k->fp k) (b s:Bool) (l:Int) (t:Turned fp w w') (hs:∀k,k≠D->w'.heap[k]?=w.heap[k]?)
  (hd:w'.heap[D]?=some (.cells #[.slice (some ⟨P,0,none⟩) d.n d.n,uv,ov,.bool b,.bool s,.int .i64 l] 85 (0,0))):Nx D fp w w' {d with down:=b,st:=s,left:=l}:=
 ⟨fp,⟨P,uv,ov,h.put b s l hs hd,h2⟩,t,fun _ hk=>.inl hk⟩
theorem At.set45 {w:World} {D P:Nat} {uv ov:Value} {d:Dk} {fp:Nat->Prop} (h:At w D P uv ov d) (h2:∀k,foot D P uv ov k->fp k) (s:Bool) (l:Int):Nx D fp w ((w.setCell ⟨D,4,none⟩ (.bool s)).setCell ⟨D,5,none⟩ (.int .i64 l)) {d with st:=s,left:=l}:=
 h.nx_put h2 d.down s l (q2h (q2h (Turned.refl _ _) (h2 D (.inl rfl)) _) (h2 D (.inl rfl)) _) (fun k hk=>by rw [heap_setCell_other _ ⟨D,5,none⟩ k _ hk,heap_setCell_other _ ⟨D,4,none⟩ k _ hk])
  (heap_setCell_same _ D 5 _ _ _ (heap_setCell_same w D 4 _ _ _ h.hd))
theorem At.set3 {w:World} {D P:Nat} {uv ov:Value} {d:Dk} {fp:Nat->Prop} (h:At w D P uv ov d) (h2:∀k,foot D P uv ov k->fp k) (b:Bool):Nx D fp w (w.setCell ⟨D,3,none⟩ (.bool b)) {d with down:=b}:=
 h.nx_put h2 b d.st d.left (q2h (Turned.refl _ _) (h2 D (.inl rfl)) _) (fun k hk=>by rw [heap_setCell_other _ ⟨D,3,none⟩ k _ hk]) (heap_setCell_same w D 3 _ _ _ h.hd)
theorem foot_head {D P:Nat} {uv ov:Value}:foot D P uv ov D:=.inl rfl
set_option maxHeartbeats 1000000 in
theorem stop_any (w:World) (D:Nat) (fp:Nat->Prop) (d:Dk) (h:Is w D fp d) (i:Int):
  Calls Tryz.prog 20 #[.pointer (some ⟨D,0,none⟩),.int .i64 i] w fun e w'=>e=.returned (.tuple #[])/\Nx D fp w w' {d with st:=decide (0<=i),left:=max i 0}:=by
 obtain ⟨P,uv,ov,h1,h2⟩:=h
 obtain ⟨-,-,-,-,c4,c5,fz⟩:=h1.cells
 have f4:=fz 4
 have f5:=fz 5
 have HA:Box (At w D P uv ov d):=⟨h1⟩
 have HF:Box (fp D):=⟨h2 D foot_head⟩
 have H2:Box (∀k,foot D P uv ov k->fp k):=⟨h2⟩
 clear h1 h2 fz
 go_enter Tryz.func20,Tryz.ntmps20
 go_wp2
 ·go_end0
  rw [show max i 0=0 by omega]
  exact ⟨rfl,HA.out.set45 H2.out _ _⟩
 ·go_end0
  rw [show max i 0=i by omega]
  exact ⟨rfl,HA.out.set45 H2.out _ _⟩
end Go.Proofs.YtjejnlebpcjidaaGreatDoor.Disk
namespace Go.Proofs.YtjejnlebpcjidaaGreatDoor.Disk.Plain
end Go.Proofs.YtjejnlebpcjidaaGreatDoor.Disk.Plain
namespace Go.Proofs.YtjejnlebpcjidaaGreatDoor.Disk
open Go.RowKit Go.Proofs.YtjejnlebpcjidaaGreatDoor.Plain Go.Proofs.YtjejnlebpcjidaaGreatDoor.Disk.Plain
theorem q3u {P:Program} {o:Oper} {ρ:Operand->Value} {w:World} (t e:TypeId) (l c:Operand) (ho:o.op=.makeSlice t l c) (z:Value) (size bytes:Nat) (ht:P.underlying t=some (.slice e)) (hi:(P.info? e).map (fun i=>(i.zero,i.size,i.bytes))=some (some z,size,bytes))
  (n:Nat) (hl:ρ l=.int .i64 (n:Int)) (hc:ρ c=.int .i64 (n:Int)) (hb:bytes*n<=281474976710656) (h63:n<=9223372036854775807):
  (execOp ρ o).run P w=.ok (.value (.slice (some ⟨w.heap.size,0,none⟩) n n)) (w.alloc (.cells (madeCells z.cells (n*size)) e)):=by
 obtain ⟨i,hi1,hz,rfl,rfl⟩:=info_parts hi
 have hb':(i.bytes:Int)*(n:Int)<=281474976710656:=by
  have h:((i.bytes*n:Nat):Int)<=281474976710656:=by omega
  rwa [Int.natCast_mul] at h
 have hr:=run_make (P:=P) w t e i z ht hi1 hz .i64 .i64 n n (by omega) (Int.le_refl _) hb' (by omega)
 unfold execOp
 simp only [ho,hl,hc,hr,Sem.run_bind,Sem.run_pure,Result.andThen_ok,Int.toNat_natCast]
theorem made_at (z:Array Value) (n i:Nat) (v:Value) (hi:i<n) (hz:0<z.size) (h:∀j,j<z.size->z[j]?=some v):(madeCells z n)[i]?=some v:=by
 have h1:i%z.size<z.size:=Nat.mod_lt _ hz
 have h2:=h _ h1
 rw [Array.getElem?_eq_getElem h1] at h2
 simp only [Option.some.injEq] at h2
 simp [madeCells,hi,h1,h2]
theorem q8v (z:Array Value) (n:Nat):(madeCells z n).size=n:=by simp [madeCells]
theorem zero_at (n j:Nat) (h:j<n):(u8s (List.replicate n 0))[j]?=some (.int .u8 0):=by simp [u8s,h]
theorem made_pls (n:Nat):Pls (madeCells (u8s (z192)) (n*192)) n (fun _=>z192):=by
 refine ⟨by rw [q8v,Nat.mul_comm],fun i hi j hj=>?_⟩
 have e:z192.getD j 0=0:=getD_z192 j
 rw [e]
 refine made_at _ _ _ _ ?_ (by rw [q0h,q0y];omega) (fun j hj=>zero_at 192 j (by rw [q0h,q0y] at hj;exact hj))
 have:192*i+192<=192*n:=by rw [<-Nat.mul_succ];exact Nat.mul_le_mul_left _ hi
 omega
theorem one_zero:∀j,j<(#[.int .u8 0]:Array Value).size->(#[.int .u8 0]:Array Value)[j]?=some (.int .u8 0):=by
 intro j hj
 have:j=0:=by simp at hj;omega
 subst this
 rfl
theorem q9x (n:Nat):madeCells #[.int .u8 0] n=u8s (List.replicate n 0):=by
 apply Array.ext
 ·rw [q8v,q0h,List.length_replicate]
 ·intro i h1 h2
  have hi:i<n:=by rw [q8v] at h1;exact h1
  have a1:=made_at #[.int .u8 0] n i (.int .u8 0) hi (by decide) (one_zero)
  have a2:=zero_at n i hi
  rw [Array.getElem?_eq_getElem h1] at a1
  rw [Array.getElem?_eq_getElem h2] at a2
  simp only [Option.some.injEq] at a1 a2
  rw [a1,a2]
theorem info79b:(Tryz.prog.info? 114).map (fun i=>(i.zero,i.size,i.bytes))=some (some (.agg (u8s (z192))),192,192):=by kernel_rfl
def dk0 (n:Nat):Dk:=⟨n,fun _=>z192,[],[],false,false,0⟩
theorem at_new (w:World) (n:Nat) (hn:1<=n/\n<=4096):
  At ((w.alloc (.cells (madeCells (u8s (z192)) (n*192)) 114)).alloc (.cells #[.slice (some ⟨w.heap.size,0,none⟩) n n,.slice none 0 0,.slice none 0 0,.bool false,.bool false,.int .i64 0] 85)) (w.heap.size+1) w.heap.size (.slice none 0 0) (.slice none 0 0) (dk0 n):=
 ⟨q0g (by simp),⟨_,q0i (q0g rfl),made_pls n⟩,fun _=>⟨q0y,z1g⟩,hn,World.ownsRow_nil _ _ _ _,fun x hx=>by simp [dk0] at hx,World.ownsRow_nil _ _ _ _,by omega,by simp [Value.ownBlock],by simp [Value.ownBlock],.inl rfl⟩
theorem made_foot (s:Nat) (k:Nat) (h:foot (s+1) s (.slice none 0 0) (.slice none 0 0) k):s<=k:=by
 rcases h with rfl | rfl | h | h
 ·omega
 ·omega
 ·simp [Value.ownBlock] at h
 ·simp [Value.ownBlock] at h
set_option maxHeartbeats 1000000 in
theorem new_any (w:World) (n:Nat) (hn:1<=n/\n<=4096):Calls Tryz.prog 6 #[.int .i64 (n:Int)] w fun e w'=>e=.returned (.tuple #[.pointer (some ⟨w.heap.size+1,0,none⟩),.int .i64 0])/\Is w' (w.heap.size+1) (fun k=>w.heap.size<=k) (dk0 n)/\Below w.heap.size w w':=by
 have H:Box _:=⟨at_new w n hn⟩
 have HX:Box (192*n<=281474976710656/\n<=9223372036854775807):=⟨by omega,by omega⟩
 have h1:decide ((n:Int)<1)=false:=by simp;omega
 have h2:decide (4096<(n:Int))=false:=by simp;omega
 clear hn
 go_enter Tryz.func6,Tryz.ntmps6
 go_wp2_with (refine q0b rfl _ _ (q3u 81 114 _ _ rfl (.agg (u8s (z192))) 192 192 Tryz.underlying81 info79b n rfl rfl HX.out.1 HX.out.2) ?_)
 go_ret2
 exact ⟨rfl,⟨_,_,_,H.out,made_foot _⟩,((Below.refl _ w).alloc (Nat.le_refl _) _).alloc (by simp) _⟩
end Go.Proofs.YtjejnlebpcjidaaGreatDoor.Disk
namespace Go.Proofs.YtjejnlebpcjidaaGreatDoor.Disk.Plain
end Go.Proofs.YtjejnlebpcjidaaGreatDoor.Disk.Plain
namespace Go.Proofs.YtjejnlebpcjidaaGreatDoor.Disk
open Go.RowKit Go.Shelf Go.Proofs.YtjejnlebpcjidaaGreatDoor.Plain Go.Proofs.YtjejnlebpcjidaaGreatDoor.Disk.Plain
attribute [local go_sem] Oper.semAt_some
structure Wr where
 k:Nat
 p:Nat
 b:List Int
 hb:b.length=192
def Wr.enc (x:Wr):Array Value:=#[.int .i64 (x.k:Int),.agg (wc (x.p,x.b)).toArray]
def Lens (L:List (Nat × List Int)):Prop:=∀x∈L,x.2.length=192
def itm (L:List (Nat × List Int)) (hL:Lens L) (k:Nat):Wr:=if h:k<L.length then ⟨k,L[k].1,L[k].2,hL _ (List.getElem_mem h)⟩ else ⟨0,0,z192,q0y⟩
def came (L:List (Nat × List Int)) (hL:Lens L) (j:Nat):List Wr:=(List.range j).map (fun t=>itm L hL (L.length-1-t))
theorem z2c (L:List (Nat × List Int)) (hL:Lens L) (j:Nat):came L hL (j+1)=came L hL j++[itm L hL (L.length-1-j)]:=by simp [came,List.range_succ]
theorem z4t (L:List (Nat × List Int)) (hL:Lens L) (j:Nat):(came L hL j).length=j:=by simp [came]
def Ways (n₀:Nat) (W:World) (a:Option Addr) (L:List (Nat × List Int)):Prop:=0<L.length->∃b,a=some ⟨b,0,none⟩/\b<n₀/\∀k (h:k<L.length),W.rangeAt b (k*193) (wc L[k])
theorem Ways.below {n₀:Nat} {A B:World} {a:Option Addr} {L:List (Nat × List Int)} (h:Ways n₀ A a L) (hb:Below n₀ A B):Ways n₀ B a L:=fun h0=>by
 obtain ⟨b,e,h1,h2⟩:=h h0
 exact ⟨b,e,h1,fun k hk j v hv=>(hb.cell (p:=⟨b,k*193+j,none⟩) h1).trans (h2 k hk j v hv)⟩
theorem q6e {F:Fence} {n:Nat} {P:Program} {ops:Array Oper} {rest:List Oper} {op:Oper} {a:Act} {w:World} {Q:Exit->Act->World->Prop} (hgd:op.guard=none) (ty:TypeId) (x:Operand) (ho:op.op=.load ty x)
  (b o:Nat) (hx:a.eval x=.pointer (some ⟨b,o,none⟩)) (cs:List Value) (d:TypeDesc) (hc:w.rangeAt b o cs)
  (hu:P.underlying ty=some d) (hd:d.isRow=true) (hi:(P.info? ty).map (·.size)=some cs.length)
  (h:wpListIn F n P ops Q rest (a.put op.dst (.agg cs.toArray)) w):wpListIn F n P ops Q (op::rest) a w:=by
 refine wpListIn_plain hgd fun K hK'=>?_
 unfold Oper.wpIn
 refine ⟨?_,?_⟩
 ·simp [Oper.about,ho]
 ·rw [Oper.semAt_plain F _ _ (by rw [ho];intro c hc';cases hc')]
  unfold execOp
  simp only [ho,hx,Instr.loadAt,Instr.sureAddr,Sem.run_bind,Sem.run_pure,Result.andThen_ok,run_loadVar_mid w b o ty cs d hc hu hd hi]
  exact hK' _ _ h
set_option maxRecDepth 100000 in
set_option maxHeartbeats 2000000 in
theorem back1_in (F:Fence) (n:Nat) (h7:F.fn 100) (hro:F.round=none) (hn:1<=n) (l Bs n₀ cap:Nat) (a:Option Addr) (L:List (Nat × List Int)) (hL:Lens L) (hreach:L.length<1000000000) (J Jx:List Wr->World->Prop)
  (hY:∀pre x W,J pre W->pre.length<L.length->YieldAt F (n-1) Tryz.prog l (Wr.enc x) W fun e W'=>
   (e=.returned (.bool true)/\J (pre++[x]) W'/\Below n₀ W W')∨(e=.returned (.bool false)/\Jx (pre++[x]) W'))
  (W:World) (hlt:Bs<n₀) (hBs:W.cell? ⟨Bs,0,none⟩=some (.slice a L.length cap)) (hc:Ways n₀ W a L) (h0:J [] W):
  CallsIn F n Tryz.prog 100 #[.func (.yield l) #[] #[],.pointer (some ⟨Bs,0,none⟩)] W fun e W'=>(∃v,e=.returned v) /\
   ((∃ys,ys=came L hL L.length/\J ys W')∨(∃pre,(∃k,k<=L.length/\pre=came L hL k)/\Jx pre W')):=by
 refine callsIn_of_wp Tryz.func100 rfl h7 ?_ hro
 simp only [Tryz.ntmps100,List.size_toArray,List.length_cons,List.length_nil,Nat.reduceAdd,Nat.reduceSub,Array.replicate_succ,Array.replicate_zero,List.push_toArray,List.append_toArray,List.nil_append,List.cons_append]
 have hw1:IntKind.i64.wrap ((L.length:Int)-1)=(L.length:Int)-1:=by rw [IntKind.wrap_i64];omega
 gi_wp2
 gi_loopw [3] (fun i wr=>∃k:Nat,k<=L.length/\i=.int .i64 ((L.length:Int)-1-k)/\J (came L hL k) wr/\Below n₀ W wr)
  (fun i _=>(intOf i+1).toNat)
 case atStart=>exact ⟨0,Nat.zero_le _,by simp,h0,Below.refl _ _⟩
 case round=>
  obtain ⟨k,hk,rfl,hJs,hnx⟩:=hrel
  have hBs':wr.cell? ⟨Bs,0,none⟩=some (.slice a L.length cap):=(hnx.cell (p:=⟨Bs,0,none⟩) hlt).trans hBs
  by_cases hlt2:k<L.length
  ·obtain ⟨b,rfl,hb,hr⟩:=hc.below hnx (by omega)
   obtain ⟨fn,tmps,assign,body,hy,hR⟩:=hY _ (itm L hL (L.length-1-k)) wr hJs (by rw [z4t];exact hlt2)
   have hq:L.length-1-k<L.length:=by omega
   have hr':=hr _ hq
   have he:itm L hL (L.length-1-k)=⟨L.length-1-k,L[L.length-1-k].1,L[L.length-1-k].2,hL _ (List.getElem_mem hq)⟩:=by simp [itm,hq]
   rw [he] at hy
   simp only [Wr.enc] at hy
   have hlen:(wc L[L.length-1-k]).length=193:=q1d _ (hL _ (List.getElem_mem hq))
   rw [show ((L.length:Int)-1-k)=((L.length-1-k:Nat):Int) by omega]
   have hK:L.length-1-k=L.length-(k+1):=by omega
   have HR:Box (∀e W',(e=Ending.returned (.bool true)/\J (came L hL k++[itm L hL (L.length-1-k)]) W'/\Below n₀ wr W'∨e=Ending.returned (.bool false)/\Jx (came L hL k++[itm L hL (L.length-1-k)]) W')->(e=Ending.returned (.bool true)/\J (came L hL (k+1)) W'/\Below n₀ W W')∨(e=Ending.returned (.bool false)/\Jx (came L hL (k+1)) W')):=⟨fun e W' h=>by
    rw [z2c]
    exact h.imp (fun h=>⟨h.1,h.2.1,hnx.trans h.2.2⟩) id⟩
   have hqe:Box (L.length-1-k+k+1=L.length):=⟨by omega⟩
   have hr2:Box (wr.rangeAt b ((L.length-1-k)*193) (wc L[L.length-1-k])):=⟨hr'⟩
   have hy2:(Instr.yield l #[Value.int .i64 ((L.length-1-k:Nat):Int),.agg (wc L[L.length-1-k]).toArray]).run Tryz.prog wr=.ok (.round l fn tmps assign body) wr:=hy
   have hi:(Tryz.prog.info? 118).map (·.size)=some (wc L[L.length-1-k]).length:=by rw [hlen];exact info84
   have hR2:=hR.mono HR.out
   have hw2:IntKind.i64.wrap (((L.length-1-k:Nat):Int)-1)=((L.length-1-k:Nat):Int)-1:=by rw [IntKind.wrap_i64];omega
   clear hr hr' hc hY hy hR HR he hlen hnx hJs hBs h0 hlt2 hK
   generalize L[L.length-1-k]=x at hy2 hr2 hi
   generalize L.length-1-k=q at *
   gi_wp2_with (refine q6e rfl 118 _ rfl b (q*193) rfl (wc x) _ hr2.out Tryz.underlying118 rfl hi ?_)
   refine hR2.mono ?_
   rintro e W3 (⟨rfl,hJ3,hk3⟩ | ⟨rfl,hJx3⟩)
   ·gi_wp2
    go_roundw
    case rel=>exact ⟨k+1,by have:=hqe.out;omega,by have:=hqe.out;congr 1;omega,hJ3,hk3⟩
    case measure=>simp [intOf]
   ·gi_wp2
    refine bodyPost_ret (results_none rfl _ _ _) rfl ?_
    exact ⟨⟨_,rfl⟩,.inr ⟨_,⟨k+1,by have:=hqe.out;omega,rfl⟩,hJx3⟩⟩
  ·obtain rfl:k=L.length:=by omega
   have hneg:decide (0<=(L.length:Int)-1-L.length)=false:=by simp;omega
   gi_wp2
   go_end0
   exact ⟨⟨_,rfl⟩,.inl ⟨_,rfl,hJs⟩⟩
end Go.Proofs.YtjejnlebpcjidaaGreatDoor.Disk
namespace Go.Proofs.YtjejnlebpcjidaaGreatDoor.Disk.Plain
end Go.Proofs.YtjejnlebpcjidaaGreatDoor.Disk.Plain
namespace Go.Proofs.YtjejnlebpcjidaaGreatDoor.Disk
open Go.RowKit Go.Proofs.YtjejnlebpcjidaaGreatDoor.Plain Go.Proofs.YtjejnlebpcjidaaGreatDoor.Disk.Plain
theorem z3y {α:Type} (L r:List α) (v:α) (o:Nat) (h:o<L.length):splice (L.set o v) (o+1) r=splice L o (v::r):=by
 unfold splice
 have e1:(L.set o v).take (o+1)=L.take o++[v]:=by
  rw [List.take_add_one,List.take_set_of_le (Nat.le_refl _)]
  simp [h]
 have e2:(L.set o v).drop (o+1+r.length)=L.drop (o+(v::r).length):=by
  rw [List.drop_set_of_lt (by omega)]
  simp only [List.length_cons]
  congr 1
  omega
 rw [e1,e2]
 simp
theorem q1o (b:Nat) (t:TypeId):∀(vs:List Value) (o:Nat) (w:World) (cs:Array Value),w.heap[b]?=some (.cells cs t (0,0))->o+vs.length<=cs.size->(w.setCells b o vs).heap[b]?=some (.cells (splice cs.toList o vs).toArray t (0,0))
 | [],o,w,cs,hg,hf=>by
  rw [q7h]
  simpa [World.setCells] using hg
 | v::r,o,w,cs,hg,hf=>by
  rw [World.setCells]
  have h1:=heap_setCell_same w b o cs t v hg
  have hl:o<cs.size:=by simp only [List.length_cons] at hf;omega
  rw [q1o b t r (o+1) _ _ h1 (by simp only [List.length_cons] at hf;simp;omega)]
  rw [Array.toList_setIfInBounds,z3y _ _ _ _ (by simpa using hl)]
theorem q4f (b k:Nat) (hk:k≠b):∀(vs:List Value) (o:Nat) (w:World),(w.setCells b o vs).heap[k]?=w.heap[k]?
 | [],o,w=>rfl
 | v::r,o,w=>by
  rw [World.setCells,q4f b k hk r (o+1),heap_setCell_other w ⟨b,o,none⟩ k _ hk]
theorem q0t (b:Nat):∀(vs:List Value) (o:Nat) (w0 w:World),But b w0 w->But b w0 (w.setCells b o vs)
 | [],o,w0,w,h=>h
 | v::r,o,w0,w,h=>by
  rw [World.setCells]
  exact q0t b r (o+1) w0 _ (h.setCell o v)
theorem q0z {w:World} {g o n:Nat} {cs:Array Value} {t:TypeId} (hg:w.heap[g]?=some (.cells cs t (0,0))) (h:o+n<=cs.size):w.there g o n:=by
 intro j hj
 refine ⟨?_,frozen_of_row w g _ cs t hg⟩
 rw [cell_of_row _ _ _ _ _ _ hg]
 have:o+j<cs.size:=by omega
 simp [this]
theorem q3n {α:Type} (L vs:List α) (h:L.length=vs.length):splice L 0 vs=vs:=by simp [splice,h]
theorem q2y {G:Nat} {w w':World} (h:But G w w') {a:Addr} {v:Value} (hc:w.cell? a=some v) (hn:a.block≠G):w'.cell? a=some v:=
 (World.cell?_of_block (h.block a.block (World.block_lt_of_cell? w a hc) hn)).trans hc
theorem q3c {G:Nat} {w w':World} (h:But G w w') {b o:Nat} {cs:List Value} (hc:w.rangeAt b o cs) (hn:b≠G):w'.rangeAt b o cs:=fun j v hv=>q2y h (hc j v hv) hn
theorem q0w {P:Program} {o:Oper} {ρ:Operand->Value} {w':World} (t:TypeId) (d:TypeDesc) (x:Operand) (ho:o.op=.load t x) (hu:P.underlying t=some d) (hd:d.isRow=false) (ad:Addr) (hx:ρ x=.pointer (some ad)) (v:Value) (hc:w'.cell? ad=some v):
  (execOp ρ o).run P w'=.ok (.value v) w':=by
 have hagg:(isAgg t).run P w'=.ok false w':=by
  unfold isAgg
  rw [Sem.run_bind,run_underlying hu w']
  cases d<;>simp_all
 unfold execOp
 simp [ho,hx,Instr.loadAt,Instr.sureAddr,loadVar,Sem.run_bind,hagg,load,Sem.run,hc]
theorem q0k {P:Program} {o:Oper} {ρ:Operand->Value} {w':World} (t:TypeId) (d:TypeDesc) (x:Operand) (ho:o.op=.load t x) (hu:P.underlying t=some d) (hd:d.isRow=true) (b off:Nat) (hx:ρ x=.pointer (some ⟨b,off,none⟩)) (cs:List Value) (hi:(P.info? t).map (·.size)=some cs.length) (hc:w'.rangeAt b off cs):
  (execOp ρ o).run P w'=.ok (.value (.agg cs.toArray)) w':=by
 unfold execOp
 simp only [ho,hx,Instr.loadAt,Instr.sureAddr,Sem.run_bind,Sem.run_pure,Result.andThen_ok,run_loadVar_mid w' b off t cs d hc hu hd hi]
section
variable {P:Program} {md:Region.Mode} {ops:Array Oper} {Q:Exit->Act->World->Prop}
theorem z3h (R:Nat) {id:Nat} {a:Act} {w:World} (hm:P.follows .mixedOrders=true) (h:∀wd,wd=w.drew->wpAnyH P .any ops Q (But R wd) ops.size (Array.replicate ops.size false) a wd):(Code.region id ops true).wp P Q a w:=
 wp_region_held (S:=But R w.drew) hm (h _ rfl)
theorem q2e {R:Nat} {i:Nat} {oi:Oper} {v:Value} {fuel:Nat} {listed:Array Bool} {a:Act} {w:World} (hi:ops[i]?=some oi)
  (hs:Region.noSelect ops=true) (hf:Region.free md ops listed i=true) (hr:(Region.ready md ops listed).contains i=true)
  (hQ:∀c a w,Q (.panic c) (a.put oi.dst v) w->Q (.panic c) a w) (hw:Region.wanted oi (yielded ops a.tmps)=true)
  (hv:∀w',But R w w'->(execOp a.eval oi).run P w'=.ok (.value v) w')
  (h:wpAnyH P md ops Q (But R w) fuel (listed.setIfInBounds i true) (a.put oi.dst v) w):wpAnyH P md ops Q (But R w) (fuel+1) listed a w:=
 wpAnyH_take hi hs hf hr hQ (Or.inl ⟨hw,hv⟩) (But.refl _ _) h
theorem z6q {R:Nat} {i:Nat} {o:Oper} {fuel:Nat} {listed:Array Bool} {a:Act} {w:World} (ho:ops[i]?=some o) (hr:Region.ready md ops listed=[i]) (hw:Region.wanted o (yielded ops a.tmps)=true) (hd:Region.ready md ops (listed.setIfInBounds i true)=[])
  (t:TypeId) (x y:Operand) (hop:o.op=.store t x y) (off:Nat) (cells:Array Value) (hx:a.eval x=.pointer (some ⟨R,off,none⟩)) (hy:a.eval y=.agg cells) (ht:w.there R off cells.size) (hi:(P.info? t).map (·.size)=some cells.size) (h1:cells.all (·.oneCell')=true)
  (h:Q .normal (a.put o.dst undef) (w.setCells R off cells.toList)):wpAnyH P md ops Q (But R w) (fuel+1) listed a w:=by
 refine wpAnyH_all hr (by simp) (fun j hj=>?_)
 simp only [List.mem_cons,List.not_mem_nil,or_false] at hj
 subst hj
 unfold wpOp
 simp only [ho,hw,if_true]
 exact .inl (wp_store_mid t x y hop R off cells hx hy ht hi h1 ⟨q0t _ _ _ _ _ (But.refl _ _),wpAnyH_done hd h _⟩)
end
end Go.Proofs.YtjejnlebpcjidaaGreatDoor.Disk
