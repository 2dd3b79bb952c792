/-
 A map from numbers to images, in memory: what it holds, what is put, and a range over it, in whatever order. And what follows it.
-/
import Derived.MapKept
import Derived.Maps.RangeWalk
import Derived.Test.YtjejnlebpcjidaaGreatDoorQ21
import Derived.Shelf.SlSortCmp.WholeK
import Derived.Shelf.SlGeneric
import Derived.Shelf.Lay
import Derived.Ground.SlsfProg
import Derived.Test.YtjejnlebpcjidaaGreatDoorQ33
set_option linter.unusedVariables false
set_option maxRecDepth 100000
set_option maxRecDepth 100000
namespace Go.Proofs.YtjejnlebpcjidaaGreatDoor
open Go.RowKit Go.MapKept Plain
open Go.ChangeMaps (setBlock)
def mput {α:Type}:List (Int × α)->Int->α->List (Int × α)
 | [],i,v=>[(i,v)]
 | p::m,i,v=>if p.1=i then (i,v)::m else p::mput m i v
theorem mput_no {α:Type} (i:Int) (v:α):∀m:List (Int × α),(∀p∈m,p.1≠i)->mput m i v=m++[(i,v)]
 | [],_=>rfl
 | p::m,h=>by
  rw [mput,if_neg (h p (by simp)),mput_no i v m (fun q hq=>h q (by simp [hq]))]
  rfl
theorem z5p {α:Type} (i:Int) (u v:α) (B:List (Int × α)):∀A:List (Int × α),(∀p∈A,p.1≠i)->mput (A++(i,u)::B) i v=A++(i,v)::B
 | [],_=>by simp [mput]
 | p::A,h=>by
  rw [List.cons_append,mput,if_neg (h p (by simp)),z5p i u v B A (fun q hq=>h q (by simp [hq]))]
  rfl
theorem z1t {α:Type} (i:Int) (v:α):∀m:List (Int × α),∀k,k∈(mput m i v).map Prod.fst ↔ k=i∨k∈m.map Prod.fst
 | [],k=>by simp [mput]
 | p::m,k=>by
  by_cases h:p.1=i
  ·rw [mput,if_pos h]
   simp [h]
  ·rw [mput,if_neg h]
   have:=z1t i v m k
   simp only [List.map_cons,List.mem_cons,this]
   constructor
   ·rintro (h | h | h)
    ·exact .inr (.inl h)
    ·exact .inl h
    ·exact .inr (.inr h)
   ·rintro (h | h | h)
    ·exact .inr (.inl h)
    ·exact .inl h
    ·exact .inr (.inr h)
theorem q4l {α:Type} (i:Int) (v:α):∀m:List (Int × α),(m.map Prod.fst).Nodup->((mput m i v).map Prod.fst).Nodup
 | [],_=>by simp [mput]
 | p::m,h=>by
  have h':=List.nodup_cons.1 h
  by_cases e:p.1=i
  ·rw [mput,if_pos e]
   simp only [List.map_cons]
   rw [<-e]
   exact h
  ·rw [mput,if_neg e,List.map_cons]
   refine List.nodup_cons.2 ⟨fun hk=>?_,q4l i v m h'.2⟩
   rcases (z1t i v m p.1).1 hk with h1 | h1
   ·exact e h1
   ·exact h'.1 h1
theorem q6a {α:Type} (i:Int) (v:α):∀m:List (Int × α),(m.map Prod.fst).Nodup->∀q,q∈mput m i v ↔ q=(i,v)∨(q.1≠i/\q∈m)
 | [],_,q=>by simp [mput]
 | p::m,h,q=>by
  have h':=List.nodup_cons.1 h
  by_cases e:p.1=i
  ·rw [mput,if_pos e]
   simp only [List.mem_cons]
   constructor
   ·rintro (h1 | h1)
    ·exact .inl h1
    ·refine .inr ⟨fun e2=>h'.1 ?_,.inr h1⟩
     rw [e,<-e2]
     exact List.mem_map_of_mem h1
   ·rintro (h1 | ⟨h1,h2 | h2⟩)
    ·exact .inl h1
    ·exact absurd (by rw [h2];exact e) h1
    ·exact .inr h2
  ·rw [mput,if_neg e]
   simp only [List.mem_cons,q6a i v m h'.2 q]
   constructor
   ·rintro (h1 | h1 | h1)
    ·exact .inr ⟨by rw [h1];exact e,.inl h1⟩
    ·exact .inl h1
    ·exact .inr ⟨h1.1,.inr h1.2⟩
   ·rintro (h1 | ⟨h1,h2 | h2⟩)
    ·exact .inr (.inl h1)
    ·exact .inl h2
    ·exact .inr (.inr ⟨h1,h2⟩)
theorem z5w {α:Type} (i:Int) (v:α):∀m:List (Int × α),(mput m i v).length<=m.length+1
 | []=>by simp [mput]
 | p::m=>by
  rw [mput]
  split
  ·simp
  ·have:=z5w i v m
   simp only [List.length_cons]
   omega
def kv (p:Int × Im):Value × Value:=(.int .u64 p.1,.agg (imc p.2).toArray)
structure Mm (es:Array MapEntry) (clock:Nat) (m:List (Int × Im)):Prop where
 kv:es.toList.map (fun e=>(e.key,e.val))=m.map kv
 nd:(m.map Prod.fst).Nodup
 bn:(es.toList.map (·.born)).Nodup
 bc:∀x∈es.toList,x.born<clock
def Mp (w:World) (b:Nat) (m:List (Int × Im)):Prop:=∃es clock,w.heap[b]?=some (.map es clock)/\Mm es clock m
theorem Mp.lt {w:World} {b:Nat} {m:List (Int × Im)} (h:Mp w b m):b<w.heap.size:=by
 obtain ⟨es,c,h1,_⟩:=h
 exact (gE h1)
theorem Mp.same {w w':World} {b:Nat} {m:List (Int × Im)} (h:Mp w b m) (hs:w'.heap[b]?=w.heap[b]?):Mp w' b m:=by
 obtain ⟨es,c,h1,h2⟩:=h
 exact ⟨es,c,hs.trans h1,h2⟩
theorem mp_new (w:World):Mp (w.alloc (.map #[] 0)) w.heap.size []:=⟨#[],0,(heap_alloc w _).1,⟨rfl,by simp,by simp,fun x hx=>by simp at hx⟩⟩
theorem mm_find (i:Int):∀(l:List MapEntry) (m:List (Int × Im)) (k:Nat),l.map (fun e=>(e.key,e.val))=m.map kv->
  (Instr.findNow (.int .u64) (.int .u64 i) l k=some none/\∀p∈m,p.1≠i) ∨
  ∃A v B,m=A++(i,v)::B/\(∀p∈A,p.1≠i)/\Instr.findNow (.int .u64) (.int .u64 i) l k=some (some (k+A.length,.agg (imc v).toArray))
 | [],[],k,_=>.inl ⟨rfl,fun p hp=>by cases hp⟩
 | [],p::m,k,h=>by simp at h
 | e::l,[],k,h=>by simp at h
 | e::l,p::m,k,h=>by
  simp only [List.map_cons,List.cons.injEq,Go.Proofs.YtjejnlebpcjidaaGreatDoor.kv,Prod.mk.injEq] at h
  obtain ⟨⟨h1,h2⟩,h3⟩:=h
  by_cases hp:p.1=i
  ·refine .inr ⟨[],p.2,m,by rw [<-hp];rfl,⟨(fun q hq=>absurd hq List.not_mem_nil),?_⟩⟩
   simp [Instr.findNow,Instr.sameNow,h1,hp,h2]
  ·have hn:Instr.findNow (.int .u64) (.int .u64 i) (e::l) k=Instr.findNow (.int .u64) (.int .u64 i) l (k+1):=by
    have hb:(i==p.1)=false:=by simpa using (fun e=>hp e.symm:¬i=p.1)
    simp [Instr.findNow,Instr.sameNow,h1,hb]
   rcases mm_find i l m (k+1) h3 with ⟨a,c⟩ | ⟨A,v,B,a,b,c⟩
   ·refine .inl ⟨by rw [hn,a],fun q hq=>?_⟩
    rcases List.mem_cons.1 hq with rfl | hq
    ·exact hp
    ·exact c q hq
   ·refine .inr ⟨p::A,v,B,by rw [a];rfl,fun q hq=>?_,?_⟩
    ·rcases List.mem_cons.1 hq with rfl | hq
     ·exact hp
     ·exact b q hq
    ·rw [hn,c]
     simp only [List.length_cons,Nat.add_assoc,Nat.add_comm 1]
section
variable {P:Program} {t k e:TypeId}
theorem Mp.put {w:World} {b:Nat} {m:List (Int × Im)} (h:Mp w b m) (ht:P.underlying t=some (.map k e)) (hk:P.underlying k=some (.int .u64)) (i:Int) (v:Im):
  ∃w',(Instr.mapUpdate t (.map (some b)) (.int .u64 i) (.agg (imc v).toArray)).run P w=.ok () w'/\Mp w' b (mput m i v)/\But b w w'/\w'.heap.size=w.heap.size:=by
 obtain ⟨es,clock,h1,hm⟩:=h
 have hkey:IsKey (.int .u64) (.int .u64 i):=by simp [IsKey]
 have hlt:=(gE h1)
 have hbut:∀o,But b w {w with heap:=w.heap.setIfInBounds b o}:=fun o=>⟨rfl,rfl,rfl,by simp,fun j hj hne=>(heap_set h1).2 j hne⟩
 rcases mm_find i es.toList m 0 hm.kv with ⟨a,c'⟩ | ⟨A,u,B,hmm,hA,c'⟩
 ·refine ⟨{w with heap:=w.heap.setIfInBounds b (.map (es.push {key:=.int .u64 i,val:=.agg (imc v).toArray,born:=clock}) (clock+1))},?_,⟨_,_,(heap_set h1).1,⟨?_,q4l i v m hm.nd,?_,?_⟩⟩,hbut _,by simp⟩
  ·simp only [Instr.mapUpdate,Sem.run_bind,run_underlying ht,Result.andThen_ok,MapKept.run_getObj_map h1,run_checkKey hk hkey,run_findKey hk a,MapKept.run_setObj_map _ h1]
  ·rw [mput_no i v m c']
   simp [hm.kv,Go.Proofs.YtjejnlebpcjidaaGreatDoor.kv]
  ·simp only [Array.toList_push,List.map_append,List.map_cons,List.map_nil]
   rw [List.nodup_append]
   refine ⟨hm.bn,by simp,fun x hx y hy=>?_⟩
   obtain ⟨z,hz,rfl⟩:=List.mem_map.1 hx
   have:=hm.bc z hz
   simp only [List.mem_cons,List.not_mem_nil,or_false] at hy
   omega
  ·intro x hx
   simp only [Array.toList_push,List.mem_append,List.mem_cons,List.not_mem_nil,or_false] at hx
   rcases hx with hx | rfl
   ·have:=hm.bc x hx
    omega
   ·exact Nat.lt_succ_self _
 ·have hl:=congrArg List.length hm.kv
  have hlen:A.length<es.size:=by
   simp only [List.length_map,Array.length_toList] at hl
   rw [hl,hmm]
   simp
  have hj:es[A.length]?=some es[A.length]:=by simp [hlen]
  have hkv:es[A.length].key=.int .u64 i:=by
   have:=congrArg (fun l:List (Value × Value)=>l[A.length]?) hm.kv
   simp only [List.getElem?_map,hmm] at this
   simp [hlen,Go.Proofs.YtjejnlebpcjidaaGreatDoor.kv] at this
   exact this.1
  have hst:(Instr.keyThatStays (.int .u64 i) (.int .u64 i)).run P w=.ok (.int .u64 i) w:=by simp [Instr.keyThatStays,Instr.sameBits]
  have e1:(es.modify A.length fun e=>{e with key:=.int .u64 i,val:=.agg (imc v).toArray}).toList=es.toList.modify A.length (fun e=>{e with key:=.int .u64 i,val:=.agg (imc v).toArray}):=by simp
  have e2:(es.toList.modify A.length (fun e=>{e with key:=.int .u64 i,val:=.agg (imc v).toArray})).map (·.born)=es.toList.map (·.born):=by
   apply List.ext_getElem?
   intro q
   simp only [List.getElem?_map,List.getElem?_modify]
   by_cases hqa:A.length=q
   ·simp only [hqa,if_true]
    cases es.toList[q]?<;>rfl
   ·simp only [hqa,if_false]
    cases es.toList[q]?<;>rfl
  refine ⟨{w with heap:=w.heap.setIfInBounds b (.map (es.modify A.length fun e=>{e with key:=.int .u64 i,val:=.agg (imc v).toArray}) clock)},?_,⟨_,_,(heap_set h1).1,⟨?_,q4l i v m hm.nd,by rw [e1,e2];exact hm.bn,?_⟩⟩,hbut _,by simp⟩
  ·have c2:Instr.findNow (.int .u64) (.int .u64 i) es.toList 0=some (some (A.length,.agg (imc u).toArray)):=by rw [c',Nat.zero_add]
   simp only [Instr.mapUpdate,Sem.run_bind,run_underlying ht,Result.andThen_ok,MapKept.run_getObj_map h1,run_checkKey hk hkey,run_findKey hk c2,hj,Option.map_some,Option.getD_some,hkv,hst,MapKept.run_setObj_map _ h1]
  ·rw [e1,hmm,z5p i u v B A hA]
   apply List.ext_getElem?
   intro q
   have hq:=congrArg (fun l:List (Value × Value)=>l[q]?) hm.kv
   simp only [List.getElem?_map,hmm] at hq
   simp only [List.getElem?_map,List.getElem?_modify]
   by_cases hqa:A.length=q
   ·subst hqa
    simp [hlen,Go.Proofs.YtjejnlebpcjidaaGreatDoor.kv]
   ·simp only [hqa,if_false]
    rw [show ((fun a:MapEntry=>a) <$> es.toList[q]?)=es.toList[q]? from by cases es.toList[q]?<;>rfl,hq]
    congr 1
    rw [List.getElem?_append,List.getElem?_append]
    split
    ·rfl
    ·have:∃r,q-A.length=r+1:=⟨q-A.length-1,by omega⟩
     obtain ⟨r,hr⟩:=this
     rw [hr]
     simp
  ·intro x hx
   have h3:x.born∈es.toList.map (·.born):=by rw [<-e2,<-e1];exact List.mem_map_of_mem hx
   obtain ⟨y,hy,e3⟩:=List.mem_map.1 h3
   rw [<-e3]
   exact hm.bc y hy
end
def Rg (w:World) (b r:Nat) (m dn:List (Int × Im)):Prop:=
 ∃es clock since seen c0,∃de:List MapEntry,w.heap[b]?=some (.map es clock)/\Mm es clock m/\w.heap[r]?=some (.mapIter (some b) since seen c0)/\(∀x∈es.toList,x.born<since)/\since<=c0/\since<=clock/\(∀x∈de,x∈es.toList)/\(∀y,seen.contains y=true ↔ y∈de.map (·.born))/\(de.map (·.born)).Nodup/\de.map (fun e=>(e.key,e.val))=dn.map kv
theorem Rg.same {w w':World} {b r:Nat} {m dn:List (Int × Im)} (h:Rg w b r m dn) (h1:w'.heap[b]?=w.heap[b]?) (h2:w'.heap[r]?=w.heap[r]?):Rg w' b r m dn:=by
 obtain ⟨es,clock,since,seen,c0,de,q1,q2,q3,q4⟩:=h
 exact ⟨es,clock,since,seen,c0,de,h1.trans q1,q2,h2.trans q3,q4⟩
theorem Rg.lt {w:World} {b r:Nat} {m dn:List (Int × Im)} (h:Rg w b r m dn):b<w.heap.size/\r<w.heap.size/\b≠r:=by
 obtain ⟨es,clock,since,seen,c0,de,q1,q2,q3,q4⟩:=h
 refine ⟨(gE q1),(gE q3),fun e=>?_⟩
 rw [<-e,q1] at q3
 cases q3
theorem Mp.range {w:World} {b:Nat} {m:List (Int × Im)} (h:Mp w b m) {P:Program} {t k e:TypeId} (ht:P.underlying t=some (.map k e)):
  ∃w',(Instr.range t (.map (some b))).run P w=.ok (.pointer (some ⟨w.heap.size,0,none⟩)) w'/\Rg w' b w.heap.size m []/\Below w.heap.size w w'/\w'.heap.size=w.heap.size+1:=by
 have hlt:=h.lt
 obtain ⟨es,clock,hb,hm⟩:=h
 refine ⟨_,run_range_map w t k e b es clock ht hb,⟨es,clock,clock,#[],clock,[],((MapKept.heap_alloc w _).2 b hlt).trans hb,hm,(MapKept.heap_alloc w _).1,hm.bc,Nat.le_refl _,Nat.le_refl _,fun x hx=>by simp at hx,fun y=>by simp,by simp,rfl⟩,(Below.refl _ _).alloc (Nat.le_refl _) _,by simp⟩
theorem q3a {α β:Type} (f:α->β):∀{L:List α},(L.map f).Nodup->L.Nodup
 | [],_=>List.nodup_nil
 | x::L,h=>by
  have h':=List.nodup_cons.1 h
  exact List.nodup_cons.2 ⟨fun hx=>h'.1 (List.mem_map_of_mem hx),q3a f h'.2⟩
theorem Rg.done {w:World} {b r:Nat} {m dn:List (Int × Im)} (h:Rg w b r m dn) {es:Array MapEntry} {clock since c0:Nat} {seen:Array Nat} (hb:w.heap[b]?=some (.map es clock)) (hr:w.heap[r]?=some (.mapIter (some b) since seen c0)) (h0:(leftOf es seen).size=0):(dn.map kv).Perm (m.map kv):=by
 obtain ⟨es',clock',since',seen',c0',de,q1,q2,q3,q4,q5,q6,q7,q8,q9,q10⟩:=h
 rw [hb] at q1
 rw [hr] at q3
 cases q1
 cases q3
 rw [<-q10,<-q2.kv]
 apply List.Perm.map
 have hall:=all_seen es seen h0
 have hbi:∀x∈es.toList,∀y∈es.toList,x.born=y.born->x=y:=fun x hx y hy e=>by
  have h1:=find_born x es.toList q2.bn hx
  have h2:=find_born y es.toList q2.bn hy
  rw [e,h2] at h1
  exact (Option.some.inj h1).symm
 have key:∀x,x∈de ↔ x∈es.toList:=fun x=>⟨q7 x,fun hx=>by
  have:=(q8 x.born).1 (hall x hx)
  obtain ⟨y,hy,e⟩:=List.mem_map.1 this
  rw [<-hbi y (q7 y hy) x hx e]
  exact hy⟩
 have n1:de.Nodup:=q3a _ q9
 have n2:es.toList.Nodup:=q3a _ q2.bn
 exact (List.perm_ext_iff_of_nodup n1 n2).2 key
theorem Rg.next {w:World} {b r:Nat} {m dn:List (Int × Im)} (h:Rg w b r m dn) {P:Program} (ty:TypeId):
  ((dn.map kv).Perm (m.map kv)/\(Instr.next (.pointer (some ⟨r,0,none⟩)) false ty).run P w=.ok (.tuple #[.bool false]) w) ∨
  ∃p w',p∈m/\(Instr.next (.pointer (some ⟨r,0,none⟩)) false ty).run P w=.ok (.tuple #[.bool true,.int .u64 p.1,.agg (imc p.2).toArray]) w'/\Rg w' b r m (dn++[p])/\But r w w'/\w'.heap.size=w.heap.size/\(Instr.entry (.pointer (some ⟨r,0,none⟩))).run P w'=.ok (.tuple #[.int .u64 p.1,.agg (imc p.2).toArray]) w'/\w'.rangeLeft b r<w.rangeLeft b r:=by
 have h':=h
 have hne:=h.lt.2.2
 obtain ⟨es,clock,since,seen,c0,de,q1,q2,q3,q4,q5,q6,q7,q8,q9,q10⟩:=h
 rcases run_next_at (P:=P) w ty r b since c0 seen es clock q3 q1 q4 q5 with ⟨h0,hrun⟩ | ⟨e,he,w1,hal,hrun⟩
 ·exact .inl ⟨h'.done q1 q3 h0,hrun⟩
 ·obtain ⟨hem,hes⟩:=mem_left he
  have hr1:w1.heap[r]?=some (.mapIter (some b) since seen c0):=by rcases hal with rfl | rfl<;>exact q3
  have hb1:w1.heap[b]?=some (.map es clock):=by rcases hal with rfl | rfl<;>exact q1
  have hset:=heap_set (o':=.mapIter (some b) since (seen.push e.born) clock) hr1
  have hb':(setBlock w1 r (.mapIter (some b) since (seen.push e.born) clock)).heap[b]?=some (.map es clock):=(hset.2 b hne).trans hb1
  have hin:(e.key,e.val)∈m.map kv:=by rw [<-q2.kv];exact List.mem_map.2 ⟨e,hem,rfl⟩
  obtain ⟨p,hp,hpe⟩:=List.mem_map.1 hin
  have e1:e.key=.int .u64 p.1:=(congrArg Prod.fst hpe).symm
  have e2:e.val=.agg (imc p.2).toArray:=(congrArg Prod.snd hpe).symm
  have hen:=run_entry_at (P:=P) (setBlock w1 r (.mapIter (some b) since (seen.push e.born) clock)) r b since seen es clock e hset.1 hb' hem q2.bn
  rw [e1,e2] at hrun hen
  refine .inr ⟨p,_,hp,hrun,⟨es,clock,since,seen.push e.born,clock,de++[e],hb',q2,hset.1,q4,q6,q6,fun x hx=>?_,fun y=>?_,?_,?_⟩,?_,?_,hen,?_⟩
  ·rcases List.mem_append.1 hx with hx | hx
   ·exact q7 x hx
   ·simp only [List.mem_cons,List.not_mem_nil,or_false] at hx
    rw [hx];exact hem
  ·rw [contains_push,List.map_append,List.mem_append,<-q8 y]
   simp
  ·rw [List.map_append,List.nodup_append]
   refine ⟨q9,by simp,fun x hx y hy=>?_⟩
   simp only [List.map_cons,List.map_nil,List.mem_cons,List.not_mem_nil,or_false] at hy
   intro exy
   rw [exy,hy] at hx
   rw [(q8 _).2 hx] at hes
   cases hes
  ·rw [List.map_append,List.map_append,q10]
   simp only [List.map_cons,List.map_nil,e1,e2,Go.Proofs.YtjejnlebpcjidaaGreatDoor.kv]
  ·rcases hal with rfl | rfl<;>exact ⟨rfl,rfl,rfl,by simp [setBlock],fun i _ hi=>hset.2 i hi⟩
  ·rcases hal with rfl | rfl<;>simp [setBlock]
  ·have:=left_shrinks es seen e he
   have e3:(setBlock w1 r (.mapIter (some b) since (seen.push e.born) clock)).rangeLeft b r=(leftOf es (seen.push e.born)).size:=by
    have h4:=hset.1
    unfold World.rangeLeft
    rw [hb']
    rw [show (setBlock w1 r (.mapIter (some b) since (seen.push e.born) clock)).heap[r]?=_ from h4]
   have e4:w.rangeLeft b r=(leftOf es seen).size:=by
    unfold World.rangeLeft
    rw [q1,q3]
   rw [e3,e4]
   exact this
end Go.Proofs.YtjejnlebpcjidaaGreatDoor
namespace Go.Proofs.YtjejnlebpcjidaaGreatDoor
open Go.RowKit Plain
def Rise (l:List (Int × List Int)):Prop:=l.Pairwise (fun a b=>a.1<b.1)
def insP:List (Int × List Int)->Int × List Int->List (Int × List Int)
 | [],x=>[x]
 | y::l,x=>if y.1<x.1 then y::insP l x else if y.1=x.1 then x::l else x::y::l
def latP (L:List (Int × List Int)):List (Int × List Int):=L.foldl insP []
theorem z1l (x:Int × List Int):∀l,Rise l->∀q,q∈insP l x ↔ q=x∨(q.1≠x.1/\q∈l)
 | [],_,q=>by simp [insP]
 | y::l,h,q=>by
  have h':=List.pairwise_cons.1 h
  rw [insP]
  split
  ·rename_i hlt
   simp only [List.mem_cons,z1l x l h'.2 q]
   constructor
   ·rintro (h1 | h1 | h1)
    ·exact .inr ⟨by rw [h1];omega,.inl h1⟩
    ·exact .inl h1
    ·exact .inr ⟨h1.1,.inr h1.2⟩
   ·rintro (h1 | ⟨h1,h2 | h2⟩)
    ·exact .inr (.inl h1)
    ·exact .inl h2
    ·exact .inr (.inr ⟨h1,h2⟩)
  ·split
   ·rename_i hlt heq
    simp only [List.mem_cons]
    constructor
    ·rintro (h1 | h1)
     ·exact .inl h1
     ·have:=h'.1 q h1
      exact .inr ⟨by omega,.inr h1⟩
    ·rintro (h1 | ⟨h1,h2 | h2⟩)
     ·exact .inl h1
     ·exact absurd (by rw [h2];exact heq) h1
     ·exact .inr h2
   ·rename_i hlt heq
    simp only [List.mem_cons]
    constructor
    ·rintro (h1 | h1 | h1)
     ·exact .inl h1
     ·exact .inr ⟨by rw [h1];exact heq,.inl h1⟩
     ·have:=h'.1 q h1
      exact .inr ⟨by omega,.inr h1⟩
    ·rintro (h1 | ⟨h1,h2⟩)
     ·exact .inl h1
     ·exact .inr h2
theorem z3i (x:Int × List Int):∀l,Rise l->Rise (insP l x)
 | [],_=>by simp [insP,Rise]
 | y::l,h=>by
  have h':=List.pairwise_cons.1 h
  rw [insP]
  split
  ·rename_i hlt
   refine List.pairwise_cons.2 ⟨fun q hq=>?_,z3i x l h'.2⟩
   rcases (z1l x l h'.2 q).1 hq with rfl | ⟨_,h2⟩
   ·exact hlt
   ·exact h'.1 q h2
  ·split
   ·rename_i hlt heq
    exact List.pairwise_cons.2 ⟨fun q hq=>by have:=h'.1 q hq;omega,h'.2⟩
   ·rename_i hlt heq
    refine List.pairwise_cons.2 ⟨fun q hq=>?_,h⟩
    rcases List.mem_cons.1 hq with rfl | hq
    ·omega
    ·have:=h'.1 q hq
     omega
theorem q9z:∀{A B:List (Int × List Int)},Rise A->Rise B->(∀q,q∈A ↔ q∈B)->A=B
 | [],[],_,_,_=>rfl
 | [],b::B,_,_,h=>absurd ((h b).2 (by simp)) (by simp)
 | a::A,[],_,_,h=>absurd ((h a).1 (by simp)) (by simp)
 | a::A,b::B,hA,hB,h=>by
  have hA':=List.pairwise_cons.1 hA
  have hB':=List.pairwise_cons.1 hB
  have e:a=b:=by
   rcases List.mem_cons.1 ((h a).1 (by simp)) with h1 | h1
   ·exact h1
   ·rcases List.mem_cons.1 ((h b).2 (by simp)) with h2 | h2
    ·exact h2.symm
    ·have:=hB'.1 a h1
     have:=hA'.1 b h2
     omega
  subst e
  congr 1
  refine q9z hA'.2 hB'.2 fun q=>⟨fun hq=>?_,fun hq=>?_⟩
  ·rcases List.mem_cons.1 ((h q).1 (by simp [hq])) with h1 | h1
   ·have:=hA'.1 q hq
    rw [h1] at this
    omega
   ·exact h1
  ·rcases List.mem_cons.1 ((h q).2 (by simp [hq])) with h1 | h1
   ·have:=hB'.1 q hq
    rw [h1] at this
    omega
   ·exact h1
structure Mr (m:List (Int × Im)) (l:List (Int × List Int)):Prop where
 nd:(m.map Prod.fst).Nodup
 key:∀p∈m,p.1=p.2.blk
 ri:Rise l
 mem:∀q,(∃p∈m,pl p.2=q) ↔ q∈l
theorem mr_nil:Mr [] []:=⟨by simp,fun p hp=>by simp at hp,List.Pairwise.nil,fun q=>by simp⟩
theorem Mr.put {m:List (Int × Im)} {l:List (Int × List Int)} (h:Mr m l) (x:Im):Mr (mput m x.blk x) (insP l (pl x)):=by
 refine ⟨q4l _ _ m h.nd,fun p hp=>?_,z3i _ l h.ri,fun q=>?_⟩
 ·rcases (q6a _ _ m h.nd p).1 hp with rfl | ⟨_,h2⟩
  ·rfl
  ·exact h.key p h2
 ·rw [z1l _ l h.ri,<-h.mem q]
  constructor
  ·rintro ⟨p,hp,rfl⟩
   rcases (q6a _ _ m h.nd p).1 hp with rfl | ⟨h1,h2⟩
   ·exact .inl rfl
   ·refine .inr ⟨?_,p,h2,rfl⟩
    rw [h.key p h2] at h1
    exact h1
  ·rintro (rfl | ⟨h1,p,h2,rfl⟩)
   ·exact ⟨(x.blk,x),(q6a _ _ m h.nd _).2 (.inl rfl),rfl⟩
   ·exact ⟨p,(q6a _ _ m h.nd _).2 (.inr ⟨by rw [h.key p h2];exact h1,h2⟩),rfl⟩
def mF (M:List Im):List (Int × Im):=M.foldl (fun m x=>mput m x.blk x) []
theorem z6s:∀(M:List Im) {m:List (Int × Im)} {l:List (Int × List Int)},Mr m l->Mr (M.foldl (fun m x=>mput m x.blk x) m) ((M.map pl).foldl insP l)
 | [],_,_,h=>h
 | x::M,_,_,h=>z6s M (h.put x)
theorem mr_mF (M:List Im):Mr (mF M) (latP (M.map pl)):=z6s M mr_nil
theorem mF_snoc (M:List Im) (x:Im):mF (M++[x])=mput (mF M) x.blk x:=by simp [mF]
theorem len_mF (M:List Im):(mF M).length<=M.length:=by
 have key:∀(M:List Im) (m:List (Int × Im)),(M.foldl (fun m x=>mput m x.blk x) m).length<=m.length+M.length:=by
  intro M
  induction M with
  | nil=>intro m;simp
  | cons x M ih=>
   intro m
   have h1:=ih (mput m x.blk x)
   have h2:=z5w x.blk x m
   simp only [List.foldl_cons,List.length_cons]
   omega
 simpa [mF] using key M []
theorem mem_mF (M:List Im):∀p∈mF M,p.2∈M:=by
 have key:∀(M:List Im) (m:List (Int × Im)) (S:List Im),(m.map Prod.fst).Nodup->(∀p∈m,p.2∈S)->∀p∈M.foldl (fun m x=>mput m x.blk x) m,p.2∈S++M:=by
  intro M
  induction M with
  | nil=>intro m S _ h p hp;simpa using h p hp
  | cons x M ih=>
   intro m S hn h p hp
   have:=ih (mput m x.blk x) (S++[x]) (q4l _ _ m hn) (fun q hq=>by
    rcases (q6a _ _ m hn q).1 hq with rfl | ⟨_,h2⟩
    ·simp
    ·simp [h q h2]) p hp
   simpa using this
 intro p hp
 simpa using key M [] [] (by simp) (fun p hp=>by simp at hp) p hp
theorem z7i {m:List (Int × Im)} {l X:List (Int × List Int)} (h:Mr m l) (hp:X.Perm (m.map (fun p=>pl p.2))) (hs:X.Pairwise (fun a b=>a.1<=b.1)):X=l:=by
 have hk:(X.map Prod.fst).Nodup:=by
  have h1:((m.map (fun p=>pl p.2)).map Prod.fst).Nodup:=by
   have e:(m.map (fun p=>pl p.2)).map Prod.fst=m.map Prod.fst:=by
    rw [List.map_map]
    apply List.map_congr_left
    intro p hp
    exact (h.key p hp).symm
   rw [e]
   exact h.nd
  exact (hp.map Prod.fst).nodup_iff.2 h1
 refine q9z ?_ h.ri fun q=>?_
 ·have hk2:X.Pairwise (fun a b=>a.1≠b.1):=by
   rw [List.nodup_iff_pairwise_ne,List.pairwise_map] at hk
   exact hk
  exact (hs.and hk2).imp (fun {a b} h=>by omega)
 ·rw [hp.mem_iff,<-h.mem q]
  simp
open Go.Shelf Go.Lib Go.Sort
shelf_lay_g SlLaysF0.n6 Slsf 6 at Tryz 65 as laysIm
theorem renIm:laysIm_ren.f 6=65:=by kernel_rfl
instance:Inhabited Im:=⟨⟨0,none,0,0,[]⟩⟩
def cmpI (x y:Im):Int:=if x.blk<y.blk then -1 else if y.blk<x.blk then 1 else 0
theorem z1f (x y:Im):ltOf cmpI x y=decide (x.blk<y.blk):=by
 unfold ltOf cmpI
 by_cases h1:x.blk<y.blk
 ·simp [h1]
 ·by_cases h2:y.blk<x.blk<;>simp [h1,h2]
theorem swo_cmpI:SWO (ltOf cmpI) where
 irrefl x:=by rw [z1f];simp
 trans x y z h1 h2:=by rw [z1f] at *;simp at *;omega
 ntrans x y z h1 h2:=by rw [z1f] at *;simp at *;omega
theorem isNaN_any (x:Int) (w:World):Calls Tryz.prog 93 #[.int .u64 x] w fun e w'=>e=.returned (.bool false)/\w=w':=by
 go_enter Tryz.func93,Tryz.ntmps93
 go_wp2
 go_ret
 exact ⟨by simp,rfl⟩
theorem z4f (x y:Int) (w:World):Calls Tryz.prog 67 #[.int .u64 x,.int .u64 y] w fun e w'=>e=.returned (.int .i64 (if x<y then -1 else if y<x then 1 else 0))/\w=w':=by
 have HN:Box (∀z w,Calls Tryz.prog 93 #[.int .u64 z] w fun e w'=>e=.returned (.bool false)/\w=w'):=⟨isNaN_any⟩
 by_cases h1:x<y
 ·rw [if_pos h1]
  go_enter Tryz.func67,Tryz.ntmps67
  go_wp2_with (go_at_call 93;refine (HN.out _ _).mono ?_;rintro e w' ⟨rfl,rfl⟩)
  go_ret
  exact ⟨rfl,rfl⟩
 ·rw [if_neg h1]
  by_cases h2:y<x
  ·rw [if_pos h2]
   go_enter Tryz.func67,Tryz.ntmps67
   go_wp2_with (go_at_call 93;refine (HN.out _ _).mono ?_;rintro e w' ⟨rfl,rfl⟩)
   go_ret
   exact ⟨rfl,rfl⟩
  ·rw [if_neg h2]
   go_enter Tryz.func67,Tryz.ntmps67
   go_wp2_with (go_at_call 93;refine (HN.out _ _).mono ?_;rintro e w' ⟨rfl,rfl⟩)
   go_ret
   exact ⟨rfl,rfl⟩
set_option maxHeartbeats 1000000 in
theorem clos_any (x y:Im) (W:World):Calls Tryz.prog 66 #[.agg (imc x).toArray,.agg (imc y).toArray] W fun e w'=>e=.returned (.int .i64 (cmpI x y))/\∃q os',w'=grow (W.drewN q) os':=by
 have hcon:=fun W'=>z4f x.blk y.blk W'
 have e:cmpI x y=(if x.blk<y.blk then -1 else if y.blk<x.blk then 1 else 0):=rfl
 rw [e]
 obtain ⟨xb,xa,xl,xc,xs⟩:=x
 obtain ⟨yb,ya,yl,yc,ys⟩:=y
 simp only [imc] at hcon ⊢
 generalize (if xb<yb then (-1:Int) else if yb<xb then 1 else 0)=r at hcon ⊢
 have HC:Box _:=⟨hcon⟩
 clear hcon e
 go_enter Tryz.func66,Tryz.ntmps66
 go_wp2_with (go_at_call 67;refine (HC.out _).mono ?_;rintro e w' ⟨rfl,rfl⟩)
 go_ret
 exact ⟨rfl,0,_,by rw [alloc_eq_grow,alloc_eq_grow,grow_grow];rfl⟩
theorem z1x (d:Array Im):(flatK imc 2 d).toList=(d.toList.map imc).flatten:=by
 apply List.ext_getElem?
 intro t
 by_cases ht:t<d.size*2
 ·have h1:(flatK imc 2 d)[t]! = (imc d[t / 2]!)[t%2]!:=get_flatK imc 2 d t ht
  have hi:t / 2<d.toList.length:=by simp;omega
  have h2:=q6o imc 2 (fun _=>rfl) d.toList (t / 2) hi (t%2) (by omega)
  rw [show t / 2*2+t%2=t by omega] at h2
  have h3:t<(flatK imc 2 d).size:=by rw [size_flatK];exact ht
  have h5:t / 2<d.size:=by omega
  rw [h2,Array.getElem?_toList,Array.getElem?_eq_getElem h3]
  rw [getElem!_pos (flatK imc 2 d) t h3] at h1
  rw [h1,getElem!_pos d (t / 2) h5]
  have h4:t%2<(imc d[t / 2]).length:=by simp [imc];omega
  rw [getElem!_pos (imc d[t / 2]) (t%2) h4]
  simp
 ·rw [List.getElem?_eq_none (by simp;omega),List.getElem?_eq_none (by rw [q2k imc 2 (fun _=>rfl)];simp;omega)]
theorem take_put (cur F:Array Value) (h:F.size<=cur.size):(putCells id 0 F cur).toList.take F.size=F.toList:=by
 apply List.ext_getElem?
 intro j
 by_cases hj:j<F.size
 ·rw [List.getElem?_take_of_lt hj,Array.getElem?_toList,Array.getElem?_toList]
  simp [putCells,hj,show j<cur.size by omega]
 ·rw [List.getElem?_take_eq_none (by omega),List.getElem?_eq_none (by simp;omega)]
theorem sortIm_v {w:World} {B:Nat} {v:Value} {Y:List Im} (h:OImgs w B v Y) (hv:v≠.slice none 0 0) (hl:Y.length<4611686018427387904):
  Calls Tryz.prog 65 #[v,.func (.func 66) #[] #[]] w fun e w'=>e=.returned (.tuple #[])/\∃Y',Y'.Perm Y/\Y'.Pairwise (fun a b=>a.blk<=b.blk)/\OImgs w' B v Y'/\w.grownBy w' v.ownBlock:=by
 rcases h.row.2 with ⟨e0,_⟩ | ⟨g,cap,cur,rfl,hb,hg,h1,h2,h3,h4⟩
 ·exact absurd e0 hv
 have hgl:g<w.heap.size:=(gE hg)
 have hYs:(Y.toArray:Array Im).size=Y.length:=by simp
 have hF:(flatK imc 2 Y.toArray).toList=(Y.map imc).flatten:=z1x _
 have hH:HoldsK imc 2 w g 0 Y.toArray:=fun j hj=>by
  refine ⟨?_,frozen_of_row w g _ _ _ hg⟩
  have hj2:j<(flatK imc 2 Y.toArray).toList.length:=by simpa using hj
  rw [cell_of_row _ _ _ _ _ _ hg,Nat.zero_add,getElem!_pos _ j (by simpa using hj)]
  have e1:(cur.toList.take (Y.length*2))[j]?=(flatK imc 2 Y.toArray).toList[j]?:=by rw [hF];exact congrArg (fun l=>l[j]?) h4
  have hj3:j<Y.length*2:=by simpa using hj
  rw [List.getElem?_take_of_lt hj3] at e1
  rw [<-Array.getElem?_toList,e1,List.getElem?_eq_getElem hj2]
  simp
 have eg:∀args w,(callFunc 66 args).run Tryz.prog w=.ok (.enter 66 args) w:=enters_of Tryz.func66 (by kernel_rfl) rfl
 have hcon:=AnyQ.slices_SortFunc laysIm 2 Tryz.isAgg79 Tryz.sizeOf79 imc (fun _=>rfl) one_imc cmpI swo_cmpI 66 #[] g 0 cap Y.toArray w eg (fun _ _ _ _ x y=>clos_any x y _) hH hgl (by simpa using hl)
 rw [renIm] at hcon
 rw [hYs] at hcon
 refine hcon.mono ?_
 rintro e w' ⟨rfl,d',n,os,hp,hs,rfl⟩
 have hsz:d'.size=Y.length:=by rw [hp.1,hYs]
 have hperm:d'.toList.Perm Y:=by
  have:=hp.2.2
  rw [show d'.extract 0 Y.length=d' by rw [<-hsz];simp,show (Y.toArray).extract 0 Y.length=Y.toArray by simp] at this
  simpa using this
 have hgr:w.grownBy (sortWorldK imc 2 w g 0 n d' os) (some g):=by
  refine ⟨rfl,rfl,rfl,by simp [sortWorldK,putRowK],fun k hk hne=>?_⟩
  unfold sortWorldK putRowK
  rw [heap_grow_old _ _ (by simpa using hk)]
  have:g≠k:=fun e=>hne (by rw [e])
  simp [putRow,mapBlock,Sort.ahead,Array.getElem?_modify,this]
 have hrow:(sortWorldK imc 2 w g 0 n d' os).heap[g]?=some (.cells (putCells id 0 (flatK imc 2 d') cur) 79 (0,0)):=by
  unfold sortWorldK putRowK
  rw [heap_grow_old _ _ (by simpa using hgl)]
  simp [putRow,mapBlock,Sort.ahead,Array.getElem?_modify,hg,onCells]
 refine ⟨rfl,d'.toList,hperm,?_,⟨?_,fun m hm=>?_⟩,hgr⟩
 ·rw [List.pairwise_iff_getElem]
  intro i j hi hj hij
  have hi':i<d'.size:=by simpa using hi
  have hj':j<d'.size:=by simpa using hj
  have:=hs i j (Nat.zero_le _) hij (by rw [<-hsz];exact hj')
  rw [z1f,getElem!_pos d' i hi',getElem!_pos d' j hj'] at this
  simp only [decide_eq_false_iff_not] at this
  simp only [Array.getElem_toList]
  omega
 ·have hsf:(flatK imc 2 d').size=Y.length*2:=by rw [size_flatK,hsz]
  have hle:Y.length*2<=cur.size:=by rw [h3];exact Nat.mul_le_mul_right 2 h1
  have e1:d'.toList.length=Y.length:=by simpa using hsz
  rw [e1]
  refine ⟨by rw [q2k imc 2 (fun _=>rfl),e1],.inr ⟨g,cap,_,rfl,hb,hrow,h1,h2,by simp [putCells,h3],?_⟩⟩
  rw [<-hsf,take_put _ _ (by omega),z1x]
 ·have o:=h.byt m (hperm.mem_iff.1 hm)
  exact o.grown h.row (by decide) hgr
end Go.Proofs.YtjejnlebpcjidaaGreatDoor
namespace Go.Proofs.YtjejnlebpcjidaaGreatDoor
open Go.RowKit Go.MapKept Plain
section
variable {P:Program} {ops:Array Oper} {rest:List Oper} {o:Oper} {a:Act} {w:World} {Q:Exit->Act->World->Prop}
theorem z4w (hg:o.guard=none) (t k e:TypeId) (ht:P.underlying t=some (.map k e)) (hk:P.underlying k=some (.int .u64)) (m x v:Operand) (hop:o.op=Op.mapUpdate t m x v) (b:Nat) (M:List (Int × Im)) (i:Int) (u:Im) (hm:a.eval m=.map (some b)) (hx:a.eval x=.int .u64 i) (hv:a.eval v=.agg (imc u).toArray) (h:Mp w b M)
  (hK:∀w',Mp w' b (mput M i u)->But b w w'->wpList P ops Q rest (a.put o.dst undef) w'):wpList P ops Q (o::rest) a w:=by
 refine wpList_plain hg fun K' hK'=>?_
 obtain ⟨w',hrun,r1,r2,r3⟩:=h.put ht hk i u
 unfold Oper.wp
 simp [execOp,hop,hm,hx,hv,hrun,Result.andThen]
 exact hK' _ _ (hK w' r1 r2)
theorem z4m (hg:o.guard=none) (t k e:TypeId) (ht:P.underlying t=some (.map k e)) (m:Operand) (hop:o.op=Op.call {callee:=Callee.builtin Builtin.len,args:=#[m],argTypes:=#[t]}) (b:Nat) (M:List (Int × Im)) (hm:a.eval m=.map (some b)) (h:Mp w b M)
  (hK:wpList P ops Q rest (a.put o.dst (.int .i64 (M.length:Int))) w):wpList P ops Q (o::rest) a w:=by
 refine wpList_plain hg fun K' hK'=>?_
 obtain ⟨es,clock,h1,h2⟩:=h
 have hl:es.size=M.length:=by have:=congrArg List.length h2.kv;simpa using this
 have hr:(Builtin.len_ #[t] o.type #[.map (some b)]).run P w=.ok (.int .i64 (M.length:Int)) w:=by
  simp [Builtin.len_,run_underlying ht,MapKept.run_getObj_map h1,goInt,hl]
 unfold Oper.wp
 simp [execOp,hop,resolve,invoke,builtin,hm,hr,Result.andThen]
 exact hK' _ _ hK
theorem z1k (hg:o.guard=none) (t k e:TypeId) (ht:P.underlying t=some (.map k e)) (m:Operand) (hop:o.op=Op.range t m) (b:Nat) (M:List (Int × Im)) (hm:a.eval m=.map (some b)) (h:Mp w b M)
  (hK:∀w',Rg w' b w.heap.size M []->Below w.heap.size w w'->wpList P ops Q rest (a.put o.dst (.pointer (some ⟨w.heap.size,0,none⟩))) w'):wpList P ops Q (o::rest) a w:=by
 refine wpList_plain hg fun K' hK'=>?_
 obtain ⟨w',hrun,r1,r2,r3⟩:=h.range (P:=P) ht
 unfold Oper.wp
 simp [execOp,hop,hm,hrun,Result.andThen]
 exact hK' _ _ (hK w' r1 r2)
end
theorem next_ty {P:Program} {w:World} {r b since c0 clock:Nat} {seen:Array Nat} {es:Array MapEntry} (hr:w.heap[r]?=some (.mapIter (some b) since seen c0)) (hb:w.heap[b]?=some (.map es clock)) (ty ty':TypeId):(Instr.next (.pointer (some ⟨r,0,none⟩)) false ty).run P w=(Instr.next (.pointer (some ⟨r,0,none⟩)) false ty').run P w:=by
 simp only [Instr.next,getObj,Sem.run_bind,Sem.run,hr,hb,Result.andThen]
theorem Rg.next2 {w:World} {b r:Nat} {m dn:List (Int × Im)} (h:Rg w b r m dn) {P:Program}:
  ((dn.map kv).Perm (m.map kv)/\∀ty,(Instr.next (.pointer (some ⟨r,0,none⟩)) false ty).run P w=.ok (.tuple #[.bool false]) w) ∨
  ∃p w',p∈m/\(∀ty,(Instr.next (.pointer (some ⟨r,0,none⟩)) false ty).run P w=.ok (.tuple #[.bool true,.int .u64 p.1,.agg (imc p.2).toArray]) w')/\Rg w' b r m (dn++[p])/\But r w w'/\w'.heap.size=w.heap.size/\(Instr.entry (.pointer (some ⟨r,0,none⟩))).run P w'=.ok (.tuple #[.int .u64 p.1,.agg (imc p.2).toArray]) w'/\w'.rangeLeft b r<w.rangeLeft b r:=by
 have h':=h
 obtain ⟨es,clock,since,seen,c0,de,q1,q2,q3,_⟩:=h
 rcases h'.next (P:=P) 0 with ⟨h1,h2⟩ | ⟨p,w',h1,h2,h3⟩
 ·exact .inl ⟨h1,fun ty=>(next_ty q3 q1 ty 0).trans h2⟩
 ·exact .inr ⟨p,w',h1,fun ty=>(next_ty q3 q1 ty 0).trans h2,h3⟩
theorem perm_pl {dn m:List (Int × Im)} (h:(dn.map kv).Perm (m.map kv)) (hd:∀p∈dn,p∈m) (hn:(m.map Prod.fst).Nodup) (hk:(dn.map Prod.fst).Nodup):dn.Perm m:=by
 have n1:=q3a _ hk
 have n2:=q3a _ hn
 refine (List.perm_ext_iff_of_nodup n1 n2).2 fun p=>⟨hd p,fun hp=>?_⟩
 have:kv p∈dn.map kv:=h.mem_iff.2 (List.mem_map_of_mem hp)
 obtain ⟨q,hq,e⟩:=List.mem_map.1 this
 have e1:q.1=p.1:=by have:=congrArg Prod.fst e;simpa [kv] using this
 have hqm:=hd q hq
 have key:∀L:List (Int × Im),(L.map Prod.fst).Nodup->∀x∈L,∀y∈L,x.1=y.1->x=y:=by
  intro L
  induction L with
  | nil=>intro _ x hx;simp at hx
  | cons z L ih=>
   intro hN x hx y hy exy
   have hN':=List.nodup_cons.1 hN
   rcases List.mem_cons.1 hx with e1 | hx2
   ·rcases List.mem_cons.1 hy with e2 | hy2
    ·rw [e1,e2]
    ·exact absurd (List.mem_map_of_mem (f:=Prod.fst) hy2) (by rw [<-exy,e1];exact hN'.1)
   ·rcases List.mem_cons.1 hy with e2 | hy2
    ·exact absurd (List.mem_map_of_mem (f:=Prod.fst) hx2) (by rw [exy,e2];exact hN'.1)
    ·exact ih hN'.2 x hx2 y hy2 exy
 rw [<-key m hn q hqm p hp e1]
 exact hq
theorem z8e {dn m:List (Int × Im)} (h:(dn.map kv).Perm (m.map kv)) (hn:(m.map Prod.fst).Nodup):(dn.map Prod.fst).Nodup:=by
 have key:∀L:List (Int × Im),(L.map Prod.fst)=(L.map kv).map (fun x=>match x.1 with | .int _ i=>i | _=>0):=fun L=>by
  rw [List.map_map]
  rfl
 rw [key] at hn ⊢
 exact (h.map _).nodup_iff.2 hn
end Go.Proofs.YtjejnlebpcjidaaGreatDoor
namespace Go.Proofs.YtjejnlebpcjidaaGreatDoor
open Go.RowKit Plain
attribute [local go_sem] Oper.semAt_some
def allM (C:List Sx):List Im:=(C.map (·.M)).flatten
theorem allM_take (C:List Sx) (k:Nat) (hk:k<C.length):allM (C.take (k+1))=allM (C.take k)++C[k].M:=by
 rw [List.take_succ_eq_append_getElem hk]
 simp only [allM,List.map_append,List.map_cons,List.map_nil,List.flatten_append,List.flatten_cons,List.flatten_nil,List.append_nil]
structure LtK (w wr:World) (g:Nat) (M:List Im):Prop where
 mp:Mp wr g (mF M)
 bel:Below w.heap.size w wr
theorem LtK.step {w wr x w':World} {g:Nat} {M:List Im} (h:LtK w wr g M) (hb:Below wr.heap.size wr x) (m:Im) (hm:Mp w' g (mput (mF M) m.blk m)) (hbt:But g x w') (hg:w.heap.size<=g):LtK w w' g (M++[m]):=by
 refine ⟨by rw [mF_snoc];exact hm,?_⟩
 have hl:=q0a h.bel hb
 exact ⟨hbt.os.trans hl.os,hbt.tape.trans hl.tape,hbt.output.trans hl.output,Nat.le_trans hl.size hbt.size,fun k hk=>(hbt.block k (Nat.lt_of_lt_of_le hk hl.size) (by omega)).trans (hl.block k hk)⟩
structure LrK (w w1 wr:World) (g r:Nat) (m dn:List (Int × Im)) (v:Value) (Y:List Im):Prop where
 rg:Rg wr g r m dn
 im:OImgs wr w1.heap.size v Y
 pls:Y.map pl=dn.map (fun p=>(p.1,p.2.bs))
 mem:∀p∈dn,p∈m
 nn:v≠.slice none 0 0
 bel:Below w.heap.size w wr
 lo:w.heap.size<=w1.heap.size/\w1.heap.size<=wr.heap.size/\w1.heap.size<=r/\w.heap.size<=g/\g<w1.heap.size
theorem map_ne {w:World} {B n g:Nat} {e:TypeId} {sz:Nat} {v:Value} {xs:List Value} {es:Array MapEntry} {c:Nat} (h:w.ownsRow B e sz v n xs) (hg:w.heap[g]?=some (.map es c)):some g≠v.ownBlock:=fun e'=>by
 obtain ⟨_,cur,h2⟩:=q1j h g e'.symm
 rw [hg] at h2
 cases h2
theorem iter_ne {w:World} {B n g:Nat} {e:TypeId} {sz:Nat} {v:Value} {xs:List Value} {a:Option Nat} {b c:Nat} {s:Array Nat} (h:w.ownsRow B e sz v n xs) (hg:w.heap[g]?=some (.mapIter a b s c)):some g≠v.ownBlock:=fun e'=>by
 obtain ⟨_,cur,h2⟩:=q1j h g e'.symm
 rw [hg] at h2
 cases h2
theorem Rg.ne {w:World} {b r:Nat} {m dn:List (Int × Im)} (h:Rg w b r m dn) {B n:Nat} {e:TypeId} {sz:Nat} {v:Value} {xs:List Value} (ho:w.ownsRow B e sz v n xs):some b≠v.ownBlock/\some r≠v.ownBlock:=by
 obtain ⟨es,clock,since,seen,c0,de,q1,q2,q3,q4⟩:=h
 exact ⟨map_ne ho q1,iter_ne ho q3⟩
theorem LrK.mid {w w1 wr x:World} {g r:Nat} {m dn:List (Int × Im)} {v:Value} {Y:List Im} (h:LrK w w1 wr g r m dn v Y) (hb:But r wr x):OImgs x w1.heap.size v Y/\Below w.heap.size w x:=by
 have hne:=h.rg.ne h.im.row
 refine ⟨⟨q0j h.im.row (fun k hk=>hb.block k (h.im.row.lt k hk).2 (fun e=>hne.2 (by rw [<-e];exact hk.symm))),fun y hy=>?_⟩,?_⟩
 ·have o:=h.im.byt y hy
  have hn2:=h.rg.ne o.own
  exact ⟨q0j o.own (fun k hk=>hb.block k (o.own.lt k hk).2 (fun e=>hn2.2 (by rw [<-e];exact hk.symm))),o.byt,o.num⟩
 ·have hl:=h.bel
  have:=h.lo
  exact ⟨hb.os.trans hl.os,hb.tape.trans hl.tape,hb.output.trans hl.output,Nat.le_trans hl.size hb.size,fun k hk=>(hb.block k (Nat.lt_of_lt_of_le hk hl.size) (by omega)).trans (hl.block k hk)⟩
theorem LrK.step {w w1 wr x y w':World} {g r:Nat} {m dn:List (Int × Im)} {v v':Value} {Y:List Im} (h:LrK w w1 wr g r m dn v Y) (hb:But r wr x) (p:Int × Im) (hp:p∈m) (hr:Rg x g r m (dn++[p])) (hy:Below x.heap.size x y) (a:Option Addr) (c:Nat) (n:Nat) (hn:n=p.2.bl) (ho:y.ownsRow x.heap.size 5 1 (.slice a n c) n (p.2.bs.map (Value.int .u8))) (hbt:Byt p.2.bs) (hnum:N64 p.1) (hw:w'.ownsRow w1.heap.size 79 2 v' (Y.length+1) ((Y.map imc).flatten++[.int .u64 p.1,.slice a n c])) (hg:y.grownBy w' v.ownBlock) (hnn:v'≠.slice none 0 0):LrK w w1 w' g r m (dn++[p]) v' (Y++[⟨p.1,a,n,c,p.2.bs⟩]):=by
 obtain ⟨m1,m2⟩:=h.mid hb
 have m3:=m1.to hy
 have hlo:=h.lo
 have hbs:=hb.size
 have hys:=hy.size
 have hgs:=hg.size
 have hry:=hr.same (hy.block g hr.lt.1) (hy.block r hr.lt.2.1)
 have hne:=hry.ne m3.row
 refine ⟨hry.same (hg.block g hry.lt.1 hne.1) (hg.block r hry.lt.2.1 hne.2),⟨?_,fun z hz=>?_⟩,?_,fun q hq=>?_,hnn,?_,by omega⟩
 ·rw [List.map_append,List.flatten_append]
  simpa [imc] using hw
 ·rcases List.mem_append.1 hz with hz | hz
  ·exact (m3.byt z hz).grown m3.row (by decide) hg
  ·simp only [List.mem_cons,List.not_mem_nil,or_false] at hz
   subst hz
   exact (OIm.low (B:=x.heap.size) (m:=⟨p.1,a,n,c,p.2.bs⟩) ⟨ho,hbt,hnum⟩ (by omega)).grown m3.row (by decide) hg
 ·rw [List.map_append,List.map_append,h.pls]
  simp [pl]
 ·rcases List.mem_append.1 hq with hq | hq
  ·exact h.mem q hq
  ·simp only [List.mem_cons,List.not_mem_nil,or_false] at hq
   rw [hq];exact hp
 ·have hl:=q0a m2 hy
  exact hl.grown hg hl.size (fun j hj=>by have:=(q1j m3.row j hj).1;omega)
theorem LrK.fin {w w1 wr:World} {g r:Nat} {M:List Im} {dn:List (Int × Im)} {v:Value} {Y:List Im} (h:LrK w w1 wr g r (mF M) dn v Y) (hp:(dn.map kv).Perm ((mF M).map kv)) {Y':List Im} (hY:Y'.Perm Y) (hs:Y'.Pairwise (fun a b=>a.blk<=b.blk)):Y'.map pl=latP (M.map pl):=by
 have hmr:=mr_mF M
 have hdm:=perm_pl hp h.mem hmr.nd (z8e hp hmr.nd)
 refine z7i hmr ?_ ?_
 ·have e1:(mF M).map (fun p=>pl p.2)=(mF M).map (fun p=>(p.1,p.2.bs)):=List.map_congr_left (fun p hp=>by rw [hmr.key p hp];rfl)
  rw [e1]
  refine (hY.map pl).trans ?_
  rw [h.pls]
  exact hdm.map _
 ·rw [List.pairwise_map]
  exact hs
theorem app_nn {w:World} {B n:Nat} {e:TypeId} {sz:Nat} {v:Value} {xs:List Value} (h:w.ownsRow B e sz v (n+1) xs):v≠.slice none 0 0:=by
 rcases h.2 with ⟨_,h0⟩ | ⟨g,cap,cur,rfl,_⟩
 ·omega
 ·exact fun e=>by cases e
end Go.Proofs.YtjejnlebpcjidaaGreatDoor
