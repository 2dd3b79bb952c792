/-
 Blocks, rows and structs of the model's memory as one operation makes, reads and compares them; images and records in memory. Of the program only its types are named. And what follows it.
-/
import Derived.BigRegion
import Derived.BigQuiet
import Derived.Laws.StructEq
import Derived.ChangeKeysEq
import Derived.Laws.Rows
import Derived.Laws.Tables
import Derived.Laws.ResultCell
import Derived.Test.YtjejnlebpcjidaaGreatDoorQ01
import Derived.Test.YtjejnlebpcjidaaGreatDoorQ00
set_option linter.unusedVariables false
set_option maxRecDepth 100000
set_option maxRecDepth 100000
namespace Go.Proofs.YtjejnlebpcjidaaGreatDoor
open Go.RowKit Plain
theorem q0b {ops:Array Oper} {rest:List Oper} {o:Oper} {a:Act} {w:World} {Q:Exit->Act->World->Prop} (hg:o.guard=none) (v:Value) (w':World) (hr:(execOp a.eval o).run Tryz.prog w=.ok (.value v) w') (h:wpList Tryz.prog ops Q rest (a.put o.dst v) w'):wpList Tryz.prog ops Q (o::rest) a w:=
 wpList_plain hg fun _ hK=>by unfold Oper.wp;rw [hr];exact hK _ _ h
theorem q0e {o:Oper} {ρ:Operand->Value} {w:World} (t:TypeId) (ho:o.op=.alloc t) (Z:Array Value) (hz:(Tryz.prog.info? t).map (·.zero)=some (some (.agg Z))):
  (execOp ρ o).run Tryz.prog w=.ok (.value (.pointer (some ⟨w.heap.size,0,none⟩))) (w.alloc (.cells Z t)):=by
 cases hq:Tryz.prog.info? t with
 | none=>simp [hq] at hz
 | some i=>
  have hs:i.zero=some (.agg Z):=by simpa [hq] using hz
  unfold execOp
  simp [ho,Instr.alloc,zeroValue,typeInfo,hq,hs,newVar,newRow,Value.cells,Sem.run_bind]
theorem q0n {o:Oper} {ρ:Operand->Value} {w:World} (t:TypeId) (parts:List (Nat × Operand)) (ho:o.op=.build t parts.toArray) (ps:List (Nat × Value)) (hp:parts.map (fun x=>(x.1,ρ x.2))=ps) (cells:Array Value) (h:Tryz.prog.built t ps=some cells):
  (execOp ρ o).run Tryz.prog w=.ok (.value (.agg cells)) w:=by
 have h':Tryz.prog.built t (parts.toArray.map fun (i,x)=>(i,ρ x)).toList=some cells:=by
  rw [<-h,<-hp];simp
 unfold execOp
 simp only [ho,Sem.run_bind,run_build w t _ cells h',Result.andThen_ok]
 rfl
theorem But.setCells {G:Nat}:∀(cs:List Value) (o:Nat) {w w':World},But G w w'->But G w (w'.setCells G o cs)
 | [],_,_,_,h=>h
 | v::r,o,_,_,h=>But.setCells r (o+1) (h.setCell o v)
theorem q1h (g:Nat) (t:TypeId):∀(cs:List Value) (o:Nat) (cur:List Value) (w:World),w.heap[g]?=some (.cells cur.toArray t (0,0))->o+cs.length<=cur.length->(w.setCells g o cs).heap[g]?=some (.cells (splice cur o cs).toArray t (0,0))
 | [],o,cur,w,h,_=>by rw [q7h];exact h
 | v::r,o,cur,w,h,hl=>by
  rw [World.setCells]
  have h1:=heap_setCell_same w g o _ t v h
  rw [List.setIfInBounds_toArray] at h1
  simp only [List.length_cons] at hl
  rw [q1h g t r (o+1) _ _ h1 (by simp;omega)]
  congr 2
  have ho:o<cur.length:=by omega
  simp only [splice,List.length_cons]
  rw [List.take_set,List.drop_set_of_lt (by omega),List.take_add_one,List.set_append]
  have hm:min o cur.length=o:=by omega
  simp [ho,hm,Nat.add_assoc,Nat.add_comm 1]
theorem q0z {w:World} {g o n:Nat} {cs:Array Value} {t:TypeId} (hg:w.heap[g]?=some (.cells cs t (0,0))) (h:o+n<=cs.size):w.there g o n:=by
 intro j hj
 refine ⟨?_,frozen_of_row w g _ cs t hg⟩
 rw [cell_of_row _ _ _ _ _ _ hg]
 have:o+j<cs.size:=by omega
 simp [this]
theorem q2a {w:World} {g o:Nat} {cs:Array Value} {t:TypeId} {fr:Nat × Nat} (hg:w.heap[g]?=some (.cells cs t fr)) (L:List Value) (h:∀j v,L[j]?=some v->cs[o+j]?=some v):w.rangeAt g o L:=by
 intro j v hv
 rw [cell_of_row _ _ _ _ _ _ hg]
 exact h j v hv
theorem q0k {P:Program} {o:Oper} {ρ:Operand->Value} {w':World} (t:TypeId) (d:TypeDesc) (x:Operand) (ho:o.op=.load t x) (hu:P.underlying t=some d) (hd:d.isRow=true) (b off:Nat) (hx:ρ x=.pointer (some ⟨b,off,none⟩)) (cs:List Value) (hi:(P.info? t).map (·.size)=some cs.length) (hc:w'.rangeAt b off cs):
  (execOp ρ o).run P w'=.ok (.value (.agg cs.toArray)) w':=by
 unfold execOp
 simp only [ho,hx,Instr.loadAt,Instr.sureAddr,Sem.run_bind,Sem.run_pure,Result.andThen_ok,run_loadVar_mid w' b off t cs d hc hu hd hi]
theorem q7k (cs:List Value) (o:Nat) (v:Value) (r:List Value) (h:o+(r.length+1)<=cs.length):splice (cs.set o v) (o+1) r=splice cs o (v::r):=by
 simp only [splice,List.length_cons] at *
 have ho:o<cs.length:=by omega
 have hm:min o cs.length=o:=by omega
 rw [List.take_set,List.drop_set_of_lt (by omega),List.take_add_one,List.set_append]
 simp [ho,hm,Nat.add_assoc,Nat.add_comm 1]
theorem q4d:∀(l:List Value) (k off:Nat) (cs:Array Value),off+k+l.length<=cs.size->(l.zipIdx k).foldl (fun cs x=>cs.setIfInBounds (off+x.2) x.1) cs=(splice cs.toList (off+k) l).toArray
 | [],k,off,cs,h=>by simp [splice]
 | v::r,k,off,cs,h=>by
  simp only [List.length_cons] at h
  rw [List.zipIdx_cons,List.foldl_cons]
  have ih:=q4d r (k+1) off (cs.setIfInBounds (off+k) v) (by simp;omega)
  simp only at ih ⊢
  rw [ih]
  congr 1
  have e:(cs.setIfInBounds (off+k) v).toList=cs.toList.set (off+k) v:=by simp
  rw [e,show off+(k+1)=off+k+1 by omega]
  exact q7k _ _ _ _ (by simp;omega)
theorem q3i (place:Nat->Option (Nat × Nat)) (cells:Array Value) (i off size:Nat) (A:Array Value) (rest:List (Nat × Value)) (hp:place i=some (off,size)) (hA:A.size=size) (hf:off+size<=cells.size):
  Instr.fill place cells ((i,.agg A)::rest)=Instr.fill place (splice cells.toList off A.toList).toArray rest:=by
 have hc:(Value.agg A).cells=A:=rfl
 have h1:¬(A.size≠size||off+A.size > cells.size)=true:=by simp;omega
 rw [Instr.fill,hp]
 simp only [hc]
 rw [if_neg h1]
 congr 1
 rw [<-Array.foldl_toList,Array.toList_zipIdx]
 have:=q4d A.toList 0 off cells (by simp;omega)
 rw [Nat.add_zero] at this
 rw [<-this]
theorem eqF_cons (d : Nat) (xs ys : Array Value) (f : Field) (fs : List Field) (hf : (f.name != "_") = true) : Op.eqFields d xs ys (f :: fs) = (do
   let a <-part f.type xs f.offset
   let b <-part f.type ys f.offset
   let r <-Op.equalIn d f.type a b
   if (!r)=true then pure false else Op.eqFields d xs ys fs):=by
 have h : f.name ≠ "_" := by simpa using hf
 rw [Op.eqFields,if_pos h]
theorem z5n (d : Nat) (xs ys : Array Value) (f : Field) (fs : List Field) (t : TypeId) (o : Nat) (hf : (f.name != "_") = true) (ht : f.type = t) (ho : f.offset = o) (x y : Value) (w : World) (hx : (part t xs o).run Tryz.prog w = .ok x w) (hy : (part t ys o).run Tryz.prog w = .ok y w) (b c : Bool) (he : (Op.equalIn d t x y).run Tryz.prog w = .ok b w) (hr : (Op.eqFields d xs ys fs).run Tryz.prog w = .ok c w) :
  (Op.eqFields d xs ys (f::fs)).run Tryz.prog w=.ok (b&&c) w:=by
 subst ht ho
 rw [eqF_cons d xs ys f fs hf]
 simp only [Sem.run_bind,hx,hy,he,Result.andThen_ok]
 cases b
 ·simp
 ·simpa using hr
theorem atStore {P:Program} {ops:Array Oper} {Q:Exit->Act->World->Prop} {rest:List Oper} {a:Act} {w:World} (t:TypeId) {x y:Operand} {d:Option Tmp} {ty:TypeId} {p:String} {af:Array Edge} {g:Option (Nat × Bool)} (h:wpList P ops Q ({dst:=d,op:=.store t x y,type:=ty,pos:=p,after:=af,guard:=g}::rest) a w):wpList P ops Q ({dst:=d,op:=.store t x y,type:=ty,pos:=p,after:=af,guard:=g}::rest) a w:=h
theorem atLoad {P:Program} {ops:Array Oper} {Q:Exit->Act->World->Prop} {rest:List Oper} {a:Act} {w:World} (t:TypeId) {x:Operand} {d:Option Tmp} {ty:TypeId} {p:String} {af:Array Edge} {g:Option (Nat × Bool)} (h:wpList P ops Q ({dst:=d,op:=.load t x,type:=ty,pos:=p,after:=af,guard:=g}::rest) a w):wpList P ops Q ({dst:=d,op:=.load t x,type:=ty,pos:=p,after:=af,guard:=g}::rest) a w:=h
theorem atSlice {P:Program} {ops:Array Oper} {Q:Exit->Act->World->Prop} {rest:List Oper} {a:Act} {w:World} (t:TypeId) {x:Operand} {lo hi mx:Option Operand} {d:Option Tmp} {ty:TypeId} {p:String} {af:Array Edge} {g:Option (Nat × Bool)} (h:wpList P ops Q ({dst:=d,op:=.slice t x lo hi mx,type:=ty,pos:=p,after:=af,guard:=g}::rest) a w):wpList P ops Q ({dst:=d,op:=.slice t x lo hi mx,type:=ty,pos:=p,after:=af,guard:=g}::rest) a w:=h
theorem atBuild {P:Program} {ops:Array Oper} {Q:Exit->Act->World->Prop} {rest:List Oper} {a:Act} {w:World} (t:TypeId) {x:Array (Nat × Operand)} {d:Option Tmp} {ty:TypeId} {p:String} {af:Array Edge} {g:Option (Nat × Bool)} (h:wpList P ops Q ({dst:=d,op:=.build t x,type:=ty,pos:=p,after:=af,guard:=g}::rest) a w):wpList P ops Q ({dst:=d,op:=.build t x,type:=ty,pos:=p,after:=af,guard:=g}::rest) a w:=h
theorem atConv {P:Program} {ops:Array Oper} {Q:Exit->Act->World->Prop} {rest:List Oper} {a:Act} {w:World} (t u:TypeId) {x:Operand} {d:Option Tmp} {ty:TypeId} {p:String} {af:Array Edge} {g:Option (Nat × Bool)} (h:wpList P ops Q ({dst:=d,op:=.convert t u x,type:=ty,pos:=p,after:=af,guard:=g}::rest) a w):wpList P ops Q ({dst:=d,op:=.convert t u x,type:=ty,pos:=p,after:=af,guard:=g}::rest) a w:=h
theorem atBin {P:Program} {ops:Array Oper} {Q:Exit->Act->World->Prop} {rest:List Oper} {a:Act} {w:World} (b:BinOp) (t:TypeId) {x y:Operand} {u:TypeId} {d:Option Tmp} {ty:TypeId} {p:String} {af:Array Edge} {g:Option (Nat × Bool)} (h:wpList P ops Q ({dst:=d,op:=.binOp b t x y u,type:=ty,pos:=p,after:=af,guard:=g}::rest) a w):wpList P ops Q ({dst:=d,op:=.binOp b t x y u,type:=ty,pos:=p,after:=af,guard:=g}::rest) a w:=h
theorem q4u {ops:Array Oper} {rest:List Oper} {o:Oper} {a:Act} {w:World} {Q:Exit->Act->World->Prop} (hw:Region.wanted o (yielded ops a.tmps)=true) (v:Value) (w':World) (hr:(execOp a.eval o).run Tryz.prog w=.ok (.value v) w') (h:wpList Tryz.prog ops Q rest (a.put o.dst v) w'):wpList Tryz.prog ops Q (o::rest) a w:=
 BigFrame.wpList_want hw fun _ hK=>by unfold Oper.wp;rw [hr];exact hK _ _ h
theorem q0c {ops:Array Oper} {rest:List Oper} {o:Oper} {a:Act} {w:World} {Q:Exit->Act->World->Prop} (hg:o.guard=none) (t:TypeId) (d:TypeDesc) (x:Operand) (ho:o.op=.load t x) (hu:Tryz.prog.underlying t=some d) (hd:d.isRow=true) (b off:Nat) (hx:a.eval x=.pointer (some ⟨b,off,none⟩)) (cs:List Value) (hi:(Tryz.prog.info? t).map (·.size)=some cs.length) (hc:w.rangeAt b off cs)
  (h:wpList Tryz.prog ops Q rest (a.put o.dst (.agg cs.toArray)) w):wpList Tryz.prog ops Q (o::rest) a w:=q0b hg _ _ (q0k t d x ho hu hd b off hx cs hi hc) h
theorem atAlloc {P:Program} {ops:Array Oper} {Q:Exit->Act->World->Prop} {rest:List Oper} {a:Act} {w:World} (t:TypeId) {d:Option Tmp} {ty:TypeId} {p:String} {af:Array Edge} {g:Option (Nat × Bool)} (h:wpList P ops Q ({dst:=d,op:=.alloc t,type:=ty,pos:=p,after:=af,guard:=g}::rest) a w):wpList P ops Q ({dst:=d,op:=.alloc t,type:=ty,pos:=p,after:=af,guard:=g}::rest) a w:=h
theorem atIdx {P:Program} {ops:Array Oper} {Q:Exit->Act->World->Prop} {rest:List Oper} {a:Act} {w:World} (t:TypeId) {x y:Operand} {d:Option Tmp} {ty:TypeId} {p:String} {af:Array Edge} {g:Option (Nat × Bool)} (h:wpList P ops Q ({dst:=d,op:=.indexAddr t x y,type:=ty,pos:=p,after:=af,guard:=g}::rest) a w):wpList P ops Q ({dst:=d,op:=.indexAddr t x y,type:=ty,pos:=p,after:=af,guard:=g}::rest) a w:=h
theorem q3e {B:Nat} {w x:World} (h:Below B w x) (n:Nat):Below B w (x.drewN n):=⟨h.os,h.tape,h.output,h.size,h.block⟩
theorem q0o {ops:Array Oper} {rest:List Oper} {o:Oper} {a:Act} {v:World} {Q:Exit->Act->World->Prop} {u:TypeId} (w:World) (Z C:Array Value) (hi:(Tryz.prog.info? u).map (·.size)=some C.size) (hZ:Z.size=C.size) (h1:C.all (·.oneCell')=true) (hgd:o.guard=none) (x y:Operand) (ho:o.op=.store u x y)
  (hx:a.eval x=.pointer (some ⟨w.heap.size,0,none⟩)) (hy:a.eval y=.agg C) (hv:v=w.alloc (.cells Z u))
  (h:∀z,z.heap[w.heap.size]?=some (.cells C u (0,0))->Below w.heap.size w z->wpList Tryz.prog ops Q rest (a.put o.dst undef) z):wpList Tryz.prog ops Q (o::rest) a v:=by
 subst hv
 exact wpList_store_row hgd u x y ho w.heap.size C hx hy u Z (q0g rfl) hi hZ h1 (h _ (setRow_heap _ _ _ _ _ _ (q0g rfl)) (below_setRow ((Below.refl _ _).alloc (Nat.le_refl _) _) (Nat.le_refl _) _))
theorem q6h (L:List (List Value)) (sz:Nat) (hL:∀x∈L,x.length=sz) (k:Nat) (hk:k<L.length) (j:Nat) (hj:j<sz):L.flatten[sz*k+j]?=(L[k])[j]?:=by
 induction L generalizing k with
 | nil=>simp at hk
 | cons x L ih=>
  have hx:x.length=sz:=hL x (by simp)
  cases k with
  | zero=>simp [List.getElem?_append,hx,hj]
  | succ k=>
   have h1:sz*(k+1)+j-x.length=sz*k+j:=by rw [hx,Nat.mul_succ];omega
   rw [List.flatten_cons,List.getElem?_append_right (by rw [hx,Nat.mul_succ];omega),h1,ih (fun y hy=>hL y (by simp [hy])) k (by simpa using hk)]
   simp
theorem q6i (L:List (List Value)) (sz:Nat) (hL:∀x∈L,x.length=sz):L.flatten.length=L.length*sz:=by
 induction L with
 | nil=>simp
 | cons x L ih=>simp [hL x (by simp),ih (fun y hy=>hL y (by simp [hy])),Nat.succ_mul];omega
theorem q0j {w w':World} {base n:Nat} {e:TypeId} {sz:Nat} {v:Value} {xs:List Value} (h:w.ownsRow base e sz v n xs) (hs:∀k,v.ownBlock=some k->w'.heap[k]?=w.heap[k]?):w'.ownsRow base e sz v n xs:=by
 refine ⟨h.1,?_⟩
 rcases h.2 with hn | ⟨g,cap,cur,rfl,hb,hgg,rest⟩
 ·exact .inl hn
 ·exact .inr ⟨g,cap,cur,rfl,hb,by rw [hs g rfl];exact hgg,rest⟩
theorem q0l {w:World} {base n:Nat} {e:TypeId} {sz:Nat} {v:Value} {xs:List Value} (h:w.ownsRow base e sz v n xs):∃a cap,v=.slice a n cap:=by
 rcases h.2 with ⟨rfl,rfl⟩ | ⟨g,cap,cur,rfl,_⟩
 ·exact ⟨_,_,rfl⟩
 ·exact ⟨_,_,rfl⟩
theorem q3d (w:World) (cs:List Value) (e:TypeId):∀j u,cs[j]?=some u->(w.alloc (.cells cs.toArray e)).cell? ((⟨w.heap.size,0,none⟩:Addr).add j)=some u:=by
 intro j u hj
 rw [Addr.add_lit,Nat.zero_add,cell_of_row _ _ _ _ _ _ (q0g rfl)]
 simpa using hj
theorem q0w {P:Program} {o:Oper} {ρ:Operand->Value} {w':World} (t:TypeId) (d:TypeDesc) (x:Operand) (ho:o.op=.load t x) (hu:P.underlying t=some d) (hd:d.isRow=false) (ad:Addr) (hx:ρ x=.pointer (some ad)) (v:Value) (hc:w'.cell? ad=some v):
  (execOp ρ o).run P w'=.ok (.value v) w':=by
 have hagg:(isAgg t).run P w'=.ok false w':=by
  unfold isAgg
  rw [Sem.run_bind,run_underlying hu w']
  cases d<;>simp_all
 unfold execOp
 simp [ho,hx,Instr.loadAt,Instr.sureAddr,loadVar,Sem.run_bind,hagg,load,Sem.run,hc]
theorem q6g {w:World} {a:Addr} {v:Value} (o:Obj) (h:w.cell? a=some v):(w.alloc o).cell? a=some v:=by
 rw [World.cell?_alloc_lt _ _ _ (World.block_lt_of_cell? w _ h)]
 exact h
theorem q3f {fn:Func} {t:Tmp} {ty:TypeId} (h:fn.results=#[.cell t ty]) (tmps:Array Value) (w:World) (b:Nat) (cs:List Value) (d:TypeDesc) (ht:tmps.getD t undef=.pointer (some ⟨b,0,none⟩)) (hc:w.rangeAt b 0 cs) (hu:Tryz.prog.underlying ty=some d) (hd:d.isRow=true) (hi:(Tryz.prog.info? ty).map (·.size)=some cs.length):
  (results fn tmps).run Tryz.prog w=.ok (.agg cs.toArray) w:=by
 have hl:=run_loadVar_mid (P:=Tryz.prog) w b 0 ty cs d hc hu hd hi
 simp only [Array.getD_eq_getD_getElem?] at ht
 simp [results,h,ht,hl,asAddr]
theorem eqIn_nil {P:Program} (w:World) (n:Nat) (t e:TypeId) (a:Option Addr) (l c:Nat) (h:P.underlying t=some (.slice e)):(Op.equalIn (n+1) t (.slice a l c) (.slice none 0 0)).run P w=.ok a.isNone w:=by
 cases a<;>simp [Op.equalIn,run_underlying h]
theorem eql_nil {P:Program} (w:World) (t e:TypeId) (a:Option Addr) (l c:Nat) (h:P.underlying t=some (.slice e)):(binOp .eql t (.slice a l c) (.slice none 0 0)).run P w=.ok (.bool a.isNone) w:=by
 have h1:(Op.equal t (.slice a l c) (.slice none 0 0)).run P w=.ok a.isNone w:=eqIn_nil w 9999 t e a l c h
 simp only [binOp]
 simp [h1]
theorem z4h {w w2:World} {o:Obj} {row:Option Nat} (hg:(w.alloc o).grownBy w2 row) (hr:∀k,row=some k->w.heap.size<=k):Below w.heap.size w w2:=
 ((Below.refl _ w).alloc (Nat.le_refl _) o).grown hg (by simp) hr
section keep
variable {P:Program} {md:Region.Mode} {ops:Array Oper} {Q:Exit->Act->World->Prop} {S:World->Prop}
theorem q0d {i:Nat} {o:Oper} {K:Act->World->Prop} {a:Act} {w:World} (ho:ops[i]?=some o) (hw:Region.wanted o (yielded ops a.tmps)=true) (h:Oper.wp P o a w K Q):wpOp P ops Q i K a w:=by
 unfold wpOp
 simp only [ho,hw,if_true]
 exact .inl h
theorem q0m {i:Nat} {fuel:Nat} {listed:Array Bool} {a:Act} {w:World} (hr:Region.ready md ops listed=[i]) (h:wpOp P ops Q i (fun a' w'=>S w'/\wpAnyH P md ops Q S fuel (listed.setIfInBounds i true) a' w') a w):wpAnyH P md ops Q S (fuel+1) listed a w:=by
 refine wpAnyH_all hr (by simp) (fun j hj=>?_)
 simp only [List.mem_cons,List.not_mem_nil,or_false] at hj
 subst hj
 exact h
theorem q2d {i j:Nat} {fuel:Nat} {listed:Array Bool} {a:Act} {w:World} (hr:Region.ready md ops listed=[i,j]) (h:wpOp P ops Q i (fun a' w'=>S w'/\wpAnyH P md ops Q S fuel (listed.setIfInBounds i true) a' w') a w)
  (h2:wpOp P ops Q j (fun a' w'=>S w'/\wpAnyH P md ops Q S fuel (listed.setIfInBounds j true) a' w') a w):wpAnyH P md ops Q S (fuel+1) listed a w:=by
 refine wpAnyH_all hr (by simp) (fun k hk=>?_)
 simp only [List.mem_cons,List.not_mem_nil,or_false] at hk
 rcases hk with rfl | rfl
 ·exact h
 ·exact h2
theorem q1g {id:Nat} {a:Act} {w:World} (hm:P.follows .mixedOrders=true) (h:∀wd,wd=w.drew->wpAnyH P .any ops Q S ops.size (Array.replicate ops.size false) a wd):(Code.region id ops true).wp P Q a w:=
 wp_region_held (S:=S) hm (h _ rfl)
theorem take_s {i:Nat} {oi:Oper} {v:Value} {fuel:Nat} {listed:Array Bool} {a:Act} {w:World} (hi:ops[i]?=some oi)
  (hs:Region.noSelect ops=true) (hf:Region.free md ops listed i=true) (hr:(Region.ready md ops listed).contains i=true)
  (hQ:∀c a w,Q (.panic c) (a.put oi.dst v) w->Q (.panic c) a w) (hw:Region.wanted oi (yielded ops a.tmps)=true)
  (hv:∀w',S w'->(execOp a.eval oi).run P w'=.ok (.value v) w') (hS:S w)
  (h:wpAnyH P md ops Q S fuel (listed.setIfInBounds i true) (a.put oi.dst v) w):wpAnyH P md ops Q S (fuel+1) listed a w:=
 wpAnyH_take hi hs hf hr hQ (Or.inl ⟨hw,hv⟩) hS h
theorem take_x {i:Nat} {oi:Oper} {v:Value} {fuel:Nat} {listed:Array Bool} {a:Act} {w:World} (hi:ops[i]?=some oi) (hv:∀w',S w'->(execOp a.eval oi).run P w'=.ok (.value v) w') (hS:S w)
  (h:wpAnyH P md ops Q S fuel (listed.setIfInBounds i true) (a.put oi.dst v) w) (hs:Region.noSelect ops=true:=by kernel_rfl) (hf:Region.free md ops listed i=true:=by kernel_rfl) (hr:(Region.ready md ops listed).contains i=true:=by kernel_rfl)
  (hQ:∀c a w,Q (.panic c) (a.put oi.dst v) w->Q (.panic c) a w:=by exact fun _ _ _ h=>h) (hw:Region.wanted oi (yielded ops a.tmps)=true:=by rfl):wpAnyH P md ops Q S (fuel+1) listed a w:=
 take_s hi hs hf hr hQ hw hv hS h
theorem take_y {i:Nat} {oi:Oper} {v:Value} {fuel:Nat} {listed:Array Bool} {a:Act} {w:World} (hi:ops[i]?=some oi) (hS:S w)
 (h:wpAnyH P md ops Q S fuel (listed.setIfInBounds i true) (a.put oi.dst v) w) (hv:∀w',S w'->(execOp a.eval oi).run P w'=.ok (.value v) w':=by rintro w' -;go_simp<;>with_reducible rfl) (hs:Region.noSelect ops=true:=by kernel_rfl) (hf:Region.free md ops listed i=true:=by kernel_rfl) (hr:(Region.ready md ops listed).contains i=true:=by kernel_rfl)
 (hQ:∀c a w,Q (.panic c) (a.put oi.dst v) w->Q (.panic c) a w:=by exact fun _ _ _ h=>h) (hw:Region.wanted oi (yielded ops a.tmps)=true:=by rfl):wpAnyH P md ops Q S (fuel+1) listed a w:=
 take_s hi hs hf hr hQ hw hv hS h
end keep
structure Im where
 blk:Int
 ba:Option Addr
 bl:Nat
 bc:Nat
 bs:List Int
def imc (m:Im):List Value:=[.int .u64 m.blk,.slice m.ba m.bl m.bc]
structure Rc where
 m:Im
 l:Bool
def rcc (r:Rc):List Value:=[.int .u64 r.m.blk,.slice r.m.ba r.m.bl r.m.bc,.bool r.l]
def ic (x:Int × List Int):List Value:=[.int .u64 x.1,.string (strOfNums x.2)]
def rrc (x:(Int × List Int) × Bool):List Value:=[.int .u64 x.1.1,.string (strOfNums x.1.2),.bool x.2]
def pl (m:Im):Int × List Int:=(m.blk,m.bs)
def rpl (r:Rc):(Int × List Int) × Bool:=(pl r.m,r.l)
def N64 (x:Int):Prop:=0<=x/\x<=18446744073709551615
theorem one_imc (m:Im):∀u∈imc m,u.oneCell'=true:=by
 intro u hu
 simp only [imc,List.mem_cons,List.not_mem_nil,or_false] at hu
 rcases hu with rfl | rfl<;>rfl
def Tb {α:Type} (w:World) (a:Option Addr) (sz:Nat) (f:α->List Value) (M:List α):Prop:=
 0<M.length->∃b o,a=some ⟨b,o,none⟩/\b<w.heap.size/\∀i (h:i<M.length),w.rangeAt b (o+i*sz) (f M[i])
theorem q2n {w w':World} {b o B:Nat} {cs:List Value} (hb:Below B w w') (h:w.rangeAt b o cs) (hlt:b<B):w'.rangeAt b o cs:=fun j v hv=>(hb.cell hlt).trans (h j v hv)
theorem Tb.below {α:Type} {w w':World} {a:Option Addr} {sz:Nat} {f:α->List Value} {M:List α} (h:Tb w a sz f M) (hb:Below w.heap.size w w'):Tb w' a sz f M:=fun hp=>by
 obtain ⟨b,o,e,hlt,hr⟩:=h hp
 exact ⟨b,o,e,Nat.lt_of_lt_of_le hlt hb.size,fun i hi=>q2n hb (hr i hi) hlt⟩
theorem q2k {α:Type} (f:α->List Value) (sz:Nat) (hf:∀x,(f x).length=sz) (M:List α):(M.map f).flatten.length=M.length*sz:=by
 rw [q6i _ sz (fun x hx=>by obtain ⟨y,_,rfl⟩:=List.mem_map.1 hx;exact hf y),List.length_map]
theorem q6o {α:Type} (f:α->List Value) (sz:Nat) (hf:∀x,(f x).length=sz) (M:List α) (i:Nat) (hi:i<M.length) (j:Nat) (hj:j<sz):(M.map f).flatten[i*sz+j]?=(f M[i])[j]?:=by
 have:=q6h (M.map f) sz (fun x hx=>by obtain ⟨y,_,rfl⟩:=List.mem_map.1 hx;exact hf y) i (by simpa using hi) j hj
 rw [Nat.mul_comm i sz,this]
 simp
theorem q6f {α:Type} {w:World} {B n c:Nat} {e:TypeId} {sz:Nat} {a:Option Addr} {f:α->List Value} {M:List α} (hf:∀x,(f x).length=sz) (h:w.ownsRow B e sz (.slice a n c) n (M.map f).flatten) (hn:M.length=n):Tb w a sz f M:=fun hp=>by
 have h':=h
 rcases h.2 with ⟨_,h0⟩ | ⟨g,cap,cur,h3,_,hg,_⟩
 ·omega
 ·simp only [Value.slice.injEq,true_and] at h3
  obtain ⟨rfl,rfl⟩:=h3
  refine ⟨g,0,rfl,(gE hg),fun i hi j v hv=>?_⟩
  have hj:j<sz:=by
   have:=(List.getElem?_eq_some_iff.1 hv).1
   rw [hf] at this
   exact this
  have h4:=h'.cells (g:=g) rfl (i*sz+j) v (by rw [q6o f sz hf M i hi j hj];exact hv)
  rw [Addr.add_lit] at h4
  rw [show 0+i*sz+j=0+(i*sz+j) by omega]
  exact h4
theorem q2v {w w':World} {base n:Nat} {e:TypeId} {sz:Nat} {v:Value} {xs:List Value} (h:w.ownsRow base e sz v n xs) (hb:Below w.heap.size w w'):w'.ownsRow base e sz v n xs:=q0j h (fun k hk=>hb.block k (h.lt k hk).2)
theorem q2u {w:World} {base base' n:Nat} {e:TypeId} {sz:Nat} {v:Value} {xs:List Value} (h:w.ownsRow base e sz v n xs) (hb:base'<=base):w.ownsRow base' e sz v n xs:=by
 refine ⟨h.1,?_⟩
 rcases h.2 with hn | ⟨g,cap,cur,rfl,hbb,rest⟩
 ·exact .inl hn
 ·exact .inr ⟨g,cap,cur,rfl,Nat.le_trans hb hbb,rest⟩
theorem q1j {w:World} {base n:Nat} {e:TypeId} {sz:Nat} {v:Value} {xs:List Value} (h:w.ownsRow base e sz v n xs):∀k,v.ownBlock=some k->base<=k/\∃cur,w.heap[k]?=some (.cells cur e (0,0)):=by
 intro k hk
 rcases h.2 with ⟨rfl,_⟩ | ⟨g,cap,cur,rfl,hb,hg,_⟩
 ·cases hk
 ·cases hk
  exact ⟨hb,cur,hg⟩
theorem own_ne {w:World} {base n base' n':Nat} {e e':TypeId} {sz sz':Nat} {v v':Value} {xs xs':List Value} (h:w.ownsRow base e sz v n xs) (h':w.ownsRow base' e' sz' v' n' xs') (hne:e≠e'):∀k,v.ownBlock=some k->v'.ownBlock≠some k:=fun k hk hk'=>by
 obtain ⟨_,c1,h1⟩:=q1j h k hk
 obtain ⟨_,c2,h2⟩:=q1j h' k hk'
 rw [h1] at h2
 simp only [Option.some.injEq,Obj.cells.injEq] at h2
 exact hne h2.2.1
structure Imgs (w:World) (a:Option Addr) (M:List Im):Prop where
 tb:Tb w a 2 imc M
 byt:∀m∈M,Bytes w m.ba m.bl m.bs/\N64 m.blk/\m.bl<=m.bc/\m.bc<=maxLen
theorem Imgs.below {w w':World} {a:Option Addr} {M:List Im} (h:Imgs w a M) (hb:Below w.heap.size w w'):Imgs w' a M:=
 ⟨h.tb.below hb,fun m hm=>⟨(h.byt m hm).1.below hb,(h.byt m hm).2⟩⟩
structure OIm (w:World) (B:Nat) (m:Im):Prop where
 own:w.ownsRow B 5 1 (.slice m.ba m.bl m.bc) m.bl (m.bs.map (Value.int .u8))
 byt:Byt m.bs
 num:N64 m.blk
theorem OIm.to {w w':World} {B:Nat} {m:Im} (h:OIm w B m) (hb:Below w.heap.size w w'):OIm w' B m:=⟨q2v h.own hb,h.byt,h.num⟩
theorem OIm.low {w:World} {B B':Nat} {m:Im} (h:OIm w B m) (hb:B'<=B):OIm w B' m:=⟨q2u h.own hb,h.byt,h.num⟩
theorem OIm.byi {w:World} {B:Nat} {m:Im} (h:OIm w B m):Bytes w m.ba m.bl m.bs/\N64 m.blk/\m.bl<=m.bc/\m.bc<=maxLen:=
 ⟨q2p h.own h.byt,h.num,own_cap h.own⟩
theorem OIm.grown {w w':World} {B B' n:Nat} {e:TypeId} {sz:Nat} {v:Value} {xs:List Value} {m:Im} (h:OIm w B m) (hv:w.ownsRow B' e sz v n xs) (he:e≠5) (hg:w.grownBy w' v.ownBlock):OIm w' B m:=
 ⟨q0j h.own (fun k hk=>hg.block k (h.own.lt k hk).2 (fun e'=>own_ne hv h.own he k e'.symm hk)),h.byt,h.num⟩
structure OImgs (w:World) (B:Nat) (v:Value) (M:List Im):Prop where
 row:w.ownsRow B 79 2 v M.length (M.map imc).flatten
 byt:∀m∈M,OIm w B m
theorem OImgs.to {w w':World} {B:Nat} {v:Value} {M:List Im} (h:OImgs w B v M) (hb:Below w.heap.size w w'):OImgs w' B v M:=⟨q2v h.row hb,fun m hm=>(h.byt m hm).to hb⟩
theorem OImgs.imgs {w:World} {B c:Nat} {a:Option Addr} {M:List Im} (h:OImgs w B (.slice a M.length c) M):Imgs w a M:=⟨q6f (fun _=>rfl) h.row rfl,fun m hm=>(h.byt m hm).byi⟩
structure ORecs (w:World) (B:Nat) (v:Value) (R:List Rc):Prop where
 row:w.ownsRow B 95 3 v R.length (R.map rcc).flatten
 byt:∀r∈R,OIm w B r.m
theorem ORecs.to {w w':World} {B:Nat} {v:Value} {R:List Rc} (h:ORecs w B v R) (hb:Below w.heap.size w w'):ORecs w' B v R:=⟨q2v h.row hb,fun m hm=>(h.byt m hm).to hb⟩
theorem zeroIm:(Tryz.prog.info? 79).map (·.zero)=some (some (.agg #[.int .u64 0,.slice none 0 0])):=by kernel_rfl
theorem infoIm:(Tryz.prog.info? 79).map (·.size)=some 2:=by kernel_rfl
theorem infIm:(Tryz.prog.info? 79).map (fun i=>(i.zero,i.size,i.bytes))=some (some (.agg #[.int .u64 0,.slice none 0 0]),2,32):=by kernel_rfl
theorem zeroRc:(Tryz.prog.info? 95).map (·.zero)=some (some (.agg #[.int .u64 0,.slice none 0 0,.bool false])):=by kernel_rfl
theorem infoRc:(Tryz.prog.info? 95).map (·.size)=some 3:=by kernel_rfl
theorem infRc:(Tryz.prog.info? 95).map (fun i=>(i.zero,i.size,i.bytes))=some (some (.agg #[.int .u64 0,.slice none 0 0,.bool false]),3,40):=by kernel_rfl
theorem q0p {op:Oper} {ρ:Operand->Value} {w':World} (t e:TypeId) (hu:Tryz.prog.underlying t=some (.slice e)) (sz:Nat) (hi:(Tryz.prog.info? e).map (·.size)=some sz) (x y:Operand) (ho:op.op=.indexAddr t x y) (b o len cap j:Nat) (hx:ρ x=.slice (some ⟨b,o,none⟩) len cap) (hy:ρ y=.int .i64 (j:Int)) (hj:j<len):
  (execOp ρ op).run Tryz.prog w'=.ok (.value (.pointer (some ⟨b,o+j*sz,none⟩))) w':=by
 have hc:(0:Int)<=(j:Int)/\(j:Int)<(len:Int):=by omega
 have hs:(sizeOf e).run Tryz.prog w'=.ok sz w':=by
  cases hq:Tryz.prog.info? e with
  | none=>simp [hq] at hi
  | some i=>
   have h1:i.size=sz:=by simpa [hq] using hi
   simp [sizeOf,typeInfo,hq,h1]
 unfold execOp
 simp [ho,hx,hy,Instr.indexAt,asIntOf,Sem.run_bind,run_underlying hu,hc,Addr.add_mid,hs]
 intro hh;omega
theorem z6x (w:World):(w.alloc (.cells #[] 5)).ownsRow w.heap.size 5 1 (.slice (some ⟨w.heap.size,0,none⟩) 0 0) 0 []:=
 ⟨rfl,.inr ⟨w.heap.size,0,#[],rfl,Nat.le_refl _,q0g rfl,Nat.le_refl _,by unfold maxLen;omega,by simp,by simp⟩⟩
set_option maxRecDepth 20000 in
set_option maxHeartbeats 1000000 in
theorem z1s (a:Option Addr) (n cap:Nat) (L:List Int) (w:World) (h:Bytes w a n L) (hl:n<1000000):
  Calls Tryz.prog 64 #[.slice a n cap] w fun e w'=>∃a' c',e=.returned (.slice a' n c')/\w'.ownsRow w.heap.size 5 1 (.slice a' n c') n (L.map (Value.int .u8))/\Below w.heap.size w w':=by
 obtain ⟨i0,hi,hz0,hz1,hz2⟩:=info_parts info5
 cases a with
 | none=>
  have hn:n=0:=by
   by_cases hm:n=0
   ·exact hm
   ·obtain ⟨_,_,he,_⟩:=h.2.2 (by omega)
    cases he
  subst hn
  obtain rfl:L=[]:=List.eq_nil_of_length_eq_zero h.1
  have hq:∀x,(binOp .eql 57 (.slice none 0 cap) (.slice none 0 0)).run Tryz.prog x=.ok (.bool true) x:=fun x=>eql_nil x 57 _ none 0 cap Tryz.underlying57
  clear h hl
  go_enter Tryz.func64,Tryz.ntmps64
  go_wp2
  go_ret
  exact ⟨_,_,rfl,World.ownsRow_nil _ _ _ _,Below.refl _ _⟩
 | some ad=>
  have HB:Box ((0+n)*1<=140737488355328):=⟨by omega⟩
  have HN:Box ((L.map (Value.int .u8)).length=n*1):=⟨by simp [h.1]⟩
  have HO:Box (∀u∈L.map (Value.int .u8),u.oneCell'=true):=⟨ints_oneCell _ _⟩
  have HC:Box (∀j u,(L.map (Value.int .u8))[j]?=some u->w.cell? (ad.add j)=some u):=⟨q5s h⟩
  have hq:∀x,(binOp .eql 57 (.slice (some ad) n cap) (.slice none 0 0)).run Tryz.prog x=.ok (.bool false) x:=fun x=>eql_nil x 57 _ _ _ _ Tryz.underlying57
  clear h hl
  go_enter Tryz.func64,Tryz.ntmps64
  go_wp2_with (at_builtin;refine wpList_append_own _ rfl _ _ 57 rfl w.heap.size 5 i0 (.int .u8 0) 1 1 Tryz.underlying57 hi hz0 hz1 hz2 rfl (by decide) _ 0 [] rfl (z6x w) ad n cap (L.map (Value.int .u8)) rfl HN.out (fun j u hj=>q6g _ (HC.out j u hj)) HO.out (by unfold maxLen;have:=HB.out;omega) HB.out (by simp) ?_;intro v' w2 hown hgr _;have HX:Box (_/\_):=⟨hown,hgr⟩;clear hown hgr)
  go_ret
  obtain ⟨x1,x2⟩:=HX.out
  rw [Nat.zero_add,List.nil_append] at x1
  obtain ⟨a',c',rfl⟩:=q1z x1
  have hz:∀k,Value.ownBlock (.slice (some ⟨w.heap.size,0,none⟩) 0 0)=some k->w.heap.size<=k:=fun k hk=>by simp [Value.ownBlock] at hk;omega
  exact ⟨a',c',rfl,x1,z4h x2 hz⟩
set_option maxHeartbeats 400000 in
theorem q6w (m:Im) (b:Bool) (hb:((m.bl:Int)==160)=b) (w:World):
  Calls Tryz.prog 68 #[.agg (imc m).toArray] w fun e w'=>e=.returned (.bool b)/\Below w.heap.size w w':=by
 have hb1:Below w.heap.size w (w.alloc (.cells (imc m).toArray 79)):=(Below.refl _ _).alloc (Nat.le_refl _) _
 have c1:(w.alloc (.cells (imc m).toArray 79)).cell? ⟨w.heap.size,1,none⟩=some (.slice m.ba m.bl m.bc):=by rw [cell_of_row _ _ _ _ _ _ (q0g rfl)];rfl
 have HB:Box _:=⟨hb1⟩
 obtain ⟨S,HS⟩:∃S,Box (w.heap.size=S):=⟨_,⟨rfl⟩⟩
 clear hb1
 go_enter Tryz.func68,Tryz.ntmps68
 go_upto_region 1 with fail
 generalize w.alloc (.cells (imc m).toArray 79)=w1 at HB c1 ⊢
 rw [HS.out] at c1 ⊢
 go_wp2
 go_ret
 exact ⟨rfl,HB.out⟩
set_option maxHeartbeats 400000 in
theorem head_any (b:Bool) (w:World):Calls Tryz.prog 94 #[.bool b] w fun e w'=>e=.returned (.int .u64 (if b then 257 else 1))/\w=w':=by
 cases b
 ·go_enter Tryz.func94,Tryz.ntmps94
  go_wp2
  go_ret
  exact ⟨rfl,rfl⟩
 ·go_enter Tryz.func94,Tryz.ntmps94
  go_wp2
  go_ret
  exact ⟨rfl,rfl⟩
theorem q0t (b:Nat):∀(vs:List Value) (o:Nat) (w0 w:World),But b w0 w->But b w0 (w.setCells b o vs)
 | [],_,_,_,h=>h
 | v::r,o,w0,w,h=>q0t b r (o+1) w0 _ (h.setCell o v)
theorem q2y {G:Nat} {w w':World} (h:But G w w') {a:Addr} {v:Value} (hc:w.cell? a=some v) (hn:a.block≠G):w'.cell? a=some v:=
 (World.cell?_of_block (h.block a.block (World.block_lt_of_cell? w a hc) hn)).trans hc
theorem q3c {G:Nat} {w w':World} (h:But G w w') {b o:Nat} {cs:List Value} (hc:w.rangeAt b o cs) (hn:b≠G):w'.rangeAt b o cs:=fun j v hv=>q2y h (hc j v hv) hn
theorem q1i {B G:Nat} {w w1 w2:World} (h:Below B w w1) (k:But G w1 w2) (hG:B<=G) (hB:B<=w1.heap.size):Below B w w2:=h.trans (k.below hG hB)
def Owned (w w':World) (m m':Im):Prop:=pl m'=pl m/\m'.bl=m.bl/\OIm w' w.heap.size m'/\Below w.heap.size w w'
theorem q3r (b:Int) (a:Option Addr) (l c:Nat):Tryz.prog.built 79 [(0,.int .u64 b),(1,.slice a l c)]=some #[.int .u64 b,.slice a l c]:=by kernel_rfl
set_option maxHeartbeats 1000000 in
theorem z1m (m:Im) (w:World) (h:Bytes w m.ba m.bl m.bs) (hn:N64 m.blk) (hl:m.bl<1000000):
  Calls Tryz.prog 69 #[.agg (imc m).toArray] w fun e w'=>∃m',e=.returned (.agg (imc m').toArray)/\Owned w w' m m':=by
 obtain ⟨S,hS0⟩:=nm w.heap.size
 obtain ⟨w1,hw1⟩:=nm (w.alloc (.cells (imc m).toArray 79))
 obtain ⟨w2,hw2⟩:=nm (w1.alloc (.cells #[.int .u64 0,.slice none 0 0] 79))
 have hs1:w1.heap.size=S+1:=by rw [<-hw1];simp [hS0]
 have hs2:w2.heap.size=S+2:=by rw [<-hw2];simp [hs1]
 have hb1:Below w.heap.size w w1:=by rw [<-hw1];exact (Below.refl _ _).alloc (Nat.le_refl _) _
 have hb2:Below w.heap.size w w2:=by rw [<-hw2];exact hb1.alloc hb1.size _
 have r1:w2.heap[S]?=some (.cells (imc m).toArray 79 (0,0)):=by rw [<-hw2];exact q0i (by rw [<-hw1];exact q0g hS0)
 have r2:w2.heap[S+1]?=some (.cells #[.int .u64 0,.slice none 0 0] 79 (0,0)):=by rw [<-hw2];exact q0g hs1
 have HK:Box (∀x,Below w2.heap.size w2 x->x.cell? ⟨S,0,none⟩=some (.int .u64 m.blk)/\x.cell? ⟨S,1,none⟩=some (.slice m.ba m.bl m.bc)):=⟨fun x hx=>by
  have r:=(hx.block S (by omega)).trans r1
  exact ⟨by rw [cell_of_row _ _ _ _ _ _ r];rfl,by rw [cell_of_row _ _ _ _ _ _ r];rfl⟩⟩
 have HR:Box (∀x,Below w2.heap.size w2 x->x.heap[S+1]?=some (.cells #[.int .u64 0,.slice none 0 0] 79 (0,0))):=⟨fun x hx=>(hx.block (S+1) (by omega)).trans r2⟩
 have HC:Box (∀x,Below w2.heap.size w2 x->Calls Tryz.prog 64 #[.slice m.ba m.bl m.bc] x fun e w'=>∃a' c',e=.returned (.slice a' m.bl c')/\w'.ownsRow x.heap.size 5 1 (.slice a' m.bl c') m.bl (m.bs.map (Value.int .u8))/\Below x.heap.size x w'):=⟨fun x hx=>z1s m.ba m.bl m.bc m.bs x (h.below (q0a hb2 hx)) hl⟩
 have HB2:Box (Below w.heap.size w w2/\w.heap.size=S/\w2.heap.size=S+2/\Byt m.bs/\N64 m.blk):=⟨hb2,hS0,hs2,h.2.1,hn⟩
 clear hb1 hb2 r1 r2 h hl hn hs2
 go_enter Tryz.func69,Tryz.ntmps69
 go_upto_region 1 with (refine atAlloc _ ?_;refine q0b rfl _ _ (q0e 79 rfl _ zeroIm) ?_)
 (try simp only [hs1,hw2,Act.put,List.setIfInBounds_toArray,List.set_cons_zero,List.set_cons_succ])
 (try simp only [hw2])
 clear hw1 hw2 hS0 hs1
 refine q1g (S:=fun x=>x.cell? ⟨S,0,none⟩=some (.int .u64 m.blk)/\x.cell? ⟨S,1,none⟩=some (.slice m.ba m.bl m.bc)) (by kernel_rfl) (fun wd hwd=>?_)
 have hbd:Below w2.heap.size w2 wd:=by rw [hwd];exact (Below.refl _ _).drew
 clear hwd
 have hS:=HK.out wd hbd
 refine take_y (i:=0) rfl hS ?_
 try simp only [Act.put,pC,pD,pE,pF,pG]
 refine take_x (i:=1) (v:=.int .u64 m.blk) rfl (fun w' hLat=>q0w 25 _ _ rfl Tryz.underlying25 rfl _ rfl _ hLat.1) hS ?_
 try simp only [Act.put,pC,pD,pE,pF,pG,pH]
 refine take_y (i:=2) rfl hS ?_
 try simp only [Act.put,pC,pD,pE,pF,pG,pH]
 refine take_x (i:=3) (v:=.slice m.ba m.bl m.bc) rfl (fun w' hLat=>q0w 57 _ _ rfl Tryz.underlying57 rfl _ rfl _ hLat.2) hS ?_
 try simp only [Act.put,pC,pD,pE,pF,pG,pH]
 refine q0m (i:=4) (by kernel_rfl) ?_
 refine q0d rfl (by rfl) ?_
 go_simp
 refine Calls.mono (HC.out wd hbd) ?_
 rintro e x1 ⟨a',c',rfl,ho,hb1⟩
 have hbx:=q0a hbd hb1
 have hS:=HK.out x1 hbx
 refine ⟨hS,?_⟩
 try simp only [Act.put,pC,pD,pE,pF,pG,pH]
 refine take_x (i:=5) (v:=.agg #[.int .u64 m.blk,.slice a' m.bl c']) rfl (fun w' hLat=>q0n 79 [(0,.tmp 4),(1,.tmp 7)] rfl [(0,.int .u64 m.blk),(1,.slice a' m.bl c')] rfl _ (q3r _ _ _ _)) hS ?_
 try simp only [Act.put,pC,pD,pE,pF,pG,pH]
 refine q0m (i:=6) (by kernel_rfl) ?_
 refine q0d rfl (by rfl) ?_
 refine wp_store_mid 79 (.tmp 2) (.tmp 8) rfl (S+1) 0 #[.int .u64 m.blk,.slice a' m.bl c'] rfl rfl (q0z (HR.out x1 hbx) (Nat.le_refl _)) infoIm (by simp [Value.oneCell']) ?_
 obtain ⟨y,hy⟩:=nm (x1.setCells (S+1) 0 #[.int .u64 m.blk,.slice a' m.bl c'].toList)
 rw [hy]
 have hbut:But (S+1) x1 y:=by rw [<-hy];exact q0t _ _ _ _ _ (But.refl _ _)
 have hry:y.heap[S+1]?=some (.cells #[.int .u64 m.blk,.slice a' m.bl c'] 79 (0,0)):=by rw [<-hy,q1h (S+1) _ _ 0 _ _ (HR.out x1 hbx) (Nat.le_refl _)];rfl
 have hS2:=hS
 have hS:=And.intro (q2y hbut hS2.1 (by show S≠S+1;omega)) (q2y hbut hS2.2 (by show S≠S+1;omega))
 refine ⟨hS,?_⟩
 try simp only [Act.put,pF,pG,pH]
 refine wpAnyH_done (by kernel_rfl) ?_ _
 have HY:Box (y.rangeAt (S+1) 0 [.int .u64 m.blk,.slice a' m.bl c']):=⟨q2a hry _ (fun j v hv=>by simpa using hv)⟩
 have HO:Box (Owned w y m ⟨m.blk,a',m.bl,c',m.bs⟩):=⟨rfl,rfl,⟨q2u (q0j ho (fun k hk=>hbut.block k (ho.lt k hk).2 (fun e=>by have:=(ho.lt k hk).1;have:=hbd.size;have:=HB2.out.2.2.1;omega))) (by have:=hbd.size;have:=HB2.out.2.2.1;have:=HB2.out.2.1;omega),HB2.out.2.2.2.1,HB2.out.2.2.2.2⟩,q1i (q0a HB2.out.1 hbx) hbut (by have:=HB2.out.2.1;omega) (by have:=HB2.out.1.size;have:=hbx.size;omega)⟩
 clear hry hbut ho hb1 hbd hbx hS hS2 hy
 go_wp2
 refine bodyPost_ret (q3f (t:=2) rfl _ _ (S+1) [.int .u64 m.blk,.slice a' m.bl c'] _ rfl HY.out Tryz.underlying79 rfl infoIm) rfl ?_
 exact ⟨⟨m.blk,a',m.bl,c',m.bs⟩,rfl,HO.out⟩
def hd (l:Bool):Int:=if l then 257 else 1
def putP (x:(Int × List Int) × Bool):List Int:=bytesOf (hd x.2) 8++bytesOf x.1.1 8++x.1.2
theorem hd_bd (l:Bool):N64 (hd l):=by cases l<;>exact ⟨by decide,by decide⟩
theorem z0y (x:(Int × List Int) × Bool) (h:Byt x.1.2):Byt (putP x):=q1x _ _ (q1x _ _ (q1e _ _) (q1e _ _)) h
theorem q8e (x:(Int × List Int) × Bool) (h:x.1.2.length=160):(putP x).length=176:=by simp [putP,q0f,h]
theorem z8d (x:Int) (w:World) (hx:N64 x):
  Calls Tryz.prog 63 #[.int .u64 x,.int .i64 8] w fun e w'=>∃g,e=.returned (.slice (some ⟨g,0,none⟩) 8 8)/\Bytes w' (some ⟨g,0,none⟩) 8 (bytesOf x 8)/\Below w.heap.size w w':=
 (z5m x 8 w hx.1 hx.2 (by omega) (by omega)).mono fun e w' ⟨g,he,ho⟩=>⟨g,he,ho.bytes (q1e _ 8),ho.2.2⟩
theorem hd_any (l:Bool) (w:World):Calls Tryz.prog 94 #[.bool l] w fun e w'=>e=.returned (.int .u64 (hd l))/\w=w':=head_any l w
def Pu (w1 wr:World) (B:Nat) (v:Value) (n:Nat) (A:List Int):Prop:=
 wr.ownsRow B 5 1 v n (A.map (Value.int .u8))/\Below B w1 wr/\B<=wr.heap.size
theorem Pu.below {w1 wr w':World} {B n:Nat} {v:Value} {A:List Int} (h:Pu w1 wr B v n A) (hb:Below wr.heap.size wr w'):Pu w1 w' B v n A:=
 ⟨q7e h.1 hb,h.2.1.trans (hb.mono h.2.2),Nat.le_trans h.2.2 hb.size⟩
theorem Pu.app {w1 wr w':World} {B n m:Nat} {v v':Value} {A L:List Int} (h:Pu w1 wr B v n A) (hw:Box (w'.ownsRow B 5 1 v' (n+m) ((A++L).map (Value.int .u8))/\Below B wr w'/\B<=w'.heap.size)):Pu w1 w' B v' (n+m) (A++L):=
 ⟨hw.out.1,h.2.1.trans hw.out.2.1,hw.out.2.2⟩
set_option maxRecDepth 20000 in
set_option maxHeartbeats 1000000 in
theorem rcput_ok (r:Rc) (w:World) (h:Bytes w r.m.ba r.m.bl r.m.bs) (hn:N64 r.m.blk) (hl:r.m.bl=160):
  Calls Tryz.prog 73 #[.agg (rcc r).toArray] w fun e w'=>∃a c,e=.returned (.tuple #[.slice a 176 c,.int .i64 0])/\w'.ownsRow w.heap.size 5 1 (.slice a 176 c) 176 ((putP (rpl r)).map (Value.int .u8))/\Below w.heap.size w w':=by
 obtain ⟨i0,hi,hz0,hz1,hz2⟩:=info_parts info5
 obtain ⟨S,hS⟩:=nm w.heap.size
 obtain ⟨w1,hw1⟩:=nm (w.alloc (.cells (rcc r).toArray 95))
 have hb1:Below w.heap.size w w1:=by rw [<-hw1];exact (Below.refl _ _).alloc (Nat.le_refl _) _
 have hs1:w1.heap.size=S+1:=by rw [<-hw1];simp [hS]
 have r1:w1.heap[S]?=some (.cells (rcc r).toArray 95 (0,0)):=by rw [<-hw1];exact q0g hS
 obtain ⟨⟨blk,ba,bl,bc,bs⟩,last⟩:=r
 simp only at h hn hl
 subst hl
 have HR:Box (∀x,Below (S+1) w1 x->x.cell? ⟨S,0,none⟩=some (.int .u64 blk)/\x.cell? ⟨S,1,none⟩=some (.slice ba 160 bc)/\x.cell? ⟨S,2,none⟩=some (.bool last)/\x.rangeAt S 0 (imc ⟨blk,ba,160,bc,bs⟩)/\Bytes x ba 160 bs):=⟨fun x hx=>by
  have r:=(hx.block S (by omega)).trans r1
  refine ⟨by rw [cell_of_row _ _ _ _ _ _ r];rfl,by rw [cell_of_row _ _ _ _ _ _ r];rfl,by rw [cell_of_row _ _ _ _ _ _ r];rfl,q2a r _ (fun j v hv=>?_),h.below (hb1.trans (hx.mono (by omega)))⟩
  match j,hv with
  | 0,hv=>simpa [imc,rcc] using hv
  | 1,hv=>simpa [imc,rcc] using hv
  | j+2,hv=>simp [imc] at hv⟩
 have HB:Box (Below w.heap.size w w1/\w1.heap.size=S+1/\w.heap.size=S):=⟨hb1,hs1,hS⟩
 have H1:=HR.out w1 (Below.refl _ _)
 have HR1:Box (w1.rangeAt S 0 (imc ⟨blk,ba,160,bc,bs⟩)):=⟨H1.2.2.2.1⟩
 clear H1 hb1 r1 hs1 h
 go_enter Tryz.func73,Tryz.ntmps73
 go_upto_region 1 with fail
 (try simp only [hw1,hS])
 clear hw1 hS
 go_upto_region 4 with (first
  | (refine atLoad 79 ?_;refine q0c rfl 79 _ _ rfl Tryz.underlying79 rfl S 0 rfl (imc ⟨blk,ba,160,bc,bs⟩) infoIm HR1.out ?_)
  | (go_at_call 68;refine (q6w ⟨blk,ba,160,bc,bs⟩ true rfl _).mono ?_;rintro e x1 ⟨rfl,hbx⟩;have HX:Box (Below (S+1) w1 x1/\S+1<=x1.heap.size):=⟨HB.out.2.1▸hbx,HB.out.2.1▸hbx.size⟩;clear hbx)
  | (at_make;refine wpList_make_own _ rfl _ _ 57 rfl (S+1) 5 i0 (.int .u8 0) 1 Tryz.underlying57 hi hz0 hz1 .i64 .i64 176 176 rfl rfl rfl (by rw [hz2];decide) (by decide) HX.out.2 ?_;intro x2 hown hgr;have H2:Box (Pu w1 x2 (S+1) (.slice (some ⟨x1.heap.size,0,none⟩) 0 176) 0 []):=⟨hown,HX.out.1.grown hgr HX.out.2 (by simp),Nat.le_trans HX.out.2 hgr.size⟩;clear hown hgr))
 obtain ⟨g2,hg2⟩:=nm x1.heap.size
 rw [hg2] at H2
 rw [hg2]
 clear hg2 HX HR1
 have c2:=(HR.out x2 H2.out.2.1).2.2.1
 go_upto_region 5 with (first
  | (go_at_call 94;refine (hd_any last _).mono ?_;rintro e x3 ⟨rfl,rfl⟩;clear c2)
  | (go_at_call 63;refine (z8d (hd last) _ (hd_bd last)).mono ?_;rintro e x3 ⟨g3,rfl,hB,hb⟩;have H3:Box (Pu w1 x3 (S+1) (.slice (some ⟨g2,0,none⟩) 0 176) 0 []/\Bytes x3 (some ⟨g3,0,none⟩) 8 (bytesOf (hd last) 8)):=⟨H2.out.below hb,hB⟩;clear hB hb)
  | (at_builtin;refine q1m rfl (.tmp 10) (.tmp 14) rfl (S+1) 0 8 8 _ [] (bytesOf (hd last) 8) _ x3 rfl rfl H3.out.1.1 H3.out.2 (by decide) (Below.refl _ _) H3.out.1.2.2 ?_;intro v4 x4 h4;have H4:Box (Pu w1 x4 (S+1) v4 (0+8) ([]++bytesOf (hd last) 8)):=⟨H3.out.1.app h4⟩;clear h4))
 rw [Nat.zero_add,List.nil_append] at H4
 clear H2 H3
 have c0:=(HR.out x4 H4.out.2.1).1
 go_upto_region 6 with (first
  | (go_at_call 63;refine (z8d blk _ hn).mono ?_;rintro e x5 ⟨g5,rfl,hB,hb⟩;have H5:Box (Pu w1 x5 (S+1) v4 8 (bytesOf (hd last) 8)/\Bytes x5 (some ⟨g5,0,none⟩) 8 (bytesOf blk 8)):=⟨H4.out.below hb,hB⟩;clear hB hb c0)
  | (at_builtin;refine q1m rfl (.tmp 16) (.tmp 20) rfl (S+1) 8 8 8 _ (bytesOf (hd last) 8) (bytesOf blk 8) _ x5 rfl rfl H5.out.1.1 H5.out.2 (by decide) (Below.refl _ _) H5.out.1.2.2 ?_;intro v6 x6 h6;have H6:Box (Pu w1 x6 (S+1) v6 (8+8) (bytesOf (hd last) 8++bytesOf blk 8)):=⟨H5.out.1.app h6⟩;clear h6))
 clear H4 H5
 have c1:=(HR.out x6 H6.out.2.1).2.1
 have HBy:Box (Bytes x6 ba 160 bs):=⟨(HR.out x6 H6.out.2.1).2.2.2.2⟩
 have H6':Box (Pu w1 x6 (S+1) v6 16 (bytesOf (hd last) 8++bytesOf blk 8)):=⟨H6.out⟩
 clear H6
 go_wp2_with (at_builtin;refine q1m rfl (.tmp 22) (.tmp 25) rfl (S+1) 16 160 bc _ (bytesOf (hd last) 8++bytesOf blk 8) bs _ x6 rfl rfl H6'.out.1 HBy.out (by decide) (Below.refl _ _) H6'.out.2.2 ?_;intro v7 x7 h7;have H7:Box (Pu w1 x7 (S+1) v7 (16+160) (bytesOf (hd last) 8++bytesOf blk 8++bs)):=⟨H6'.out.app h7⟩;clear h7)
 have H8:Box (Pu w1 x7 (S+1) v7 176 (bytesOf (hd last) 8++bytesOf blk 8++bs)):=⟨H7.out⟩
 clear H7
 obtain ⟨a7,c7,rfl⟩:=q1z H8.out.1
 go_ret2
 exact ⟨a7,c7,rfl,q2u H8.out.1 (by have:=HB.out.2.2;omega),HB.out.1.trans (H8.out.2.1.mono (by have:=HB.out.2.2;omega))⟩
end Go.Proofs.YtjejnlebpcjidaaGreatDoor
