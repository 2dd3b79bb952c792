/-
 What the Go method latest of package disk answers: the bytes of the last write under way to a place, or else of the place. And what follows it.
-/
import Derived.Test.YtjejnlebpcjidaaGreatDoorQ01
import Derived.Test.YtjejnlebpcjidaaGreatDoorQ07
set_option linter.unusedVariables false
set_option maxRecDepth 100000
set_option maxRecDepth 100000
namespace Go.Proofs.YtjejnlebpcjidaaGreatDoor.Disk.Plain
end Go.Proofs.YtjejnlebpcjidaaGreatDoor.Disk.Plain
namespace Go.Proofs.YtjejnlebpcjidaaGreatDoor.Disk
open Go.RowKit Go.Shelf Go.Proofs.YtjejnlebpcjidaaGreatDoor.Plain Go.Proofs.YtjejnlebpcjidaaGreatDoor.Disk.Plain
attribute [local go_sem] Oper.semAt_some
def lastOf (L:List (Nat × List Int)) (i:Nat):Option (List Int):=(L.reverse.find? (fun x=>x.1==i)).map (·.2)
def lat (d:Dk) (i:Nat):List Int:=(lastOf d.uw i).getD (d.pl i)
set_option maxHeartbeats 1000000 in
theorem back_in (F:Fence) (n:Nat) (h5:F.fn 79) (hro:F.round=none) (a:Option Addr) (len cap:Nat) (w:World):
  CallsIn F n Tryz.prog 79 #[.slice a len cap] w fun e w'=>e=.returned (.func (.func 100) #[] #[.pointer (some ⟨w.heap.size,0,none⟩)])/\w'=w.alloc (.cells #[.slice a len cap] 82):=by
 refine callsIn_of_wp Tryz.func79 rfl h5 ?_ hro
 simp only [Tryz.ntmps79,List.size_toArray,List.length_cons,List.length_nil,Nat.reduceAdd,Nat.reduceSub,Array.replicate_succ,Array.replicate_zero,List.push_toArray,List.append_toArray,List.nil_append,List.cons_append]
 gi_wp2
 go_ret
 exact ⟨rfl,rfl⟩
theorem z7c (F:Fence) (n:Nat) (h7:F.fn 100) (hro:F.round=none) (hn:1<=n) (Bs n₀ cap:Nat) (a:Option Addr) (L:List (Nat × List Int)) (hL:Lens L) (hreach:L.length<1000000000) (w:World) (hBs:Bs<n₀) (hn₀:n₀<=w.heap.size)
  (hc:w.cell? ⟨Bs,0,none⟩=some (.slice a L.length cap)) (hI:Ways n₀ w a L):
  SeqStopsK F n Tryz.prog 100 #[.pointer (some ⟨Bs,0,none⟩)] Wr.enc (Below n₀) (fun ys=>ys=came L hL L.length) (fun pre=>∃k,k<=L.length/\pre=came L hL k) L.length w:=fun l J Jx W hW _ _ hY h0=>
 back1_in F n h7 hro hn l Bs n₀ cap a L hL hreach J Jx hY W hBs ((hW.cell (p:=⟨Bs,0,none⟩) (show Bs<_ by omega)).trans hc) (hI.below (hW.mono hn₀)) h0
theorem At.ways {w:World} {D P:Nat} {a:Option Addr} {cap:Nat} {ov:Value} {d:Dk} (h:At w D P (.slice a d.uw.length cap) ov d):Ways w.heap.size w a d.uw:=by
 intro h0
 rcases h.hu.2 with ⟨h1,h2⟩ | ⟨g,cap',cur,h1,hb,hg,_⟩
 ·omega
 ·simp only [Value.slice.injEq,true_and] at h1
  obtain ⟨rfl,rfl⟩:=h1
  refine ⟨g,rfl,(gE hg),fun k hk j v hv=>?_⟩
  have hj:j<193:=by
   have:=(List.getElem?_eq_some_iff.1 hv).1
   rw [q1d _ (h.huw _ (List.getElem_mem hk)).2.1] at this
   exact this
  have:=h.hu.cells (g:=g) rfl (193*k+j) v (by
   rw [wcs,q6h _ 193 h.huw.all k (by simpa using hk) j hj]
   simpa using hv)
  rw [Addr.add_lit,Nat.zero_add,Nat.mul_comm] at this
  exact this
theorem At.lens {w:World} {D P:Nat} {uv ov:Value} {d:Dk} (h:At w D P uv ov d):Lens d.uw:=fun x hx=>(h.huw x hx).2.1
theorem q6s {F:Fence} {n:Nat} {ops:Array Oper} {rest:List Oper} {op:Oper} {a:Act} {w:World} {Q:Exit->Act->World->Prop} (hgd:op.guard=none) (t:TypeId) (ho:op.op=.alloc t) (Z:Array Value) (hz:(Tryz.prog.info? t).map (·.zero)=some (some (.agg Z)))
  (h:wpListIn F n Tryz.prog ops Q rest (a.put op.dst (.pointer (some ⟨w.heap.size,0,none⟩))) (w.alloc (.cells Z t))):wpListIn F n Tryz.prog ops Q (op::rest) a w:=by
 refine wpListIn_plain hgd fun K hK'=>?_
 unfold Oper.wpIn
 refine ⟨?_,?_⟩
 ·simp [Oper.about,ho]
 ·rw [Oper.semAt_plain F _ _ (by rw [ho];intro c hc';cases hc'),q0e t ho Z hz]
  exact hK' _ _ h
theorem q7w {F:Fence} {n:Nat} {P:Program} {ops:Array Oper} {rest:List Oper} {op:Oper} {a:Act} {w:World} {Q:Exit->Act->World->Prop} (hgd:op.guard=none) (ty:TypeId) (x y:Operand) (ho:op.op=.store ty x y)
  (b o:Nat) (cells:Array Value) (hx:a.eval x=.pointer (some ⟨b,o,none⟩)) (hy:a.eval y=.agg cells) (ht:w.there b o cells.size) (hi:(P.info? ty).map (·.size)=some cells.size) (h1:cells.all (·.oneCell')=true)
  (h:wpListIn F n P ops Q rest (a.put op.dst undef) (w.setCells b o cells.toList)):wpListIn F n P ops Q (op::rest) a w:=by
 refine wpListIn_plain hgd fun K hK'=>?_
 unfold Oper.wpIn
 refine ⟨?_,?_⟩
 ·simp [Oper.about,ho]
 ·rw [Oper.semAt_plain F _ _ (by rw [ho];intro c hc';cases hc')]
  unfold execOp
  simp only [ho,hx,hy,Instr.storeAt,Instr.sureAddr,Sem.run_bind,Sem.run_pure,Result.andThen_ok,run_storeVar_mid w b o ty cells ht hi h1]
  exact hK' _ _ h
theorem q6g {w:World} {a:Addr} {v:Value} (o:Obj) (h:w.cell? a=some v):(w.alloc o).cell? a=some v:=by
 rw [World.cell?_alloc_lt _ _ _ (World.block_lt_of_cell? w _ h)]
 exact h
theorem z0j (W:World) (Z:Array Value) (t:TypeId) (vs:List Value) (hz:Z.size=vs.length):
  Below W.heap.size W ((W.alloc (.cells Z t)).setCells W.heap.size 0 vs)/\KeepsOthers W ((W.alloc (.cells Z t)).setCells W.heap.size 0 vs)/\((W.alloc (.cells Z t)).setCells W.heap.size 0 vs).heap[W.heap.size]?=some (.cells vs.toArray t (0,0)):=by
 have hb:=q0t W.heap.size vs 0 _ _ (But.of_below (G:=W.heap.size) ((Below.refl W.heap.size W).alloc (Nat.le_refl _) (.cells Z t)))
 have h:=q1o W.heap.size t vs 0 (W.alloc (.cells Z t)) Z (q0g rfl) (by omega)
 rw [q3n _ _ (by simpa using hz)] at h
 refine ⟨⟨hb.os,hb.tape,hb.output,hb.size,fun k hk=>hb.block k hk (by omega)⟩,⟨hb.size,fun k o hk ho=>?_⟩,h⟩
 have hlt:=(gE hk)
 exact (hb.block k hlt (by omega)).trans hk
theorem z5s {W:World} {B:Nat} {p:Nat} {b:List Int} {t:TypeId} (h:W.heap[B]?=some (.cells (wc (p,b)).toArray t (0,0))):W.cell? ⟨B,0,none⟩=some (.int .i64 (p:Int))/\W.rangeAt B 1 (b.map (Value.int .u8)):=by
 refine ⟨by rw [cell_of_row _ _ _ _ _ _ h];rfl,fun j v hv=>?_⟩
 rw [cell_of_row _ _ _ _ _ _ h]
 simpa [wc,Nat.add_comm 1 j] using hv
theorem q3f {fn:Func} {t:Tmp} {ty:TypeId} (h:fn.results=#[.cell t ty]) (tmps:Array Value) (w:World) (b:Nat) (cs:List Value) (d:TypeDesc) (ht:tmps.getD t undef=.pointer (some ⟨b,0,none⟩)) (hc:w.rangeAt b 0 cs) (hu:Tryz.prog.underlying ty=some d) (hd:d.isRow=true) (hi:(Tryz.prog.info? ty).map (·.size)=some cs.length):
  (results fn tmps).run Tryz.prog w=.ok (.agg cs.toArray) w:=by
 have hl:=run_loadVar_mid (P:=Tryz.prog) w b 0 ty cs d hc hu hd hi
 simp only [Array.getD_eq_getD_getElem?] at ht
 simp [results,h,ht,hl,asAddr]
theorem z1w {W:World} {B:Nat} {b:List Int} {t:TypeId} (h:W.heap[B]?=some (.cells (u8s b) t (0,0))):W.rangeAt B 0 (b.map (Value.int .u8)):=fun j v hv=>by
 rw [cell_of_row _ _ _ _ _ _ h,Nat.zero_add]
 simpa [u8s] using hv
theorem lat_none (d:Dk) (hL:Lens d.uw) (i:Nat) (h:∀x∈came d.uw hL d.uw.length,x.p≠i):lat d i=d.pl i:=by
 have:lastOf d.uw i=none:=by
  unfold lastOf
  rw [Option.map_eq_none_iff,List.find?_eq_none]
  intro x hx
  obtain ⟨k,hk,rfl⟩:=List.getElem_of_mem (List.mem_reverse.1 hx)
  have:=h (itm d.uw hL k) (List.mem_map.2 ⟨d.uw.length-1-k,by simp;omega,by congr 1;omega⟩)
  simpa [itm,hk] using this
 rw [lat,this]
 rfl
theorem lat_some (d:Dk) (hL:Lens d.uw) (i k:Nat) (hk:k<d.uw.length) (h:∀x∈came d.uw hL k,x.p≠i) (hp:(itm d.uw hL (d.uw.length-1-k)).p=i):lat d i=(itm d.uw hL (d.uw.length-1-k)).b:=by
 have hq:d.uw.length-1-k<d.uw.length:=by omega
 have hr:d.uw.reverse=(d.uw.reverse.take k)++d.uw[d.uw.length-1-k]::(d.uw.reverse.drop (k+1)):=by
  have hk':k<d.uw.reverse.length:=by simpa using hk
  have e:d.uw.reverse[k]=d.uw[d.uw.length-1-k]:=by simp [List.getElem_reverse]
  rw [<-e,List.getElem_cons_drop,List.take_append_drop]
 simp only [itm,hq,dite_true] at hp ⊢
 have:lastOf d.uw i=some d.uw[d.uw.length-1-k].2:=by
  unfold lastOf
  rw [hr,List.find?_append]
  have h1:(d.uw.reverse.take k).find? (fun x=>x.1==i)=none:=by
   rw [List.find?_eq_none]
   intro x hx
   obtain ⟨j,hj,rfl⟩:=List.getElem_of_mem hx
   have hj2:j<k:=by simp at hj;omega
   have h3:d.uw.length-1-j<d.uw.length:=by omega
   have:=h (itm d.uw hL (d.uw.length-1-j)) (List.mem_map.2 ⟨j,by simpa using hj2,rfl⟩)
   simp only [itm,h3,dite_true] at this
   simpa [List.getElem_reverse] using this
  rw [h1]
  simp [hp]
 rw [lat,this]
 rfl
theorem pls_range {W:World} {P n i:Nat} {cs:Array Value} {pl:Nat->List Int} {t:TypeId} (hP:W.heap[P]?=some (.cells cs t (0,0))) (h:Pls cs n pl) (hi:i<n) (hl:(pl i).length=192):W.rangeAt P (i*192) ((pl i).map (Value.int .u8)):=fun j v hv=>by
 have hj:j<192:=by
  have:=(List.getElem?_eq_some_iff.1 hv).1
  rw [List.length_map,hl] at this
  exact this
 rw [cell_of_row _ _ _ _ _ _ hP,Nat.mul_comm,h.2 i hi j hj,<-hv]
 simp [List.getD,show j<(pl i).length by omega]
theorem z4g {β:Type} (R:Nat) (t:TypeId) (f:β->Array Value):Own (fun s W=>W.heap[R]?=some (.cells (f s) t (0,0))):=fun s X Y row hs hg hr=>
 (hg.block R (gE hs) (fun e=>by
  obtain ⟨o,ho,hc⟩:=hr R e.symm
  rw [hs] at ho
  cases ho
  cases hc)).trans hs
set_option maxRecDepth 100000 in
set_option maxHeartbeats 4000000 in
theorem latest_at (w:World) (D P:Nat) (uv ov:Value) (d:Dk) (h:At w D P uv ov d) (i:Nat) (hi:i<d.n) (hreach:d.uw.length<1000000000):
  Calls Tryz.prog 46 #[.pointer (some ⟨D,0,none⟩),.int .i64 (i:Int)] w fun e w'=>e=.returned (.agg (u8s (lat d i)))/\Below w.heap.size w w':=by
 refine (callsIn_wide (n:=3)).1 ?_
 obtain ⟨a,cap,rfl⟩:=q0l h.hu
 obtain ⟨c0,c1,-,-,-,-,-⟩:=h.cells
 have HA:Box (At w D P (.slice a d.uw.length cap) ov d):=⟨h⟩
 obtain ⟨S,HS⟩:∃S,Box (w.heap.size=S):=⟨_,⟨rfl⟩⟩
 clear h
 refine callsIn_of_wp_marks Tryz.func46 rfl trivial ?_ rfl
 simp only [Tryz.ntmps46,List.size_toArray,List.length_cons,List.length_nil,Nat.reduceAdd,Nat.reduceSub,Array.replicate_succ,Array.replicate_zero,List.push_toArray,List.append_toArray,List.nil_append,List.cons_append]
 have c1':((w.alloc (.cells #[.int .i64 (i:Int)] 3)).alloc (.cells (u8s z192) 114)).cell? ⟨D,1,none⟩=some (.slice a d.uw.length cap):=q6g _ (q6g _ c1)
 gi_wp2_with (first
  | (refine q6s rfl 114 rfl (u8s z192) zero79 ?_)
  | (refine ⟨trivial,?_⟩;gi_at_call 79;refine (back_in Fence.wide _ trivial rfl _ _ _ _).mono ?_;rintro e w' ⟨rfl,rfl⟩))
 have bI:Boxed (((w.alloc (.cells #[.int .i64 (i:Int)] 3)).alloc (.cells (u8s z192) 114)).alloc (.cells #[.slice a d.uw.length cap] 82)) w.heap.size 3 (.int .i64 (i:Int)):=((Boxed.new w 3 _).alloc _).alloc _
 have bR:(((w.alloc (.cells #[.int .i64 (i:Int)] 3)).alloc (.cells (u8s z192) 114)).alloc (.cells #[.slice a d.uw.length cap] 82)).heap[w.heap.size+1]?=some (.cells (u8s z192) 114 (0,0)):=q0i (q0g (by simp))
 have bS:Boxed (((w.alloc (.cells #[.int .i64 (i:Int)] 3)).alloc (.cells (u8s z192) 114)).alloc (.cells #[.slice a d.uw.length cap] 82)) (w.heap.size+1+1) 82 (.slice a d.uw.length cap):=q0g (by simp)
 have hB0:Below w.heap.size w (((w.alloc (.cells #[.int .i64 (i:Int)] 3)).alloc (.cells (u8s z192) 114)).alloc (.cells #[.slice a d.uw.length cap] 82)):=(((Below.refl _ w).alloc (Nat.le_refl _) _).alloc (by simp) _).alloc (by simp;omega) _
 have hsz:(((w.alloc (.cells #[.int .i64 (i:Int)] 3)).alloc (.cells (u8s z192) 114)).alloc (.cells #[.slice a d.uw.length cap] 82)).heap.size=w.heap.size+3:=by simp
 clear c1'
 generalize ((w.alloc (.cells #[.int .i64 (i:Int)] 3)).alloc (.cells (u8s z192) 114)).alloc (.cells #[.slice a d.uw.length cap] 82)=W0 at *
 have hW:=((HA.out.ways).below (hB0)).below (Below.refl _ _)
 refine wpIn_rangeFunc_ownH (F:=Fence.wide) (n:=3) (ps:=#[12,13]) rfl (by decide) (gf:=100) (lb:=#[.pointer (some ⟨w.heap.size+1+1,0,none⟩)]) rfl trivial (enters_of Tryz.func100 (by kernel_rfl) rfl)
  (z7c Fence.wide (3-1) trivial rfl (by decide) (w.heap.size+1+1) W0.heap.size cap a d.uw HA.out.lens hreach W0 (by omega) (Nat.le_refl _) bS.cell (fun h0=>by obtain ⟨b,e,h1,h2⟩:=hW h0;exact ⟨b,e,by omega,h2⟩)) belowK_t (belowK_b (Nat.le_refl _)) (Below.refl _ _) (fun x=>rfl)
  (fun pre W=>((∀x∈pre,x.p≠i)/\Boxed W w.heap.size 3 (.int .i64 (i:Int))/\W.heap[w.heap.size+1]?=some (.cells (u8s z192) 114 (0,0))/\W0.heap.size<=W.heap.size)/\Below w.heap.size w W)
  (fun c pre W=>(c=.ret/\∃ini last,pre=ini++[last]/\(∀x∈ini,x.p≠i)/\last.p=i/\W.heap[w.heap.size+1]?=some (.cells (u8s last.b) 114 (0,0)))/\Below w.heap.size w W)
  (OwnFrom.and (Own.from (fun s A B row hs hg hr=>⟨hs.1,boxed_own _ _ (fun (_:Unit)=>_) () A B row hs.2.1 hg hr,z4g _ _ (fun (_:Unit)=>_) () A B row hs.2.2.1 hg hr,Nat.le_trans hs.2.2.2 hg.size⟩) _) (ownFrom_below (Nat.le_refl _) (by omega)))
  (fun c=>OwnFrom.and (Own.from (fun s A B row hs hg hr=>by obtain ⟨hc,ini,last,e1,e2,e3,e4⟩:=hs;exact ⟨hc,ini,last,e1,e2,e3,z4g _ _ (fun (_:Unit)=>_) () A B row e4 hg hr⟩) _) (ownFrom_below (Nat.le_refl _) (by omega)))
  ⟨⟨by simp,bI,bR,Nat.le_refl _⟩,hB0⟩
  (fun x a' W=>∃Bx,W0.heap.size<=Bx/\W.heap[Bx]?=some (.cells (wc (x.p,x.b)).toArray 118 (0,0))/\a'={tmps:=#[.pointer (some ⟨D,0,none⟩),.int .i64 (i:Int),undef,.pointer (some ⟨w.heap.size,0,none⟩),.pointer (some ⟨w.heap.size+1,0,none⟩),undef,.pointer (some ⟨Bx,0,none⟩),.pointer (some ⟨D,0,none⟩),.pointer (some ⟨D,0,none⟩),.pointer (some ⟨D,1,none⟩),.slice a d.uw.length cap,.func (.func 100) #[] #[.pointer (some ⟨w.heap.size+1+1,0,none⟩)],.int .i64 (x.k:Int),.agg (wc (x.p,x.b)).toArray,undef,undef,undef,undef,undef,undef,undef,undef,undef,undef,undef,undef,undef],defers:=[]})
  (fun x a' _ X Y row hs hg hr=>by obtain ⟨Bx,h1,h2,h3⟩:=hs;exact ⟨Bx,h1,z4g _ _ (fun (_:Unit)=>_) () X Y row h2 hg (fun r e=>(hr r e).2),h3⟩)
  ?assign ?body ?done ?stop
 case assign=>
  rintro l pre x W K ⟨⟨h1,h2,h3,h5⟩,h4⟩ hK
  rename_i ax
  clear ax bI bR bS hB0 hW c0 c1
  simp only [Wr.enc,List.zip_toArray,List.zip_cons_cons,List.zip_nil_right,List.foldl_toArray,List.foldl_cons,List.foldl_nil,List.setIfInBounds_toArray,List.set_cons_succ,List.set_cons_zero]
  have hz:(wc (0,z192)).toArray.size=(wc (x.p,x.b)).length:=by rw [q1d _ x.hb];exact q1d _ q0y
  have HN:Box _:=⟨z0j W (wc (0,z192)).toArray 118 (wc (x.p,x.b)) hz⟩
  have HT:Box ((W.alloc (.cells (wc (0,z192)).toArray 118)).there W.heap.size 0 (wc (x.p,x.b)).toArray.size):=⟨q0z (q0g rfl) (by rw [hz];simp)⟩
  have HI:Box ((Tryz.prog.info? 118).map (·.size)=some (wc (x.p,x.b)).toArray.size):=⟨by rw [List.size_toArray,q1d _ x.hb];exact info84⟩
  have HE:Box (W0.heap.size<=W.heap.size):=⟨h5⟩
  clear hz h5
  gi_wp2_with (first
   | (refine q6s rfl 118 rfl _ zero84 ?_)
   | (refine q7w rfl 118 _ _ rfl W.heap.size 0 (wc (x.p,x.b)).toArray rfl rfl HT.out HI.out (all_oneCell_toArray (q6q _)) ?_))
  obtain ⟨n1,n2,n3⟩:=HN.out
  exact hK _ _ (n2.from _) (n1.mono HE.out) ⟨⟨h1,(n1.block _ h2.lt).trans h2,(n1.block _ (gE h3)).trans h3,Nat.le_trans HE.out n1.size⟩,h4.trans (n1.mono h4.size)⟩ ⟨_,HE.out,n3,rfl⟩
 case body=>
  rintro l pre x a' W hl ⟨r,hr⟩ ⟨⟨h1,h2,h3,h5⟩,h4⟩ ⟨Bx,hBx,bX,rfl⟩ hlt
  rename_i ax
  clear ax bI bR bS hB0 hW c0 c1
  have cI:=h2.cell
  obtain ⟨cX,rX⟩:=z5s bX
  by_cases hp:x.p=i
  ·have hz:(u8s x.b).size=192:=by rw [q0h];exact x.hb
   have HR:Box (W.rangeAt Bx 1 (x.b.map (Value.int .u8))):=⟨rX⟩
   have HT:Box (W.there (w.heap.size+1) 0 (u8s x.b).size):=⟨q0z h3 (by rw [hz,q0h,q0y];omega)⟩
   have HI:Box ((Tryz.prog.info? 114).map (·.size)=some (u8s x.b).size):=⟨by rw [hz];exact info79⟩
   have HJ:Box ((Tryz.prog.info? 114).map (·.size)=some (x.b.map (Value.int .u8)).length):=⟨by rw [List.length_map,x.hb];exact info79⟩
   have HS3:Box ((W.setCells (w.heap.size+1) 0 (u8s x.b).toList).heap[w.heap.size+1]?=some (.cells (u8s x.b) 114 (0,0))):=⟨by
    rw [q1o _ _ _ _ _ _ h3 (by rw [Array.length_toList,hz,q0h,q0y];omega),q3n _ _ (by rw [Array.length_toList,Array.length_toList,hz,q0h,q0y])]⟩
   have HB:Box (But (w.heap.size+1) W (W.setCells (w.heap.size+1) 0 (u8s x.b).toList)):=⟨q0t _ _ _ _ _ (But.refl _ _)⟩
   have hpi:((x.p:Int)==(i:Int))=true:=by simp [hp]
   clear hz rX
   gi_wp2_with (first
    | (refine q6e rfl 114 _ rfl Bx 1 rfl (x.b.map (Value.int .u8)) _ HR.out Tryz.underlying114 rfl HJ.out ?_)
    | (refine q7w rfl 114 _ _ rfl (w.heap.size+1) 0 (u8s x.b) rfl rfl HT.out HI.out (q1r _) ?_))
   refine ⟨⟨HB.out.size,fun k o hk hk0 ho=>?_⟩,⟨rfl,pre,x,rfl,h1,hp,HS3.out⟩,h4.trans ⟨HB.out.os,HB.out.tape,HB.out.output,HB.out.size,fun k hk=>HB.out.block k (by have:=h4.size;omega) (by omega)⟩⟩
   exact (HB.out.block k (gE hk0) (by omega)).trans hk0
  ·have hpi:((x.p:Int)==(i:Int))=false:=by simp;omega
   clear rX
   gi_wp2
   exact ⟨KeepsFrom.refl _ _,Below.refl _ _,⟨fun y hy=>(List.mem_append.1 hy).elim (h1 y) (fun e=>by simp at e;subst e;exact hp),h2,h3,h5⟩,h4⟩
 case done=>
  rintro Dd ys W hD rfl ⟨⟨h1,h2,h3,h5⟩,h4⟩ hK
  have hlat:lat d i=d.pl i:=lat_none d _ i h1
  have HA2:=HA.out.below h4
  obtain ⟨cs,hP,hPs⟩:=HA2.hp
  obtain ⟨g0,-,-,-,-,-,-⟩:=HA2.cells
  have hDl:=HA.out.lt D (.inl rfl)
  have hPl:=HA.out.lt P (.inr (.inl rfl))
  have hlp:=(HA.out.hpl i).1
  have G0:Box (W.drew.cell? ⟨D,0,none⟩=some (.slice (some ⟨P,0,none⟩) d.n d.n)):=⟨g0⟩
  have GI:Box (W.drew.cell? ⟨w.heap.size,0,none⟩=some (.int .i64 (i:Int))):=⟨h2.cell⟩
  have GP:Box (W.drew.rangeAt P (i*192) ((d.pl i).map (Value.int .u8))):=⟨pls_range hP hPs hi hlp⟩
  have GS:Box ((Tryz.prog.info? 114).map (·.size)=some ((d.pl i).map (Value.int .u8)).length):=⟨by rw [List.length_map,hlp];exact info79⟩
  have GZ:Box ((Tryz.prog.info? 114).map (·.size)=some (u8s (d.pl i)).size):=⟨by rw [q0h,hlp];exact info79⟩
  have GT:Box (W.drew.there (w.heap.size+1) 0 (u8s (d.pl i)).size):=⟨q0z (show W.drew.heap[w.heap.size+1]?=_ from h3) (by rw [q0h,q0h,q0y,hlp];omega)⟩
  have GR:Box ((W.drew.setCells (w.heap.size+1) 0 (u8s (d.pl i)).toList).heap[w.heap.size+1]?=some (.cells (u8s (d.pl i)) 114 (0,0))):=⟨by
   rw [q1o _ _ _ _ _ _ (show W.drew.heap[w.heap.size+1]?=_ from h3) (by rw [Array.length_toList,q0h,q0h,q0y,hlp];omega),q3n _ _ (by rw [Array.length_toList,Array.length_toList,q0h,q0h,q0y,hlp])]⟩
  have GB:Box (But (w.heap.size+1) W (W.drew.setCells (w.heap.size+1) 0 (u8s (d.pl i)).toList)):=⟨q0t _ _ _ _ _ (But.refl _ _).drew⟩
  clear hP hPs g0 HA2 c0 c1 bI bR bS hB0 hW
  rename_i KK ax
  show KK _ _
  refine ax _ _ ?_
  clear ax
  refine wpIn_wide.2 ?_
  refine wp_seq (wp_mono (Q:=Exit.then _ (fun _ _ _=>False)) ?_ (fun e a w h=>by cases e<;>first | exact h | exact h.elim))
  refine z3h (w.heap.size+1) (by kernel_rfl) (fun wd hwd=>?_)
  subst hwd
  refine q2e (i:=0) (v:=?_) rfl (by kernel_rfl) (by kernel_rfl) (by kernel_rfl) (fun _ _ _ h=>h) (by rfl) ?_ ?_
  rotate_left
  ·intro w' hB;clear hB;go_simp<;>with_reducible rfl
  try simp only [Act.put,pC,pD,pE,pF,pG]
  refine q2e (i:=1) (v:=?_) rfl (by kernel_rfl) (by kernel_rfl) (by kernel_rfl) (fun _ _ _ h=>h) (by rfl) ?_ ?_
  rotate_left
  ·intro w' hB;clear hB;go_simp<;>with_reducible rfl
  try simp only [Act.put,pC,pD,pE,pF,pG,pH]
  refine q2e (i:=2) (v:=?_) rfl (by kernel_rfl) (by kernel_rfl) (by kernel_rfl) (fun _ _ _ h=>h) (by rfl) ?_ ?_
  rotate_left
  ·intro w' hB;clear hB;go_simp<;>with_reducible rfl
  try simp only [Act.put,pC,pD,pE,pF,pG,pH]
  refine q2e (i:=3) (v:=.slice (some ⟨P,0,none⟩) d.n d.n) rfl (by kernel_rfl) (by kernel_rfl) (by kernel_rfl) (fun _ _ _ h=>h) (by rfl) (fun w' hB=>q0w 81 _ _ rfl Tryz.underlying81 rfl _ rfl _ (q2y hB G0.out (by show D≠_;omega))) ?_
  try simp only [Act.put,pC,pD,pE,pF,pG,pH]
  refine q2e (i:=4) (v:=.int .i64 (i:Int)) rfl (by kernel_rfl) (by kernel_rfl) (by kernel_rfl) (fun _ _ _ h=>h) (by rfl) (fun w' hB=>q0w 3 _ _ rfl Tryz.underlying3 rfl _ rfl _ (q2y hB GI.out (by show w.heap.size≠_;omega))) ?_
  try simp only [Act.put,pC,pD,pE,pF,pG,pH]
  refine q2e (i:=5) (v:=?_) rfl (by kernel_rfl) (by kernel_rfl) (by kernel_rfl) (fun _ _ _ h=>h) (by rfl) ?_ ?_
  rotate_left
  ·intro w' hB;clear hB;go_simp<;>with_reducible rfl
  try simp only [Act.put,pC,pD,pE,pF,pG,pH]
  refine q2e (i:=6) (v:=.agg (u8s (d.pl i))) rfl (by kernel_rfl) (by kernel_rfl) (by kernel_rfl) (fun _ _ _ h=>h) (by rfl) (fun w' hB=>q0k 114 _ _ rfl Tryz.underlying114 rfl P (i*192) rfl ((d.pl i).map (Value.int .u8)) GS.out (q3c hB GP.out (by omega))) ?_
  try simp only [Act.put,pC,pD,pE,pF,pG,pH]
  refine z6q (i:=7) rfl (by kernel_rfl) (by rfl) (by kernel_rfl) 114 _ _ rfl 0 (u8s (d.pl i)) rfl rfl GT.out GZ.out (q1r _) ?_
  refine wp_ret ?_
  have hK':=(GB.out.block Dd (gE hK) (by omega)).trans hK
  refine ⟨by simp,.inl ⟨_,_,rfl,run_takeDeferred hK',?_⟩⟩
  have hR:((W.drew.setCells (w.heap.size+1) 0 (u8s (d.pl i)).toList).putObj Dd (.deferred none)).heap[w.heap.size+1]?=some (.cells (u8s (d.pl i)) 114 (0,0)):=(World.putObj_heap_other (by omega)).trans GR.out
  refine ⟨_,q3f (b:=w.heap.size+1) rfl _ _ ((d.pl i).map (Value.int .u8)) _ rfl (z1w hR) Tryz.underlying114 rfl GS.out,by rw [hlat];rfl,?_⟩
  exact (h4.trans ⟨GB.out.os,GB.out.tape,GB.out.output,GB.out.size,fun k hk=>GB.out.block k (by have:=h4.size;omega) (by omega)⟩).trans (belowK_b (w:=w) (Nat.le_refl _) _ Dd _ _ (by omega) hK' rfl rfl)
 case stop=>
  rintro Dd c pre W hD ⟨k,hk,rfl⟩ ⟨⟨rfl,ini,last,e1,e2,e3,hcr⟩,hB⟩ hK
  rename_i KK ax
  clear ax bI bR bS hB0 hW c0 c1
  obtain ⟨k',rfl⟩:∃k',k=k'+1:=by
   cases k with
   | zero=>simp [came] at e1
   | succ k'=>exact ⟨k',rfl⟩
  rw [z2c] at e1
  obtain ⟨rfl,e5⟩:=List.append_inj' e1 rfl
  obtain rfl:itm d.uw HA.out.lens (d.uw.length-1-k')=last:=by simpa using e5
  have hlat:=lat_some d HA.out.lens i k' (by omega) e2 e3
  rw [<-hlat] at hcr
  have hl:(lat d i).length=192:=by rw [hlat];exact (itm d.uw HA.out.lens (d.uw.length-1-k')).hb
  refine wpIn_ret ?_
  refine ⟨by simp,.inl ⟨_,_,rfl,run_takeDeferred hK,?_⟩⟩
  have hR:(W.putObj Dd (.deferred none)).heap[w.heap.size+1]?=some (.cells (u8s (lat d i)) 114 (0,0)):=(World.putObj_heap_other (by omega)).trans hcr
  refine ⟨_,q3f (b:=w.heap.size+1) rfl _ _ ((lat d i).map (Value.int .u8)) _ rfl (z1w hR) Tryz.underlying114 rfl (by rw [List.length_map,hl];exact info79),rfl,?_⟩
  exact hB.trans (belowK_b (w:=w) (Nat.le_refl _) _ Dd _ _ (by omega) hK rfl rfl)
end Go.Proofs.YtjejnlebpcjidaaGreatDoor.Disk
namespace Go.Proofs.YtjejnlebpcjidaaGreatDoor.Disk.Plain
end Go.Proofs.YtjejnlebpcjidaaGreatDoor.Disk.Plain
namespace Go.Proofs.YtjejnlebpcjidaaGreatDoor.Disk
open Go.RowKit Go.Proofs.YtjejnlebpcjidaaGreatDoor.Plain Go.Proofs.YtjejnlebpcjidaaGreatDoor.Disk.Plain
theorem At.nx {w w':World} {D P:Nat} {uv ov uv' ov':Value} {d':Dk} {fp:Nat->Prop} (h2:∀k,foot D P uv ov k->fp k) (i1:At w' D P uv' ov' d') (t1:Turned (foot D P uv ov) w w') (s1:∀k,foot D P uv' ov' k->foot D P uv ov k∨w.heap.size<=k):Nx D fp w w' d':=
 ⟨foot D P uv' ov',⟨P,uv',ov',i1,fun _ hk=>hk⟩,⟨t1.os,t1.tape,t1.output,t1.size,fun k hk hn=>t1.block k hk (fun hf=>hn (h2 k hf))⟩,fun k hk=>(s1 k hk).imp (h2 k) id⟩
theorem q7o {w:World} {D P:Nat} {uv ov:Value} {d:Dk} (h:At w D P uv ov d) (i:Nat):(lat d i).length=192/\Byt (lat d i):=by
 unfold lat lastOf
 cases hf:d.uw.reverse.find? (fun x=>x.1==i) with
 | none=>exact h.hpl i
 | some x=>
  have:=h.huw x (List.mem_reverse.1 (List.mem_of_find?_eq_some hf))
  exact ⟨this.2.1,this.2.2⟩
def rdOk (d:Dk) (i:Int):Dk:={d with ops:=d.ops++[(1,i)]}
set_option maxRecDepth 20000 in
set_option maxHeartbeats 2000000 in
theorem read_down (w:World) (D:Nat) (fp:Nat->Prop) (d:Dk) (h:Is w D fp d) (i:Int) (hd:d.down=true):
  Calls Tryz.prog 16 #[.pointer (some ⟨D,0,none⟩),.int .i64 i] w fun e w'=>e=.returned (.tuple #[.slice none 0 0,.int .i64 13])/\w=w':=by
 obtain ⟨P,uv,ov,h1,h2⟩:=h
 have H:=q4n w D P uv ov d h1
 rw [show rdy d=13 by simp [rdy,hd]] at H
 have HR:Box _:=⟨H⟩
 clear H h1 h2 hd
 go_enter Tryz.func16,Tryz.ntmps16
 go_wp2_with (go_at_call 43;refine HR.out.mono ?_;rintro e w' ⟨rfl,rfl⟩)
 go_ret2
 exact ⟨rfl,rfl⟩
set_option maxRecDepth 20000 in
set_option maxHeartbeats 2000000 in
theorem z7r (w:World) (D:Nat) (fp:Nat->Prop) (d:Dk) (h:Is w D fp d) (i:Int) (hd:d.down=false) (hi:hsp d i=false):
  Calls Tryz.prog 16 #[.pointer (some ⟨D,0,none⟩),.int .i64 i] w fun e w'=>e=.returned (.tuple #[.slice none 0 0,.int .i64 12])/\w=w':=by
 obtain ⟨P,uv,ov,h1,h2⟩:=h
 have H:=q4n w D P uv ov d h1
 rw [show rdy d=0 by simp [rdy,hd]] at H
 have HR:Box _:=⟨H⟩
 have H2:=z3x w D P uv ov d h1 i
 rw [hi] at H2
 have HH:Box _:=⟨H2⟩
 clear H H2 h1 h2 hd hi
 go_enter Tryz.func16,Tryz.ntmps16
 go_wp2_with (first
  | (go_at_call 43;refine HR.out.mono ?_;rintro e w' ⟨rfl,rfl⟩)
  | (go_at_call 44;refine HH.out.mono ?_;rintro e w' ⟨rfl,rfl⟩))
 go_ret2
 exact ⟨rfl,rfl⟩
set_option maxRecDepth 20000 in
set_option maxHeartbeats 2000000 in
theorem read_ok (w:World) (D:Nat) (fp:Nat->Prop) (d:Dk) (h:Is w D fp d) (i:Nat) (hd:d.down=false) (hi:i<d.n) (ho:d.ops.length<1000000000) (hu:d.uw.length<1000000000):
  Calls Tryz.prog 16 #[.pointer (some ⟨D,0,none⟩),.int .i64 (i:Int)] w fun e w'=>
   ∃R fp',e=.returned (.tuple #[.slice (some ⟨R,0,none⟩) 192 192,.int .i64 0])/\Is w' D fp' (rdOk d i)/\Turned fp w w'/\(∀k,fp' k->fp k∨w.heap.size<=k)/\¬fp' R/\w.heap.size<=R/\w'.heap[R]?=some (.cells (u8s (lat d i)) 114 (0,0)):=by
 obtain ⟨P,uv,ov,h1,h2⟩:=h
 have H:=q4n w D P uv ov d h1
 rw [show rdy d=0 by simp [rdy,hd]] at H
 have HR:Box _:=⟨H⟩
 have H2:=z3x w D P uv ov d h1 i
 rw [show hsp d i=true by simp [hsp,hi]] at H2
 have HH:Box _:=⟨H2⟩
 have HN:Box _:=⟨q8m w D P uv ov d h1 1 i ho⟩
 have HL:Box (∀w1 ov',At w1 D P uv ov' {d with ops:=d.ops++[(1,(i:Int))]}->Calls Tryz.prog 46 #[.pointer (some ⟨D,0,none⟩),.int .i64 (i:Int)] w1 fun e w'=>e=.returned (.agg (u8s (lat d i)))/\Below w1.heap.size w1 w'):=⟨fun w1 ov' ha=>latest_at w1 D P uv ov' _ ha i hi hu⟩
 have hlen:=(q7o h1 i).1
 obtain ⟨B,EB⟩:=named (lat d i)
 rw [EB.out] at HL hlen ⊢
 have HI:Box ((Tryz.prog.info? 114).map (·.size)=some (u8s B).size):=⟨by rw [q0h,hlen];exact info79⟩
 have HZ:Box ((u8s z192).size=(u8s B).toList.length):=⟨by rw [Array.length_toList,q0h,q0h,hlen,q0y]⟩
 have HF:Box (∀k,foot D P uv ov k->fp k):=⟨h2⟩
 clear H H2 h1 h2 hd hi ho hu hlen EB
 go_enter Tryz.func16,Tryz.ntmps16
 go_wp2_with (first
  | (go_at_call 46;refine (HL.out _ _ HN1.out.1).mono ?_;rintro e w2 ⟨rfl,hb2⟩;have HN2:Box _:=⟨hb2⟩;clear hb2)
  | (go_at_call 45;refine HN.out.mono ?_;rintro e w1 ⟨rfl,ov',hn1⟩;have HN1:Box _:=⟨hn1⟩;clear hn1)
  | (go_at_call 43;refine HR.out.mono ?_;rintro e w' ⟨rfl,rfl⟩)
  | (go_at_call 44;refine HH.out.mono ?_;rintro e w' ⟨rfl,rfl⟩)
  | (refine q0b rfl _ _ (q0e 114 rfl (u8s z192) zero79) ?_)
  | (refine wpList_store_mid rfl 114 _ _ rfl w2.heap.size 0 (u8s B) rfl rfl (q0z (q0g rfl) (by rw [HZ.out];simp)) HI.out (q1r _) ?_))
 go_ret2
 obtain ⟨i1,t1,s1⟩:=HN1.out
 obtain ⟨n1,n2,n3⟩:=z0j w2 (u8s z192) 114 (u8s B).toList HZ.out
 have hb:=HN2.out
 have hb2:Below w1.heap.size w1 ((w2.alloc (.cells (u8s z192) 114)).setCells w2.heap.size 0 (u8s B).toList):=hb.trans (n1.mono hb.size)
 obtain ⟨fp',j1,j2,j3⟩:=At.nx HF.out (i1.below hb2) (t1.trans (fp':=fun _=>False) (Turned.of_below hb2) (fun _ h=>h.elim)) s1
 refine ⟨w2.heap.size,foot D P uv ov',rfl,⟨P,uv,ov',i1.below hb2,fun _ hk=>hk⟩,j2,fun k hk=>(s1 k hk).imp (HF.out k) id,fun hf=>?_,?_,n3⟩
 ·have:=i1.lt _ hf
  have:=hb.size
  omega
 ·have:=t1.size
  have:=hb.size
  omega
end Go.Proofs.YtjejnlebpcjidaaGreatDoor.Disk
