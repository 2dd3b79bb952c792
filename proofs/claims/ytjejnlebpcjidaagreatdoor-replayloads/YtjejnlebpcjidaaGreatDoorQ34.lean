/-
 What changes of package replay answers. And what follows it.
-/
import Derived.Test.YtjejnlebpcjidaaGreatDoorQ33
import Derived.Test.YtjejnlebpcjidaaGreatDoorQ20
import Derived.Test.YtjejnlebpcjidaaGreatDoorQ11
import Derived.Test.YtjejnlebpcjidaaGreatDoorQ32
set_option linter.unusedVariables false
set_option maxRecDepth 100000
set_option maxRecDepth 100000
namespace Go.Proofs.YtjejnlebpcjidaaGreatDoor
open Go.RowKit Plain
attribute [local go_sem] Oper.semAt_some
def lastOk (L:List ((Int × List Int) × Bool)):Prop:=∀h:0<L.length,(L[L.length-1]'(by omega)).2=true
def Good (K:List Int) (L:List (Nat × List Int)):Prop:=(∀x∈L,Opn K x)/\lastOk (L.map (opR K))
structure ChQ (w wr:World) (S:Nat) (K:List Int) (X:List Sl) (k:Nat) (v:Value) (R:List Rc):Prop where
 row:wr.ownsRow w.heap.size 95 3 v R.length (R.map rcc).flatten
 byt:∀r∈R,OIm wr w.heap.size r.m/\r.m.bl=160
 eq:R.map rpl=((X.map spl).take k).map (opR K)
 opn:∀x∈(X.map spl).take k,Opn K x
 r0:wr.heap[S]?=some (.cells (u8s K) 23 (0,0))
 bel:Below w.heap.size w wr
theorem ChQ.len {w wr:World} {S:Nat} {K:List Int} {X:List Sl} {k:Nat} {v:Value} {R:List Rc} (h:ChQ w wr S K X k v R) (hk:k<=X.length):R.length=k:=by
 have:=congrArg List.length h.eq
 simp at this
 omega
theorem ChQ.step {w wr x2 w':World} {S k:Nat} {K:List Int} {X:List Sl} {v v':Value} {R:List Rc} (h:ChQ w wr S K X k v R) (hk:k<X.length) (hb:Below wr.heap.size wr x2) (r:Rc) (hr:rpl r=opR K (spl X[k])) (hbl:r.m.bl=160) (ho:OIm x2 wr.heap.size r.m) (hop:Opn K (spl X[k])) (hS:w.heap.size<=S)
  (hw:w'.ownsRow w.heap.size 95 3 v' (R.length+1) ((R.map rcc).flatten++rcc r)) (hg:x2.grownBy w' v.ownBlock):ChQ w w' S K X (k+1) v' (R++[r]):=by
 have hrow:=q2v h.row hb
 have hk2:k<(X.map spl).length:=by simpa using hk
 have hS1:S<wr.heap.size:=(gE h.r0)
 have nS:¬some S=v.ownBlock:=fun e=>by
  obtain ⟨_,cur,h2⟩:=q1j h.row S e.symm
  rw [h.r0] at h2
  simp only [Option.some.injEq,Obj.cells.injEq] at h2
  exact absurd h2.2.1 (by decide)
 refine ⟨?_,fun m hm=>?_,?_,?_,?_,?_⟩
 ·rw [List.map_append,List.flatten_append]
  simpa using hw
 ·rcases List.mem_append.1 hm with hm | hm
  ·exact ⟨(((h.byt m hm).1).to hb).grown hrow (by decide) hg,(h.byt m hm).2⟩
  ·simp only [List.mem_cons,List.not_mem_nil,or_false] at hm
   subst hm
   exact ⟨(ho.grown hrow (by decide) hg).low (h.bel.size),hbl⟩
 ·rw [List.map_append,h.eq,List.take_succ_eq_append_getElem hk2,List.map_append]
  simp [hr]
 ·intro x hx
  rw [List.take_succ_eq_append_getElem hk2] at hx
  rcases List.mem_append.1 hx with hx | hx
  ·exact h.opn x hx
  ·simp only [List.mem_cons,List.not_mem_nil,or_false] at hx
   rw [hx,List.getElem_map]
   exact hop
 ·exact (hg.block S (by have:=hb.size;omega) nS).trans ((hb.block S hS1).trans h.r0)
 ·have hb2:=q0a h.bel hb
  exact hb2.grown hg hb2.size (fun j hj=>(q1j hrow j hj).1)
theorem ChQ.recs {w wr:World} {S n c:Nat} {K:List Int} {X:List Sl} {k:Nat} {a:Option Addr} {R:List Rc} (h:ChQ w wr S K X k (.slice a n c) R) (hn:R.length=n):Recs wr a R:=by
 have hr:=h.row
 rw [hn] at hr
 exact ⟨q6f (f:=rcc) (fun _=>rfl) hr hn,fun r hm=>⟨((h.byt r hm).1).byi.1,((h.byt r hm).1).num,by rw [(h.byt r hm).2];omega⟩⟩
theorem z2i {K:List Int} {L:List (Nat × List Int)} {R:List Rc} (e:R.map rpl=L.map (opR K)):lastOk (L.map (opR K)) ↔ ∀h0:0<R.length,(R[R.length-1]'(by omega)).l=true:=by
 rw [<-e]
 unfold lastOk
 constructor
 ·intro h h0
  have:=h (by simpa using h0)
  simpa [rpl] using this
 ·intro h h0
  have:=h (by simpa using h0)
  simpa [rpl] using this
theorem z8a (R:List Rc):(∀h0:0<R.length,(R[R.length-1]'(by omega)).l=true)∨∃h0:0<R.length,(R[R.length-1]'(by omega)).l=false:=by
 by_cases h0:0<R.length
 ·cases hq:(R[R.length-1]'(by omega)).l
  ·exact .inr ⟨h0,hq⟩
  ·exact .inl fun _=>hq
 ·exact .inl fun h=>absurd h h0
set_option maxHeartbeats 8000000 in
theorem changes_v {w:World} {B:Nat} {v:Value} {X:List Sl} (h:Slots w B v X) (hT:Seal.Tab w) (K:List Int) (hK:K.length=32/\Byt K) (hl:X.length<=1000):
  Calls Tryz.prog 56 #[.agg (u8s K),v] w fun e w'=>((¬Good K (X.map spl)/\e=.returned (.tuple #[.slice none 0 0,.int .i64 14]))∨(Good K (X.map spl)/\∃u C,e=.returned (.tuple #[u,.int .i64 0])/\Chs w' w.heap.size u C/\C.map (fun c=>c.M.map pl)=(chS ((X.map spl).map (opR K))).1))/\Below w.heap.size w w':=by
 obtain ⟨a,c,rfl⟩:=h.form
 obtain ⟨n,hn⟩:=nm X.length
 rw [hn] at h hl ⊢
 obtain ⟨S,hS⟩:=nm w.heap.size
 obtain ⟨AK,hAK⟩:=nm (u8s K)
 rw [hAK]
 obtain ⟨w1,hw1⟩:=nm (w.alloc (.cells AK 23))
 have hb1:Below w.heap.size w w1:=by rw [<-hw1];exact (Below.refl _ _).alloc (Nat.le_refl _) _
 have H0:Box (ChQ w w1 S K X 0 (.slice none 0 0) []):=⟨⟨World.ownsRow_nil _ _ _ _,fun m hm=>by simp at hm,rfl,fun x hx=>by simp at hx,by rw [<-hw1,hAK];exact q0g hS,hb1⟩⟩
 have HSS:Box (w.heap.size=S):=⟨hS⟩
 have HX:Box (∀wr,Below w.heap.size w wr->∀k (hk:k<X.length),∃b,a=some ⟨b,0,none⟩/\wr.rangeAt b (0+k*2) (stc X[k])/\b<wr.heap.size):=⟨fun wr hb k hk=>(h.to hb).at hn k hk⟩
 have HOP:Box (∀(wr y:World) (k:Nat) (hk:k<X.length),Below w.heap.size w wr->Below wr.heap.size wr y->Calls Tryz.prog 82 #[.agg AK,.agg (stc X[k]).toArray] y fun e w'=>((¬Opn K (spl X[k])/\e=.returned (.tuple #[.agg (rcc zrc).toArray,.int .i64 11]))∨(Opn K (spl X[k])/\∃r,e=.returned (.tuple #[.agg (rcc r).toArray,.int .i64 0])/\rpl r=opR K (spl X[k])/\r.m.bl=160/\OIm w' y.heap.size r.m))/\Below y.heap.size y w'):=⟨fun wr y k hk hb hy=>by
  have:=opened_v ((h.to (q0a hb hy)).byt X[k] (List.getElem_mem hk)) (hT.below (q0a hb hy)) K hK
  rw [hAK] at this
  exact this⟩
 have HN:Box (X.length=n/\n<=1000):=⟨hn,hl⟩
 have HKU:Box ((Tryz.prog.info? 23).map (·.size)=some (K.map (Value.int .u8)).length/\(K.map (Value.int .u8)).toArray=AK):=⟨by rw [List.length_map,hK.1];exact infoSum,by rw [<-hAK];rfl⟩
 clear h hT hb1 hn hS hK hAK
 go_enter Tryz.func56,Tryz.ntmps56
 go_upto_region 2 with fail
 (try simp only [HSS.out])
 clear hw1
 go_wp2
 go_loopw [6,15] (fun v i wr=>∃(k:Nat) (R:List Rc),k<=n/\i=.int .i64 (k:Int)/\Box (ChQ w wr S K X k v R)) (fun _ i _=>n-(intOf i).toNat)
 case atStart=>exact ⟨0,[],Nat.zero_le _,rfl,H0⟩
 case round=>
  clear H0
  obtain ⟨k,R,hk,rfl,HG⟩:=hrel
  by_cases hlt:k<n
  ·have hlt1:decide ((k:Int)<(n:Int))=true:=by simp;omega
   have hkX:k<X.length:=by rw [HN.out.1];exact hlt
   obtain ⟨b,rfl,hr,hbl⟩:=HX.out wr HG.out.bel k hkX
   have HR:Box (wr.rangeAt b (0+k*2) (stc X[k])):=⟨hr⟩
   have HK:Box (k<n):=⟨hlt⟩
   obtain ⟨G,hG⟩:=nm wr.heap.size
   have HCL:Box _:=⟨fun y=>HOP.out wr y k hkX HG.out.bel⟩
   have hSl:S<wr.heap.size:=(gE HG.out.r0)
   have HRK:Box (∀y,Below wr.heap.size wr y->y.rangeAt S 0 (K.map (Value.int .u8))):=⟨fun y hy=>q2x ((hy.block S hSl).trans HG.out.r0)⟩
   have HST:Box (∀(x2 w':World) (r:Rc) (v':Value),Below wr.heap.size wr x2->rpl r=opR K (spl X[k])->r.m.bl=160->OIm x2 wr.heap.size r.m->Opn K (spl X[k])->w'.ownsRow w.heap.size 95 3 v' (R.length+1) ((R.map rcc).flatten++rcc r)->x2.grownBy w' u6.ownBlock->∃R',ChQ w w' S K X (k+1) v' R'):=⟨fun x2 w' r v' q1 q2 q3 q4 q5 q6 q7=>⟨_,HG.out.step hkX q1 r q2 q3 q4 q5 (by have:=HSS.out;omega) q6 q7⟩⟩
   have HBAD:Box (¬Opn K (spl X[k])->¬Good K (X.map spl)):=⟨fun h1 h2=>h1 (h2.1 _ (List.mem_map.2 ⟨_,List.getElem_mem hkX,rfl⟩))⟩
   have HBW:Box (∀y,Below wr.heap.size wr y->Below w.heap.size w y):=⟨fun y hy=>q0a HG.out.bel hy⟩
   have HOW:Box (∀y,Below wr.heap.size wr y->y.ownsRow w.heap.size 95 3 u6 R.length (R.map rcc).flatten/\w.heap.size<=y.heap.size):=⟨fun y hy=>⟨q2v HG.out.row hy,Nat.le_trans HG.out.bel.size hy.size⟩⟩
   have HRL:Box (R.length<=1000000):=⟨by have:=HG.out.len (by rw [HN.out.1];exact hk);have:=HN.out.2;omega⟩
   obtain ⟨⟨p,g,bs⟩,hx⟩:∃x,X[k]=x:=⟨_,rfl⟩
   have HHG:Box (wr.heap.size=G):=⟨hG⟩
   rw [hx] at HR HCL HST HBAD
   simp only [stc] at HR HCL
   clear hx hr hG hSl
   go_upto_region 5 with (first
    | (refine atIdx 125 ?_;refine q0b rfl _ _ (q0p 125 168 Tryz.underlying125 2 infoStl _ _ rfl b 0 n c k rfl rfl HK.out) ?_)
    | (refine atLoad 168 ?_;refine q0c rfl 168 _ _ rfl Tryz.underlying168 rfl b (0+k*2) rfl [.int .u32 (p:Int),.slice (some ⟨g,0,none⟩) 192 192] infoStl HR.out ?_)
    | (refine atAlloc _ ?_;refine q0b rfl _ _ (q0e 168 rfl _ zeroStl) ?_)
    | (refine atStore _ ?_;refine q0o wr #[.int .u32 0,.slice none 0 0] #[.int .u32 (p:Int),.slice (some ⟨g,0,none⟩) 192 192] infoStl rfl (by simp [Value.oneCell']) rfl _ _ rfl rfl rfl rfl ?_;intro x1 h1 hb1;have H1:Box (x1.heap[wr.heap.size]?=some (.cells #[.int .u32 (p:Int),.slice (some ⟨g,0,none⟩) 192 192] 168 (0,0))/\Below wr.heap.size wr x1):=⟨h1,hb1⟩;clear h1 hb1))
   (try simp only [HHG.out])
   have HRS:Box (x1.rangeAt G 0 [.int .u32 (p:Int),.slice (some ⟨g,0,none⟩) 192 192]/\x1.rangeAt S 0 (K.map (Value.int .u8))):=⟨by
    have:=H1.out.1
    rw [HHG.out] at this
    exact q2a this _ (fun j v hv=>by simpa using hv),HRK.out x1 H1.out.2⟩
   have HC1:Box _:=⟨HCL.out x1 H1.out.2⟩
   clear HR HCL HX HOP
   by_cases hop:Opn K (spl ⟨p,g,bs⟩)
   ·have HC2:Box (Calls Tryz.prog 82 #[.agg AK,.agg #[.int .u32 (p:Int),.slice (some ⟨g,0,none⟩) 192 192]] x1 fun e w'=>∃r,e=.returned (.tuple #[.agg (rcc r).toArray,.int .i64 0])/\rpl r=opR K (spl ⟨p,g,bs⟩)/\r.m.bl=160/\OIm w' x1.heap.size r.m/\Below x1.heap.size x1 w'):=⟨HC1.out.mono fun e w' ⟨h1,h2⟩=>by
     rcases h1 with ⟨h3,_⟩ | ⟨_,r,q1,q2,q3,q4⟩
     ·exact absurd hop h3
     ·exact ⟨r,q1,q2,q3,q4,h2⟩⟩
    have HOK:Box (Opn K (spl ⟨p,g,bs⟩)):=⟨hop⟩
    clear HC1 hop
    go_upto_region 8 with (first
     | (refine atLoad 23 ?_;refine q0c rfl 23 _ _ rfl Tryz.underlying23 rfl S 0 rfl (K.map (Value.int .u8)) HKU.out.1 HRS.out.2 ?_;rw [HKU.out.2])
     | (refine atLoad 168 ?_;refine q0c rfl 168 _ _ rfl Tryz.underlying168 rfl G 0 rfl [.int .u32 (p:Int),.slice (some ⟨g,0,none⟩) 192 192] infoStl HRS.out.1 ?_)
     | (go_at_call 82;refine HC2.out.mono ?_;rintro e x2 ⟨⟨⟨mb,ma,ml,mc,ms⟩,bo⟩,rfl,q1,q2,q3,q4⟩;have H2:Box (rpl ⟨⟨mb,ma,ml,mc,ms⟩,bo⟩=opR K (spl ⟨p,g,bs⟩)/\ml=160/\OIm x2 x1.heap.size ⟨mb,ma,ml,mc,ms⟩/\Below x1.heap.size x1 x2):=⟨q1,q2,q3,q4⟩;simp only [rcc];clear q1 q2 q3 q4)
     | (refine atAlloc _ ?_;refine q0b rfl _ _ (q0e 95 rfl _ zeroRc) ?_)
     | (refine atStore _ ?_;refine q0o x2 (rcc zrc).toArray #[.int .u64 mb,.slice ma ml mc,.bool bo] infoRc rfl (by simp [Value.oneCell']) rfl _ _ rfl rfl rfl rfl ?_;intro x3 h3 hb3;have H3:Box (x3.heap[x2.heap.size]?=some (.cells #[.int .u64 mb,.slice ma ml mc,.bool bo] 95 (0,0))/\Below x2.heap.size x2 x3):=⟨h3,hb3⟩;clear h3 hb3))
    obtain ⟨G2,hG2⟩:=nm x2.heap.size
    (try simp only [hG2])
    have HR3:Box (x3.rangeAt G2 0 [.int .u64 mb,.slice ma ml mc,.bool bo]/\Below wr.heap.size wr x3/\OIm x3 wr.heap.size ⟨mb,ma,ml,mc,ms⟩):=⟨by
     have:=H3.out.1
     rw [hG2] at this
     exact q2a this _ (fun j v hv=>by simpa using hv),q0a H1.out.2 (q0a H2.out.2.2.2 H3.out.2),(H2.out.2.2.1.to H3.out.2).low H1.out.2.size⟩
    have HO3:Box _:=⟨HOW.out x3 HR3.out.2.1⟩
    clear hG2
    go_wp2_with (first
     | (refine atLoad 95 ?_;refine q0c rfl 95 _ _ rfl Tryz.underlying95 rfl G2 0 rfl [.int .u64 mb,.slice ma ml mc,.bool bo] infoRc HR3.out.1 ?_)
     | (at_builtin;refine q1s 90 95 Tryz.underlying90 3 40 _ infRc rfl (by decide) rfl (.tmp 27) (.tmp 29) rfl w.heap.size R.length u6 (R.map rcc).flatten [.int .u64 mb,.slice ma ml mc,.bool bo] x3 rfl rfl rfl HO3.out.1 rfl (by simp [Value.oneCell']) HRL.out (by decide) (by decide) HO3.out.2 ?_;intro v4 x4 a1 a2;have H4:Box (∃R',ChQ w x4 S K X (k+1) v4 R'):=⟨HST.out x3 x4 ⟨⟨mb,ma,ml,mc,ms⟩,bo⟩ v4 HR3.out.2.1 H2.out.1 H2.out.2.1 HR3.out.2.2 HOK.out a1 a2⟩;clear a1 a2))
    go_roundw
    case rel=>
     obtain ⟨R',h⟩:=H4.out
     exact ⟨k+1,R',by omega,by go_num,⟨h⟩⟩
    case measure=>simp [intOf];omega
   ·have HC2:Box (Calls Tryz.prog 82 #[.agg AK,.agg #[.int .u32 (p:Int),.slice (some ⟨g,0,none⟩) 192 192]] x1 fun e w'=>e=.returned (.tuple #[.agg (rcc zrc).toArray,.int .i64 11])/\Below x1.heap.size x1 w'):=⟨HC1.out.mono fun e w' ⟨h1,h2⟩=>by
     rcases h1 with ⟨_,h3⟩ | ⟨h3,_⟩
     ·exact ⟨h3,h2⟩
     ·exact absurd h3 hop⟩
    have HNG:Box (¬Good K (X.map spl)):=⟨HBAD.out hop⟩
    clear HC1 hop
    go_wp2_with (first
     | (refine atLoad 23 ?_;refine q0c rfl 23 _ _ rfl Tryz.underlying23 rfl S 0 rfl (K.map (Value.int .u8)) HKU.out.1 HRS.out.2 ?_;rw [HKU.out.2])
     | (refine atLoad 168 ?_;refine q0c rfl 168 _ _ rfl Tryz.underlying168 rfl G 0 rfl [.int .u32 (p:Int),.slice (some ⟨g,0,none⟩) 192 192] infoStl HRS.out.1 ?_)
     | (go_at_call 82;refine HC2.out.mono ?_;rintro e x2 ⟨rfl,q4⟩;have H2:Box (Below x1.heap.size x1 x2):=⟨q4⟩;clear q4)
     | (refine atAlloc _ ?_;refine q0b rfl _ _ (q0e 95 rfl _ zeroRc) ?_)
     | (refine atStore _ ?_;refine q0o x2 (rcc zrc).toArray (rcc zrc).toArray infoRc rfl z3w rfl _ _ rfl rfl rfl rfl ?_;intro x3 h3 hb3;have H3:Box (Below x2.heap.size x2 x3):=⟨hb3⟩;clear h3 hb3))
    go_ret2
    exact ⟨.inl ⟨HNG.out,rfl⟩,HBW.out x3 (q0a H1.out.2 (q0a H2.out H3.out))⟩
  ·have hlt1:decide ((k:Int)<(n:Int))=false:=by simp;omega
   obtain rfl:k=n:=by omega
   have hRl:=HG.out.len (by rw [HN.out.1];exact Nat.le_refl _)
   have htk:(X.map spl).take k=X.map spl:=List.take_of_length_le (by rw [List.length_map,HN.out.1];exact Nat.le_refl _)
   have HEQ:Box (R.map rpl=(X.map spl).map (opR K)/\∀x∈X.map spl,Opn K x):=⟨by have:=HG.out.eq;rwa [htk] at this,fun x hx=>HG.out.opn x (by rw [htk];exact hx)⟩
   obtain ⟨a6,c6,rfl⟩:=q0l HG.out.row
   have hrec:=HG.out.recs rfl
   have hk10:=HN.out.2
   have HBW:Box (Below w.heap.size w wr):=⟨HG.out.bel⟩
   rcases z8a R with hla | ⟨h0,hlf⟩
   ·have HCH:Box (Calls Tryz.prog 83 #[.slice a6 R.length c6] wr fun e w'=>∃v C,e=.returned (.tuple #[v,.int .i64 0])/\Chs w' wr.heap.size v C/\C.map (fun c=>c.M.map pl)=(chS (R.map rpl)).1/\Below wr.heap.size wr w'):=⟨z7m a6 c6 R wr hrec (by omega) hla⟩
    have HGD:Box (Good K (X.map spl)):=⟨HEQ.out.2,(z2i HEQ.out.1).2 hla⟩
    clear hla hrec htk HG hRl
    go_wp2_with (go_at_call 83;refine HCH.out.mono ?_;rintro e x2 ⟨u,C,rfl,q1,q2,q3⟩;have H2:Box (Chs x2 wr.heap.size u C/\C.map (fun c=>c.M.map pl)=(chS (R.map rpl)).1/\Below wr.heap.size wr x2):=⟨q1,q2,q3⟩;clear q1 q2 q3)
    go_ret2
    refine ⟨.inr ⟨HGD.out,u,C,rfl,?_,by rw [<-HEQ.out.1];exact H2.out.2.1⟩,q0a HBW.out H2.out.2.2⟩
    have hc:=H2.out.1
    have hz:=HBW.out.size
    refine ⟨q2u hc.row hz,fun c hcm=>?_⟩
    obtain ⟨q1,⟨g,p,q2,q3,q4,q5⟩,q6⟩:=hc.im c hcm
    exact ⟨q1,⟨g,p,by omega,q3,q4,q5⟩,fun m hm=>(q6 m hm).low hz⟩
   ·have HCH:Box (Calls Tryz.prog 83 #[.slice a6 R.length c6] wr fun e w'=>e=.returned (.tuple #[.slice none 0 0,.int .i64 11])/\wr=w'):=⟨z3n a6 c6 R wr hrec (by omega) h0 hlf⟩
    have HGD:Box (¬Good K (X.map spl)):=⟨fun h=>by have:=(z2i HEQ.out.1).1 h.2 h0;rw [hlf] at this;cases this⟩
    clear hlf hrec htk HG hRl h0
    go_wp2_with (go_at_call 83;refine HCH.out.mono ?_;rintro e x2 ⟨rfl,rfl⟩)
    go_ret2
    exact ⟨.inl ⟨HGD.out,rfl⟩,HBW.out⟩
end Go.Proofs.YtjejnlebpcjidaaGreatDoor
namespace Go.Proofs.YtjejnlebpcjidaaGreatDoor
open Go.RowKit Plain
attribute [local go_sem] Oper.semAt_some
def lds (d:Disk.Dk) (f n:Nat) (s:Jst):List (Nat × List Int):=(pcs f n s.start s.count).map fun p=>(p,Disk.lat d p)
def LGood (d:Disk.Dk) (K:List Int) (f n:Nat) (s:Jst):Prop:=chn (lds d f n s)=s.tag/\Good K (lds d f n s)
def ldC (d:Disk.Dk) (K:List Int) (f n:Nat) (s:Jst):List (List (Int × List Int)):=(chS ((lds d f n s).map (opR K))).1
theorem z2v (g o:Nat) (x:World):(Instr.sliceAt 23 (.pointer (some ⟨g,o,none⟩)) none none none).run Tryz.prog x=.ok (.slice (some ⟨g,o,none⟩) 32 32) x:=by kernel_rfl
theorem z2n {w:World} {g o:Nat} {cs:Array Value} {t:TypeId} {fr:Nat × Nat} (h:w.heap[g]?=some (.cells cs t fr)) (L:List Int) (hL:L.length=32) (hb:Byt L) (hc:∀i,i<32->cs[o+i]?=some (.int .u8 (L.getD i 0))):Bytes w (some ⟨g,o,none⟩) 32 L:=
 ⟨hL,hb,fun _=>⟨g,o,rfl,(gE h),fun i hi=>by rw [cell_of_row _ _ _ _ _ _ h];exact hc i hi⟩⟩
theorem Chs.same {w w':World} {B:Nat} {v:Value} {C:List Sx} (h:Chs w B v C) (hs:∀k,B<=k->k<w.heap.size->w'.heap[k]?=w.heap[k]?) (hz:w.heap.size<=w'.heap.size):Chs w' B v C:=by
 refine ⟨q0j h.row (fun k hk=>hs k (q1j h.row k hk).1 (h.row.lt k hk).2),fun c hc=>?_⟩
 obtain ⟨r1,⟨g,p,r2,r3,r4,r5⟩,r6⟩:=h.im c hc
 refine ⟨r1,⟨g,p,r2,Nat.lt_of_lt_of_le r3 hz,r4,fun i hi j v hv=>(World.cell?_of_block (hs g r2 r3)).trans (r5 i hi j v hv)⟩,fun m hm=>?_⟩
 have o:=r6 m hm
 exact ⟨q0j o.own (fun k hk=>hs k (q1j o.own k hk).1 (o.own.lt k hk).2),o.byt,o.num⟩
theorem Chs.igss {w:World} {B c:Nat} {a:Option Addr} {C:List Sx} (h:Chs w B (.slice a C.length c) C) (hl:∀x∈C,x.l<=maxLen):Igss w a C:=by
 refine ⟨q6f (fun _=>rfl) h.row rfl,fun x hx=>?_⟩
 obtain ⟨r1,⟨g,p,r2,r3,r4,r5⟩,r6⟩:=h.im x hx
 exact ⟨r1,⟨fun _=>⟨g,p,r4,r3,r5⟩,fun m hm=>(r6 m hm).byi⟩,hl x hx⟩
set_option maxHeartbeats 8000000 in
theorem z6r {w0 w:World} {D:Nat} {fp:Nat->Prop} {d:Disk.Dk} (C:Disk.Cx w0 w D fp d) (K:List Int) (hK:K.length=32/\Byt K) (f n:Nat) (s:Jst) (hs:OkS s) (h1:1<=n) (hn1:n<=1000) (hfit:f+n<=d.n) (hdn:d.n<=4096) (hm:may n s=true) (hd:0<s.count->d.down=false) (ho:d.ops.length<900000) (hu:d.uw.length<900000) (hT:Dig.Tabs w0) (hT2:Seal.Tab w0):
  Calls Tryz.prog 24 #[.pointer (some ⟨D,0,none⟩),.agg (u8s K),.int .i64 (f:Int),.int .i64 (n:Int),.agg (sa s)] w fun e w'=>∃fp',Disk.Cx w0 w' D fp' (rdD d (pcs f n s.start s.count))/\Disk.Fol w fp w' fp'/\((¬LGood d K f n s/\e=.returned (.tuple #[.slice none 0 0,.int .i64 14]))∨(LGood d K f n s/\∃u X B,e=.returned (.tuple #[u,.int .i64 0])/\Chs w' B u X/\w.heap.size<=B/\(∀k,fp' k->k<B)/\X.map (fun c=>c.M.map pl)=ldC d K f n s)):=by
 have hmm:=q7f hm
 obtain ⟨S,hS⟩:=nm w.heap.size
 obtain ⟨AK,hAK⟩:=nm (u8s K)
 obtain ⟨SA,hSA⟩:=nm (sa s)
 obtain ⟨w1,hw1⟩:=nm ((w.alloc (.cells AK 23)).alloc (.cells SA 27))
 have hb1:Below w.heap.size w w1:=by rw [<-hw1];exact ((Below.refl _ _).alloc (Nat.le_refl _) _).alloc (by simp) _
 have k1:w1.heap[S]?=some (.cells AK 23 (0,0)):=by rw [<-hw1];exact q0i (q0g hS)
 have k2:w1.heap[S+1]?=some (.cells SA 27 (0,0)):=by rw [<-hw1];exact q0g (by simp [hS])
 have hs1:w1.heap.size=S+2:=by rw [<-hw1];simp [hS]
 have C1:=C.step hb1
 have nS:∀i,S<=i->¬fp i:=fun i hi h=>by have:=C.hi i h;omega
 have HJN:Box (Calls Tryz.prog 8 #[.pointer (some ⟨D,0,none⟩),.agg AK,.int .i64 (f:Int),.int .i64 (n:Int),.agg SA,.int .u64 1,.int .u64 1] w1 fun e w'=>∃J,e=.returned (.tuple #[.pointer (some ⟨J,0,none⟩),.int .i64 0])/\Below w1.heap.size w1 w'):=⟨by
  have:=z0x C1 K hK f n h1 hfit hdn s hs hm 1 1 ⟨by omega,by omega⟩ ⟨by omega,by omega⟩ hT hT2
  rw [hAK,hSA] at this
  refine this.mono ?_
  rintro e w' ⟨J,q1,_,q3,_⟩
  exact ⟨J,q1,q3⟩⟩
 have HRD:Box (∀y,Below w1.heap.size w1 y->Calls Tryz.prog 53 #[.pointer (some ⟨D,0,none⟩),.int .u64 (f:Int),.int .u64 (n:Int),.agg SA] y fun e w'=>∃v X fp',e=.returned (.tuple #[v,.int .i64 0])/\Slots w' y.heap.size v X/\X.map spl=lds d f n s/\Disk.Cx w0 w' D fp' (rdD d (pcs f n s.start s.count))/\Disk.Fol y fp w' fp'):=⟨fun y hy=>by
  have:=read_v (C1.step hy) f n s h1 hfit hdn hm hd ho hu
  rw [hSA] at this
  exact this⟩
 have HKP:Box (∀y z fp',Below w1.heap.size w1 y->Disk.Fol y fp z fp'->z.heap[S]?=some (.cells AK 23 (0,0))/\z.heap[S+1]?=some (.cells SA 27 (0,0))):=⟨fun y z fp' hy hz=>by
  have hz1:=hy.size
  exact ⟨(hz.t.block S (by omega) (nS S (Nat.le_refl _))).trans ((hy.block S (by omega)).trans k1),(hz.t.block (S+1) (by omega) (nS _ (by omega))).trans ((hy.block (S+1) (by omega)).trans k2)⟩⟩
 have HR1:Box ((∀y:World,y.heap[S]?=some (.cells AK 23 (0,0))->y.rangeAt S 0 (K.map (Value.int .u8)))/\(Tryz.prog.info? 23).map (·.size)=some (K.map (Value.int .u8)).length/\(K.map (Value.int .u8)).toArray=AK/\(∀y:World,y.heap[S+1]?=some (.cells SA 27 (0,0))->y.rangeAt (S+1) 0 (scs s)/\Bytes y (some ⟨S+1,2,none⟩) 32 s.tag)/\(Tryz.prog.info? 27).map (·.size)=some (scs s).length/\(scs s).toArray=SA):=⟨fun y hy=>by rw [<-hAK] at hy;exact q2x hy,by rw [List.length_map,hK.1];exact infoSum,by rw [<-hAK];rfl,fun y hy=>by
  rw [<-hSA] at hy
  refine ⟨q3q hy,z2n hy s.tag hs.lt hs.bt (fun i hi=>?_)⟩
  have hi2:i<s.tag.length:=by rw [hs.lt];exact hi
  rw [show 2+i=i+1+1 by omega]
  simp [sa,scs,List.getD,hi2],by rw [q0u hs];exact infoSt,by rw [<-hSA];rfl⟩
 have HCH:Box (∀y B v X,Below w0.heap.size w0 y->Slots y B v X->X.map spl=lds d f n s->Calls Tryz.prog 54 #[v] y fun e w'=>e=.returned (.agg (u8s (chn (lds d f n s))))/\Below y.heap.size y w'):=⟨fun y B v X hy hX he=>by
  have:=chain_v hX (hT.below hy) (by have:=congrArg List.length he;simp [lds,pcs] at this;omega)
  rw [he] at this
  exact this⟩
 have HCG:Box (∀y B v X,Below w0.heap.size w0 y->Slots y B v X->X.map spl=lds d f n s->Calls Tryz.prog 56 #[.agg AK,v] y fun e w'=>((¬Good K (lds d f n s)/\e=.returned (.tuple #[.slice none 0 0,.int .i64 14]))∨(Good K (lds d f n s)/\∃u C,e=.returned (.tuple #[u,.int .i64 0])/\Chs w' y.heap.size u C/\C.map (fun c=>c.M.map pl)=ldC d K f n s))/\Below y.heap.size y w'):=⟨fun y B v X hy hX he=>by
  have:=changes_v hX (hT2.below hy) K hK (by have:=congrArg List.length he;simp [lds,pcs] at this;omega)
  rw [he,hAK] at this
  exact this⟩
 have HFO:Box (∀y z z2 fp',Below w1.heap.size w1 y->Disk.Fol y fp z fp'->Disk.Cx w0 z D fp' (rdD d (pcs f n s.start s.count))->Below z.heap.size z z2->Disk.Cx w0 z2 D fp' (rdD d (pcs f n s.start s.count))/\Disk.Fol w fp z2 fp'/\w.heap.size<=z.heap.size):=⟨fun y z z2 fp' hy hz hc hz2=>by
  have hb:=q0a hb1 hy
  refine ⟨hc.step hz2,q6r ⟨Disk.Turned.of_below hb,fun _ _ h=>h⟩ (q6r hz ⟨Disk.Turned.of_below hz2,fun _ _ h=>h⟩),?_⟩
  have:=hb.size
  have:=hz.t.size
  omega⟩
 have HSS:Box (w.heap.size=S):=⟨hS⟩
 have hs2:(w.alloc (.cells AK 23)).heap.size=S+1:=by simp [hS]
 have hwf:IntKind.u64.wrap (f:Int)=(f:Int):=by rw [IntKind.wrap_u64];omega
 have hwn:IntKind.u64.wrap (n:Int)=(n:Int):=by rw [IntKind.wrap_u64];omega
 have hw1r:Box (w1.heap[S]?=some (.cells AK 23 (0,0))/\w1.heap[S+1]?=some (.cells SA 27 (0,0))/\w1.heap.size=S+2):=⟨k1,k2,hs1⟩
 obtain ⟨LL,hLL⟩:=nm (lds d f n s)
 obtain ⟨Tg,hTg⟩:=nm (chn LL)
 have HTG:Box (chn (lds d f n s)=Tg/\Tg.length=32/\Byt Tg/\s.tag.length=32):=⟨by rw [hLL];exact hTg,by rw [<-hTg];exact (q4k _).1,by rw [<-hTg];exact (q4k _).2,hs.lt⟩
 rw [hAK,hSA]
 rw [HTG.out.1] at HCH
 have HTS:Box ((Tryz.prog.info? 23).map (·.size)=some (u8s Tg).size/\(u8s z32).size=(u8s Tg).size):=⟨by rw [q0h,HTG.out.2.1];exact infoSum,by rw [q0h,q0h,HTG.out.2.1,q1l]⟩
 clear C hK hs h1 hn1 hfit hdn hm hd ho hu hT hT2 hmm hb1 k1 k2 hs1 C1 nS hS hAK hSA hLL hTg
 go_enter Tryz.func24,Tryz.ntmps24
 go_upto_region 1 with fail
 (try rw [hs2])
 (try simp only [HSS.out])
 clear hw1 hs2
 have HRa:Box (w1.rangeAt S 0 (K.map (Value.int .u8))/\w1.rangeAt (S+1) 0 (scs s)):=⟨HR1.out.1 w1 hw1r.out.1,(HR1.out.2.2.2.1 w1 hw1r.out.2.1).1⟩
 go_upto_region 4 with (first
  | (refine atLoad 23 ?_;refine q0c rfl 23 _ _ rfl Tryz.underlying23 rfl S 0 rfl (K.map (Value.int .u8)) HR1.out.2.1 HRa.out.1 ?_;rw [HR1.out.2.2.1])
  | (refine atLoad 27 ?_;refine q0c rfl 27 _ _ rfl Tryz.underlying27 rfl (S+1) 0 rfl (scs s) HR1.out.2.2.2.2.1 HRa.out.2 ?_;rw [HR1.out.2.2.2.2.2])
  | (go_at_call 8;refine HJN.out.mono ?_;rintro e x1 ⟨J,rfl,hb⟩;have H1:Box (Below w1.heap.size w1 x1):=⟨hb⟩;clear hb))
 have HRb:Box (x1.rangeAt (S+1) 0 (scs s)):=⟨(HR1.out.2.2.2.1 x1 ((H1.out.block (S+1) (by have:=hw1r.out.2.2;omega)).trans hw1r.out.2.1)).1⟩
 have HRDx:Box _:=⟨HRD.out x1 H1.out⟩
 clear HRa HRD HJN
 go_upto_region 7 with (first
  | (refine atLoad 27 ?_;refine q0c rfl 27 _ _ rfl Tryz.underlying27 rfl (S+1) 0 rfl (scs s) HR1.out.2.2.2.2.1 HRb.out ?_;rw [HR1.out.2.2.2.2.2])
  | (go_at_call 53;refine HRDx.out.mono ?_;rintro e x2 ⟨v,X,fp2,rfl,q1,q2,q3,q4⟩;have H2:Box (Slots x2 x1.heap.size v X/\X.map spl=lds d f n s/\Disk.Cx w0 x2 D fp2 (rdD d (pcs f n s.start s.count))/\Disk.Fol x1 fp x2 fp2):=⟨q1,q2,q3,q4⟩;clear q1 q2 q3 q4))
 have HCx:Box _:=⟨HCH.out x2 _ v X H2.out.2.2.1.bel H2.out.1 H2.out.2.1⟩
 have HK2:Box _:=⟨HKP.out x1 x2 fp2 H1.out H2.out.2.2.2⟩
 clear HCH HKP HRb HRDx
 go_upto_region 8 with (first
  | (go_at_call 54;refine HCx.out.mono ?_;rintro e x3 ⟨rfl,hb⟩;have H3:Box (Below x2.heap.size x2 x3):=⟨hb⟩;clear hb)
  | (refine atAlloc _ ?_;refine q0b rfl _ _ (q0e 23 rfl _ zeroSum) ?_)
  | (refine atStore _ ?_;refine q0o x3 (u8s z32) (u8s Tg) HTS.out.1 HTS.out.2 (q1r Tg) rfl _ _ rfl rfl rfl rfl ?_;intro x4 h4 hb4;have H4:Box (x4.heap[x3.heap.size]?=some (.cells (u8s Tg) 23 (0,0))/\Below x3.heap.size x3 x4):=⟨h4,hb4⟩;clear h4 hb4))
 obtain ⟨T,hTt⟩:=nm x3.heap.size
 (try simp only [hTt])
 have HB4:Box (Below x2.heap.size x2 x4/\x4.heap[S]?=some (.cells AK 23 (0,0))/\x4.heap[S+1]?=some (.cells SA 27 (0,0))/\x4.heap[T]?=some (.cells (u8s Tg) 23 (0,0))):=⟨by
  have hb:=q0a H3.out H4.out.2
  have l1:=(gE HK2.out.1)
  have l2:=(gE HK2.out.2)
  rw [<-hTt]
  exact ⟨hb,(hb.block S l1).trans HK2.out.1,(hb.block (S+1) l2).trans HK2.out.2,H4.out.1⟩⟩
 have HEQ:Box (∀m,Calls Tryz.prog 55 #[.slice (some ⟨T,0,none⟩) 32 32,.slice (some ⟨S+1,2,none⟩) 32 32] (x4.drewN m) fun e w'=>e=.returned (.bool (decide (Tg=s.tag)))/\w'=x4.drewN m):=⟨fun m=>by
  have b1:Bytes (x4.drewN m) (some ⟨T,0,none⟩) 32 Tg:=z2n (w:=x4.drewN m) HB4.out.2.2.2 Tg HTG.out.2.1 HTG.out.2.2.1 (fun i hi=>by
   have hi2:i<Tg.length:=by rw [HTG.out.2.1];exact hi
   simp [u8s,List.getD,hi2])
  have b2:Bytes (x4.drewN m) (some ⟨S+1,2,none⟩) 32 s.tag:=(HR1.out.2.2.2.1 (x4.drewN m) HB4.out.2.2.1).2
  exact (bytes_any _ _ 32 32 32 32 Tg s.tag _ b1 b2 (by omega) (by omega)).mono fun _ _ ⟨h1,h2⟩=>⟨h1,h2.symm⟩⟩
 have hsl:=z2v T 0
 have hsl2:=z2v (S+1) 2
 clear hTt HCx
 by_cases htg:Tg=s.tag
 ·have hdt:decide (Tg=s.tag)=true:=by simpa using htg
  rw [hdt] at HEQ
  have HTE:Box (chn (lds d f n s)=s.tag):=⟨HTG.out.1.trans htg⟩
  clear htg hdt
  go_quiet (first | (go_at_call 55;exact Calls.quiet_of_same (HEQ.out _)))
  obtain ⟨x5,hx5⟩:=nm (x4.drewN nq)
  have H5:Box (Below x4.heap.size x4 x5/\x5.heap[S]?=some (.cells AK 23 (0,0))):=⟨by rw [<-hx5];exact q3e (Below.refl _ _) nq,by rw [<-hx5];exact HB4.out.2.1⟩
  rw [hx5]
  clear hx5 HEQ
  have HR5:Box (x5.rangeAt S 0 (K.map (Value.int .u8))):=⟨HR1.out.1 x5 H5.out.2⟩
  have hb25:=q0a HB4.out.1 H5.out.1
  have HCG5:Box _:=⟨HCG.out x5 _ v X (q0a H2.out.2.2.1.bel hb25) (H2.out.1.to hb25) H2.out.2.1⟩
  have H25:Box (Below x2.heap.size x2 x5):=⟨hb25⟩
  clear hb25
  by_cases hgd:Good K (lds d f n s)
  ·have HC7:Box (Calls Tryz.prog 56 #[.agg AK,v] x5 fun e w'=>∃u C,e=.returned (.tuple #[u,.int .i64 0])/\Chs w' x5.heap.size u C/\C.map (fun c=>c.M.map pl)=ldC d K f n s/\Below x5.heap.size x5 w'):=⟨HCG5.out.mono fun e w' ⟨h1,h2⟩=>by
    rcases h1 with ⟨h3,_⟩ | ⟨_,u,C,q1,q2,q3⟩
    ·exact absurd hgd h3
    ·exact ⟨u,C,q1,q2,q3,h2⟩⟩
   have HGD:Box (Good K (lds d f n s)):=⟨hgd⟩
   clear HCG5 hgd HCG
   go_wp2_with (first
    | (refine atLoad 23 ?_;refine q0c rfl 23 _ _ rfl Tryz.underlying23 rfl S 0 rfl (K.map (Value.int .u8)) HR1.out.2.1 HR5.out ?_;rw [HR1.out.2.2.1])
    | (go_at_call 56;refine HC7.out.mono ?_;rintro e x6 ⟨u,C,rfl,q1,q2,q3⟩;have H6:Box (Chs x6 x5.heap.size u C/\C.map (fun c=>c.M.map pl)=ldC d K f n s/\Below x5.heap.size x5 x6):=⟨q1,q2,q3⟩;clear q1 q2 q3))
   go_ret2
   obtain ⟨q1,q2,q3⟩:=HFO.out x1 x2 x6 fp2 H1.out H2.out.2.2.2 H2.out.2.2.1 (q0a H25.out H6.out.2.2)
   have hz:w.heap.size<=x5.heap.size:=Nat.le_trans q3 H25.out.size
   exact ⟨fp2,q1,q2,.inr ⟨⟨HTE.out,HGD.out⟩,u,C,x5.heap.size,rfl,H6.out.1,hz,fun k hk=>by have:=H2.out.2.2.1.hi k hk;have:=H25.out.size;omega,H6.out.2.1⟩⟩
  ·have HC7:Box (Calls Tryz.prog 56 #[.agg AK,v] x5 fun e w'=>e=.returned (.tuple #[.slice none 0 0,.int .i64 14])/\Below x5.heap.size x5 w'):=⟨HCG5.out.mono fun e w' ⟨h1,h2⟩=>by
    rcases h1 with ⟨_,h3⟩ | ⟨h3,_⟩
    ·exact ⟨h3,h2⟩
    ·exact absurd h3 hgd⟩
   have HGD:Box (¬Good K (lds d f n s)):=⟨hgd⟩
   clear HCG5 hgd HCG
   go_wp2_with (first
    | (refine atLoad 23 ?_;refine q0c rfl 23 _ _ rfl Tryz.underlying23 rfl S 0 rfl (K.map (Value.int .u8)) HR1.out.2.1 HR5.out ?_;rw [HR1.out.2.2.1])
    | (go_at_call 56;refine HC7.out.mono ?_;rintro e x6 ⟨rfl,q3⟩;have H6:Box (Below x5.heap.size x5 x6):=⟨q3⟩;clear q3))
   go_ret2
   obtain ⟨q1,q2,q3⟩:=HFO.out x1 x2 x6 fp2 H1.out H2.out.2.2.2 H2.out.2.2.1 (q0a H25.out H6.out)
   exact ⟨fp2,q1,q2,.inl ⟨fun h=>HGD.out h.2,rfl⟩⟩
 ·have hdt:decide (Tg=s.tag)=false:=by simpa using htg
  rw [hdt] at HEQ
  have HTE:Box (¬LGood d K f n s):=⟨fun h=>htg (HTG.out.1.symm.trans h.1)⟩
  clear htg hdt
  go_quiet (first | (go_at_call 55;exact Calls.quiet_of_same (HEQ.out _)))
  go_wp2
  go_ret2
  obtain ⟨q1,q2,q3⟩:=HFO.out x1 x2 (x4.drewN nq) fp2 H1.out H2.out.2.2.2 H2.out.2.2.1 (q3e HB4.out.1 nq)
  exact ⟨fp2,q1,q2,.inl ⟨HTE.out,rfl⟩⟩
end Go.Proofs.YtjejnlebpcjidaaGreatDoor
namespace Go.Proofs.YtjejnlebpcjidaaGreatDoor.Disk
open Go.RowKit Go.Proofs.YtjejnlebpcjidaaGreatDoor.Plain Go.Proofs.YtjejnlebpcjidaaGreatDoor.Disk.Plain
set_option maxRecDepth 20000 in
set_option maxHeartbeats 2000000 in
theorem z7x (w:World) (n:Nat) (vd vw vo:Value) (l:Int) (hd:vd.oneCell'=true) (hw:vw.oneCell'=true) (ho:vo.oneCell'=true) (i:Int):
  Calls Tryz.prog 57 #[.agg (rv n vd vw l true vo).toArray,.int .i64 i] w fun e w'=>e=.returned (.tuple #[.agg (rv n vd vw l true vo).toArray,.string ByteArray.empty,.int .i64 13])/\Below w.heap.size w w':=by
 have H1:Box (vd.oneCell'=true/\vw.oneCell'=true/\vo.oneCell'=true):=⟨hd,hw,ho⟩
 clear hd hw ho
 have H:Box (Bx w.heap.size w ((w.alloc (.cells (rv n vd vw l true vo).toArray 36)).alloc (.cells #[.int .i64 0,.slice none 0 0,.slice none 0 0,.int .i64 0,.bool false,.slice none 0 0] 36)) (rv n vd vw l true vo)):=⟨Bx.start w _ _ rfl⟩
 obtain ⟨S,HS⟩:∃S,Box (w.heap.size=S):=⟨_,⟨rfl⟩⟩
 go_enter Tryz.func57,Tryz.ntmps57
 go_upto_region 1 with fail
 rw [HS.out] at H ⊢
 generalize (w.alloc (.cells (rv n vd vw l true vo).toArray 36)).alloc (.cells #[.int .i64 0,.slice none 0 0,.slice none 0 0,.int .i64 0,.bool false,.slice none 0 0] 36)=w1 at H ⊢
 have c4:w1.cell? ⟨S,4,none⟩=some (.bool true):=H.out.cell 4
 go_wp2_with (first
  | (refine q0v rfl _ rfl S (rv n vd vw l true vo) rfl H.out.hB rfl ?_)
  | (refine q2j rfl _ _ rfl S w _ (rv n vd vw l true vo) rfl rfl H.out rfl (q4o H1.out.1 H1.out.2.1 H1.out.2.2) ?_;intro w5 h5 b5 t5))
 (try simp only [Exit.inBlock,Exit.then])
 refine bodyPost_ret (q2r rfl _ _ (S+1) _ rfl rfl h5) rfl ?_
 exact ⟨rfl,HS.out▸b5.below⟩
set_option maxRecDepth 20000 in
set_option maxHeartbeats 2000000 in
theorem rread_ok (w:World) (n:Nat) (vd vw vo:Value) (l:Int) (Ld L:List (Nat × List Int)) (O:List (Int × Int)) (hd:Rw w vd Ld) (hw:Rw w vw L) (ho:Ro w vo O) (hLd:Ld.length<1000000) (hL:L.length<1000000) (hO:O.length<1000000) (k:Nat) (hk:k<n):
  Calls Tryz.prog 57 #[.agg (rv n vd vw l false vo).toArray,.int .i64 (k:Int)] w fun e w'=>∃vo',e=.returned (.tuple #[.agg (rv n vd vw l false vo').toArray,.string (strOfNums (rlat Ld L k)),.int .i64 0])/\Below w.heap.size w w'/\Ro w' vo' (O++[(1,(k:Int))]):=by
 have HW:Box (Rw w vw L/\Ro w vo O/\L.length<1000000/\O.length<1000000/\Rw w vd Ld/\Ld.length<1000000):=⟨hw,ho,hL,hO,hd,hLd⟩
 have d0:decide ((k:Int)<0)=false:=by simp
 have d1:decide ((n:Int)<=(k:Int))=false:=by simp;omega
 have d2:decide (n<=k)=false:=by simp;omega
 clear hk hLd hL hO
 obtain ⟨ad,cd,rfl⟩:=q0l hd
 obtain ⟨aw,cw,rfl⟩:=q0l hw
 obtain ⟨ao,co,rfl⟩:=q0l ho
 clear hd hw ho
 have H:Box (Bx w.heap.size w ((w.alloc (.cells (rv n (.slice ad Ld.length cd) (.slice aw L.length cw) l false (.slice ao O.length co)).toArray 36)).alloc (.cells #[.int .i64 0,.slice none 0 0,.slice none 0 0,.int .i64 0,.bool false,.slice none 0 0] 36)) (rv n (.slice ad Ld.length cd) (.slice aw L.length cw) l false (.slice ao O.length co))):=⟨Bx.start w _ _ rfl⟩
 obtain ⟨S,HS⟩:∃S,Box (w.heap.size=S):=⟨_,⟨rfl⟩⟩
 go_enter Tryz.func57,Tryz.ntmps57
 go_upto_region 1 with fail
 rw [HS.out] at H ⊢
 generalize (w.alloc (.cells (rv n (.slice ad Ld.length cd) (.slice aw L.length cw) l false (.slice ao O.length co)).toArray 36)).alloc (.cells #[.int .i64 0,.slice none 0 0,.slice none 0 0,.int .i64 0,.bool false,.slice none 0 0] 36)=w1 at H ⊢
 have c4:w1.cell? ⟨S,4,none⟩=some (.bool false):=H.out.cell 4
 have c0:w1.cell? ⟨S,0,none⟩=some (.int .i64 (n:Int)):=H.out.cell 0
 have c2:w1.cell? ⟨S,2,none⟩=some (.slice aw L.length cw):=H.out.cell 2
 have HL:Box (Calls Tryz.prog 84 #[(.slice aw L.length cw),.int .i64 (k:Int)] w1 fun e w'=>e=.returned (lst L k)/\w1=w'):=⟨z3b w1 _ L k (H.out.old HW.out.1) HW.out.2.2.1⟩
 cases hlo:lastOf L k with
 | some B=>
  have e1:Box (lst L k=.tuple #[.string (strOfNums B),.bool true]/\rlat Ld L k=B):=⟨by rw [lst,hlo],by rw [rlat,hlo];rfl⟩
  rw [e1.out.1] at HL
  clear hlo
  have HN:Box (Calls Tryz.prog 52 #[.agg (rv n (.slice ad Ld.length cd) (.slice aw L.length cw) l false (.slice ao O.length co)).toArray,.int .i64 1,.int .i64 (k:Int)] w1 fun e w'=>∃v',e=.returned (.agg (rv n (.slice ad Ld.length cd) (.slice aw L.length cw) l false v').toArray)/\Ro w' v' (O++[(1,(k:Int))])/\Below w1.heap.size w1 w'/\∀k,v'.ownBlock=some k->w1.heap.size<=k):=⟨q5u w1 _ _ _ _ _ _ O 1 k rfl rfl (H.out.old HW.out.2.1) HW.out.2.2.2.1⟩
  go_wp2_with (first
   | (go_at_call 84;refine HL.out.mono ?_;rintro e w' ⟨rfl,rfl⟩)
   | (refine q0v rfl _ rfl S (rv n (.slice ad Ld.length cd) (.slice aw L.length cw) l false (.slice ao O.length co)) rfl H.out.hB rfl ?_)
   | (go_at_call 52;refine HN.out.mono ?_;rintro e w6 ⟨v6,rfl,r6,b6,o6⟩;have H6:Box (Bx S w w6 (rv n (.slice ad Ld.length cd) (.slice aw L.length cw) l false (.slice ao O.length co))):=⟨H.out.on b6⟩;have R6:Box (Ro w6 v6 (O++[(1,(k:Int))])/\∀k,v6.ownBlock=some k->S+2<=k):=⟨r6,fun k hk=>by have:=o6 k hk;have:=H.out.lt;omega⟩;clear r6 b6 o6)
   | (refine q2j rfl _ _ rfl S w _ (rv n (.slice ad Ld.length cd) (.slice aw L.length cw) l false v6) rfl rfl H6.out rfl (q4o rfl rfl (q3y R6.out.1)) ?_;intro w7 h7 b7 t7))
  (try simp only [Exit.inBlock,Exit.then])
  refine bodyPost_ret (q2r rfl _ _ (S+1) _ rfl rfl h7) rfl ?_
  exact ⟨_,by rw [e1.out.2];rfl,HS.out▸b7.below,q3o R6.out.1 t7 (fun k e=>by omega) R6.out.2⟩
 | none=>
  have e1:Box (lst L k=.tuple #[.string ByteArray.empty,.bool false]/\rlat Ld L k=rat Ld k):=⟨by rw [lst,hlo],by rw [rlat,hlo];rfl⟩
  rw [e1.out.1] at HL
  clear hlo
  have HA:Box (Calls Tryz.prog 85 #[.agg (rv n (.slice ad Ld.length cd) (.slice aw L.length cw) l false (.slice ao O.length co)).toArray,.int .i64 (k:Int)] w1 fun e w'=>e=.returned (.string (strOfNums (rat Ld k)))/\Below w1.heap.size w1 w'):=⟨rat_any w1 _ _ _ _ _ _ Ld k (H.out.old HW.out.2.2.2.2.1) HW.out.2.2.2.2.2⟩
  go_upto_region 8 with (first
   | (go_at_call 84;refine HL.out.mono ?_;rintro e w' ⟨rfl,rfl⟩)
   | (refine q0v rfl _ rfl S (rv n (.slice ad Ld.length cd) (.slice aw L.length cw) l false (.slice ao O.length co)) rfl H.out.hB rfl ?_)
   | (go_at_call 85;refine HA.out.mono ?_;rintro e w2 ⟨rfl,b2⟩;have H2:Box (Bx S w w2 (rv n (.slice ad Ld.length cd) (.slice aw L.length cw) l false (.slice ao O.length co))):=⟨H.out.on b2⟩;clear b2))
  have HN:Box (Calls Tryz.prog 52 #[.agg (rv n (.slice ad Ld.length cd) (.slice aw L.length cw) l false (.slice ao O.length co)).toArray,.int .i64 1,.int .i64 (k:Int)] w2 fun e w'=>∃v',e=.returned (.agg (rv n (.slice ad Ld.length cd) (.slice aw L.length cw) l false v').toArray)/\Ro w' v' (O++[(1,(k:Int))])/\Below w2.heap.size w2 w'/\∀k,v'.ownBlock=some k->w2.heap.size<=k):=⟨q5u w2 _ _ _ _ _ _ O 1 k rfl rfl (H2.out.old HW.out.2.1) HW.out.2.2.2.1⟩
  clear c4 c0 c2 HL HA
  go_wp2_with (first
   | (refine q0v rfl _ rfl S (rv n (.slice ad Ld.length cd) (.slice aw L.length cw) l false (.slice ao O.length co)) rfl H2.out.hB rfl ?_)
   | (go_at_call 52;refine HN.out.mono ?_;rintro e w6 ⟨v6,rfl,r6,b6,o6⟩;have H6:Box (Bx S w w6 (rv n (.slice ad Ld.length cd) (.slice aw L.length cw) l false (.slice ao O.length co))):=⟨H2.out.on b6⟩;have R6:Box (Ro w6 v6 (O++[(1,(k:Int))])/\∀k,v6.ownBlock=some k->S+2<=k):=⟨r6,fun k hk=>by have:=o6 k hk;have:=H2.out.lt;omega⟩;clear r6 b6 o6)
   | (refine q2j rfl _ _ rfl S w _ (rv n (.slice ad Ld.length cd) (.slice aw L.length cw) l false v6) rfl rfl H6.out rfl (q4o rfl rfl (q3y R6.out.1)) ?_;intro w7 h7 b7 t7))
  (try simp only [Exit.inBlock,Exit.then])
  refine bodyPost_ret (q2r rfl _ _ (S+1) _ rfl rfl h7) rfl ?_
  exact ⟨_,by rw [e1.out.2];rfl,HS.out▸b7.below,q3o R6.out.1 t7 (fun k e=>by omega) R6.out.2⟩
theorem rread_j {k:Nat} {d:Dk} {r:Rd} (hJ:J k d r) (hk:k<900000) (m:Nat) (hm:m<d.n) (hd:d.down=false):
  J (k+1) (rdOk d (m:Int)) {r with ops:=r.ops++[(1,(m:Int))]}/\∀w2 v,Rv w2 v r->Calls Tryz.prog 57 #[v,.int .i64 (m:Int)] w2 fun e w3=>∃v',e=.returned (.tuple #[v',.string (strOfNums (lat d m)),.int .i64 0])/\Rv w3 v' {r with ops:=r.ops++[(1,(m:Int))]}/\Below w2.heap.size w2 w3:=by
 have l1:=hJ.l1
 have l2:=hJ.l2
 have e1:=hJ.way
 have e2:=hJ.ops
 refine ⟨⟨hJ.n,hJ.pl,hJ.way,hJ.down,hJ.st,hJ.no,hJ.lo,by show r.ops++_=d.ops++_;rw [e2],by show r.done.length+r.way.length<=k+1;omega,by show (r.ops++_).length<=k+1;simp;omega⟩,fun w2 v hv=>?_⟩
 obtain ⟨vd,vw,vo,rfl,h1,h2,h3⟩:=hv
 rw [hJ.down,hd]
 have hlat:lat d m=rlat r.done r.way m:=by rw [lat,rlat,e1,hJ.pl]
 rw [hlat]
 refine (rread_ok w2 r.n vd vw vo r.left r.done r.way r.ops h1 h2 h3 (by omega) (by omega) (by omega) m (by rw [hJ.n];exact hm)).mono ?_
 rintro e w3 ⟨vo',rfl,hb,h4⟩
 exact ⟨_,rfl,⟨vd,vw,vo',rfl,h1.below hb,h2.below hb,h4⟩,hb⟩
end Go.Proofs.YtjejnlebpcjidaaGreatDoor.Disk
