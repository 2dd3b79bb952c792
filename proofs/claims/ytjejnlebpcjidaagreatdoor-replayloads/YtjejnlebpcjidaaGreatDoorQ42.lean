/-
 A journal to which changes are appended and adopted, one behind the other: plainly; and what is wanted beside it in memory. And what follows it.
-/
import Derived.Test.YtjejnlebpcjidaaGreatDoorQ36
import Derived.Test.YtjejnlebpcjidaaGreatDoorQ25
import Derived.Test.YtjejnlebpcjidaaGreatDoorQ40
import Derived.Test.YtjejnlebpcjidaaGreatDoorQ41
import Derived.Test.YtjejnlebpcjidaaGreatDoorQ38
set_option linter.unusedVariables false
set_option maxRecDepth 100000
set_option maxRecDepth 100000
namespace Go.Proofs.YtjejnlebpcjidaaGreatDoor
open Go.RowKit Plain
theorem img_okL {w w':World} {M:List Im} {v:Value} {X:List Im} (h:Ig w w' false M M.length v X) (hM:∀m∈M,Byt m.bs):∀x∈X.map pl,x.2.length=160/\Byt x.2/\N64 x.1:=by
 intro x hx
 obtain ⟨m,hm,rfl⟩:=List.mem_map.1 hx
 have o:=h.im.byt m hm
 refine ⟨?_,o.byt,o.num⟩
 have hx2:=hx
 rw [h.pls,List.take_of_length_le (by simp [q7z])] at hx2
 obtain ⟨i,hi,e⟩:=List.getElem_of_mem hx2
 rw [q7z] at hi
 rw [z6c false (M.map pl) i hi] at e
 rw [<-e]
 simp only [q4g]
 unfold szP
 rw [if_neg (by simp)]
theorem img_blL {w w':World} {M:List Im} {v:Value} {X:List Im} (h:Ig w w' false M M.length v X) (hM:∀m∈M,Byt m.bs):∀m∈X,m.bl=160:=by
 intro m hm
 have h1:=(img_okL h hM (pl m) (List.mem_map_of_mem hm)).1
 have h2:=(h.im.byt m hm).byi.1.1
 rw [<-h2]
 exact h1
theorem OImgs.same {w w':World} {B:Nat} {v:Value} {M:List Im} (h:OImgs w B v M) (hs:∀k,B<=k->k<w.heap.size->w'.heap[k]?=w.heap[k]?):OImgs w' B v M:=
 ⟨q0j h.row (fun k hk=>hs k (q1j h.row k hk).1 (h.row.lt k hk).2),fun m hm=>⟨q0j (h.byt m hm).own (fun k hk=>hs k (q1j (h.byt m hm).own k hk).1 ((h.byt m hm).own.lt k hk).2),(h.byt m hm).byt,(h.byt m hm).num⟩⟩
structure Ln (K:List Int) (k i:Nat) (j:Jt) (d:Disk.Dk):Prop where
 key:j.key=K
 first:j.first=1
 size:j.size=k
 lim:j.lim=1099511627776
 nx:j.nx<=1+((6*i:Nat):Int)
 up:Up d
 dn:d.n=12
 ops:d.ops.length<=6*i
 uw:d.uw.length<=6*i
 left:0<=d.left/\d.left<=9223372036854775807
theorem Ln.next {K:List Int} {k i m:Nat} {j:Jt} {d:Disk.Dk} {Y:Ast} (h:Ln K k i j d) (f:ApF j d m Y) (hm:m<=6):Ln K k (i+1) {j with nx:=Y.2.1} Y.1:=
 ⟨h.key,h.first,h.size,h.lim,by show Y.2.1<=_;have:=f.nx;have:=h.nx;omega,f.up,f.dn.trans h.dn,by have:=f.ops;have:=h.ops;omega,by have:=f.uw;have:=h.uw;omega,f.left h.left⟩
theorem Ln.adp {K:List Int} {k i:Nat} {j:Jt} {d:Disk.Dk} (h:Ln K k i j d) (ok:j.Ok) (s:Jst) (h1:s.start=j.st.start) (h2:s.count<=j.size):adp j s 1099511627776={j with st:=s,lim:=1099511627776}/\Ln K k i {j with st:=s,lim:=1099511627776} d:=by
 have hm:may j.size s=true:=by
  simp only [may,Bool.and_eq_true,decide_eq_true_eq]
  exact ⟨by rw [h1];exact ok.sl,h2⟩
 refine ⟨?_,⟨h.key,h.first,h.size,rfl,h.nx,h.up,h.dn,h.ops,h.uw,h.left⟩⟩
 unfold Go.Proofs.YtjejnlebpcjidaaGreatDoor.adp
 rw [if_pos hm]
 rfl
theorem built_S1x (x:Nat):Tryz.prog.built 42 [(0,.int .u64 (x:Int))]=some (sa ⟨x,0,z32⟩):=by kernel_rfl
structure Lm (x0 y:World) (J D Bm Bw:Nat) (K:List Int) (k i:Nat) (fp:Nat->Prop) (j:Jt) (d:Disk.Dk) (r:Disk.Rd) (V:List Value):Prop where
 jc:JC x0 y J D fp j d
 rv:Disk.Rv y (.agg V.toArray) r
 bm:y.heap[Bm]?=some (.cells V.toArray 36 (0,0))
 bw:y.heap[Bw]?=some (.cells (rq j.key (j.first:Int) (j.size:Int) j.st j.nx j.lim).toArray 44 (0,0))
 lo:x0.heap.size<=Bm/\x0.heap.size<=Bw
 ln:Ln K k i j d
 hj:Disk.J (6*i) d r
theorem Lm.below {x0 y z:World} {J D Bm Bw:Nat} {K:List Int} {k i:Nat} {fp:Nat->Prop} {j:Jt} {d:Disk.Dk} {r:Disk.Rd} {V:List Value} (h:Lm x0 y J D Bm Bw K k i fp j d r V) (hb:Below y.heap.size y z):Lm x0 z J D Bm Bw K k i fp j d r V:=
 ⟨h.jc.below hb,h.rv.below hb,(hb.block _ (gE h.bm)).trans h.bm,(hb.block _ (gE h.bw)).trans h.bw,h.lo,h.ln,h.hj⟩
theorem JC.foot {w0 w:World} {J D:Nat} {fp:Nat->Prop} {j:Jt} {d:Disk.Dk} (h:JC w0 w J D fp j d):∃fp',JC w0 w J D fp' j d/\∀(k:Nat) (cs:Array Value) (t:TypeId) (fr:Nat × Nat),w.heap[k]?=some (.cells cs t fr)->¬Disk.Own4 t->¬fp' k:=by
 obtain ⟨fp',c,hf⟩:=Disk.Cm.foot ⟨fp,h.cx⟩
 exact ⟨fp',⟨c,h.row,h.lo,hf _ _ _ _ h.row (by unfold Disk.Own4;decide),h.ok,h.fit,h.dig,h.tab⟩,hf⟩
theorem Lm.foot {x0 y:World} {J D Bm Bw:Nat} {K:List Int} {k i:Nat} {fp:Nat->Prop} {j:Jt} {d:Disk.Dk} {r:Disk.Rd} {V:List Value} (h:Lm x0 y J D Bm Bw K k i fp j d r V):∃fp',Lm x0 y J D Bm Bw K k i fp' j d r V/\∀(k:Nat) (cs:Array Value) (t:TypeId) (fr:Nat × Nat),y.heap[k]?=some (.cells cs t fr)->¬Disk.Own4 t->¬fp' k:=by
 obtain ⟨fp',c,hf⟩:=h.jc.foot
 exact ⟨fp',⟨c,h.rv,h.bm,h.bw,h.lo,h.ln,h.hj⟩,hf⟩
theorem Lm.fw {x0 y z:World} {J D Bm Bw:Nat} {K:List Int} {k i:Nat} {fp fp':Nat->Prop} {j:Jt} {d:Disk.Dk} {r:Disk.Rd} {V:List Value} (h:Lm x0 y J D Bm Bw K k i fp j d r V) (hf:∀(k:Nat) (cs:Array Value) (t:TypeId) (fr:Nat × Nat),y.heap[k]?=some (.cells cs t fr)->¬Disk.Own4 t->¬fp k) (hw:Fw (fun k=>k=J) y z fp fp'):
  Disk.Rv z (.agg V.toArray) r/\z.heap[Bm]?=some (.cells V.toArray 36 (0,0))/\z.heap[Bw]?=some (.cells (rq j.key (j.first:Int) (j.size:Int) j.st j.nx j.lim).toArray 44 (0,0)):=
 ⟨rv_typed h.jc.row hf hw h.rv,(q5r h.jc.row hf hw h.bm (by unfold Disk.Own4;decide) (by decide)).trans h.bm,(q5r h.jc.row hf hw h.bw (by unfold Disk.Own4;decide) (by decide)).trans h.bw⟩
theorem q1p {x:World} {p q:Nat} {c c':Array Value} {t t':TypeId} {f f':Nat × Nat} (hp:x.heap[p]?=some (.cells c t f)) (hq:x.heap[q]?=some (.cells c' t' f')) (ht:t≠t'):p≠q:=fun e=>by
 rw [e,hq] at hp
 simp only [Option.some.injEq,Obj.cells.injEq] at hp
 exact ht hp.2.1.symm
theorem Lm.put {x0 z:World} {J D Bm Bw:Nat} {K:List Int} {k i:Nat} {fp:Nat->Prop} {j:Jt} {d:Disk.Dk} {r:Disk.Rd} {A1 A2:Array Value} {V:List Value} (c:JC x0 z J D fp j d) (hf:∀(k:Nat) (cs:Array Value) (t:TypeId) (fr:Nat × Nat),z.heap[k]?=some (.cells cs t fr)->¬Disk.Own4 t->¬fp k) (rv:Disk.Rv z (.agg V.toArray) r) (b1:z.heap[Bm]?=some (.cells A1 36 (0,0))) (b2:z.heap[Bw]?=some (.cells A2 44 (0,0))) (lo:x0.heap.size<=Bm/\x0.heap.size<=Bw) (ln:Ln K k i j d) (hj:Disk.J (6*i) d r) (J2:List Value) (e2:rq j.key (j.first:Int) (j.size:Int) j.st j.nx j.lim=J2):
  Lm x0 ((z.setRow Bm V.toArray).setRow Bw J2.toArray) J D Bm Bw K k i fp j d r V:=by
 subst e2
 have n1:Bm≠J:=q1p b1 c.row (by decide)
 have n2:Bw≠J:=q1p b2 c.row (by decide)
 have n3:Bm≠Bw:=q1p b1 b2 (by decide)
 have b2':(z.setRow Bm V.toArray).heap[Bw]?=some (.cells A2 44 (0,0)):=((q0s z Bm V.toArray).block Bw (gE b2) (Ne.symm n3)).trans b2
 have c1:=c.set Bm (q0s z Bm V.toArray) (hf _ _ _ _ b1 (by unfold Disk.Own4;decide)) n1 lo.1
 have c2:=c1.set Bw (q0s (z.setRow Bm V.toArray) Bw (rq j.key (j.first:Int) (j.size:Int) j.st j.nx j.lim).toArray) (hf _ _ _ _ b2 (by unfold Disk.Own4;decide)) n2 lo.2
 refine ⟨c2,q3m (q3m rv (q0s _ _ _) b1 (by decide) (by decide)) (q0s _ _ _) b2' (by decide) (by decide),?_,setRow_heap _ _ _ _ _ _ b2',lo,ln,hj⟩
 have h1:=setRow_heap z Bm _ V.toArray _ _ b1
 exact ((q0s (z.setRow Bm V.toArray) Bw _).block Bm (gE h1) n3).trans h1
theorem Lm.put2 {x0 z:World} {J D Bm Bw:Nat} {K:List Int} {k i:Nat} {fp:Nat->Prop} {j:Jt} {d:Disk.Dk} {r:Disk.Rd} {A2:Array Value} {V:List Value} (c:JC x0 z J D fp j d) (hf:∀(k:Nat) (cs:Array Value) (t:TypeId) (fr:Nat × Nat),z.heap[k]?=some (.cells cs t fr)->¬Disk.Own4 t->¬fp k) (rv:Disk.Rv z (.agg V.toArray) r) (b1:z.heap[Bm]?=some (.cells V.toArray 36 (0,0))) (b2:z.heap[Bw]?=some (.cells A2 44 (0,0))) (lo:x0.heap.size<=Bm/\x0.heap.size<=Bw) (ln:Ln K k i j d) (hj:Disk.J (6*i) d r) (J2:List Value) (e2:rq j.key (j.first:Int) (j.size:Int) j.st j.nx j.lim=J2):
  Lm x0 (z.setRow Bw J2.toArray) J D Bm Bw K k i fp j d r V:=by
 subst e2
 have n2:Bw≠J:=q1p b2 c.row (by decide)
 have n3:Bm≠Bw:=q1p b1 b2 (by decide)
 have c2:=c.set Bw (q0s z Bw (rq j.key (j.first:Int) (j.size:Int) j.st j.nx j.lim).toArray) (hf _ _ _ _ b2 (by unfold Disk.Own4;decide)) n2 lo.2
 exact ⟨c2,q3m rv (q0s _ _ _) b2 (by decide) (by decide),((q0s z Bw _).block Bm (gE b1) n3).trans b1,setRow_heap _ _ _ _ _ _ b2,lo,ln,hj⟩
structure St33 (x5 y:World) (b1 b2 b3:Nat) (V2 J2:List Value) (SY:Array Value) (v:Value) (r:Disk.Rd):Prop where
 t1:y.there b1 0 V2.toArray.size
 t2:(y.setCells b1 0 V2).there b2 0 J2.toArray.size
 t3:((y.setCells b1 0 V2).setCells b2 0 J2).there b3 0 SY.size
 s1:Below x5.heap.size x5 (y.setCells b1 0 V2)
 s2:Below x5.heap.size x5 ((y.setCells b1 0 V2).setCells b2 0 J2)
 s3:Below x5.heap.size x5 (((y.setCells b1 0 V2).setCells b2 0 J2).setCells b3 0 SY.toList)
 rv:Disk.Rv (((y.setCells b1 0 V2).setCells b2 0 J2).setCells b3 0 SY.toList) v r
 r1:(((y.setCells b1 0 V2).setCells b2 0 J2).setCells b3 0 SY.toList).heap[b1]?=some (.cells V2.toArray 36 (0,0))
 r2:(((y.setCells b1 0 V2).setCells b2 0 J2).setCells b3 0 SY.toList).heap[b2]?=some (.cells J2.toArray 44 (0,0))
 r3:(((y.setCells b1 0 V2).setCells b2 0 J2).setCells b3 0 SY.toList).heap[b3]?=some (.cells SY 42 (0,0))
theorem st33 {x5 y:World} {b1 b2 b3:Nat} {V2 J2:List Value} {ZD ZJ ZS SY:Array Value} {v:Value} {r:Disk.Rd} (hS:Below x5.heap.size x5 y) (n1:Nb y b1 ZD 36) (n2:Nb y b2 ZJ 44) (n3:Nb y b3 ZS 42) (g1:x5.heap.size<=b1) (g2:x5.heap.size<=b2) (g3:x5.heap.size<=b3) (l1:ZD.size=V2.length) (l2:ZJ.size=J2.length) (l3:ZS.size=SY.size) (hv:Disk.Rv y v r):St33 x5 y b1 b2 b3 V2 J2 SY v r:=by
 have e12:b1≠b2:=q1p n1 n2 (by decide)
 have e13:b1≠b3:=q1p n1 n3 (by decide)
 have e23:b2≠b3:=q1p n2 n3 (by decide)
 have m1:y.heap[b1]?=some (.cells ZD.toList.toArray 36 (0,0)):=by rw [Array.toArray_toList];exact n1
 have p1:=q4e (C:=V2) m1 (by rw [Array.length_toList,l1])
 have m2:(y.setCells b1 0 V2).heap[b2]?=some (.cells ZJ.toList.toArray 44 (0,0)):=by
  rw [p1.2.block b2 (gE n2) (Ne.symm e12),Array.toArray_toList];exact n2
 have p2:=q4e (C:=J2) m2 (by rw [Array.length_toList,l2])
 have m3:((y.setCells b1 0 V2).setCells b2 0 J2).heap[b3]?=some (.cells ZS.toList.toArray 42 (0,0)):=by
  have hq:=(gE n3)
  rw [p2.2.block b3 (Nat.lt_of_lt_of_le hq p1.2.size) (Ne.symm e23),p1.2.block b3 hq (Ne.symm e13),Array.toArray_toList];exact n3
 have p3:=q4e (C:=SY.toList) m3 (by rw [Array.length_toList,Array.length_toList,l3])
 have s1:=q1i hS p1.2 g1 hS.size
 have s2:=q1i s1 p2.2 g2 s1.size
 have s3:=q1i s2 p3.2 g3 s2.size
 have q1:=(gE p1.1)
 have q2:=(gE p2.1)
 refine ⟨q3g m1 (by rw [Array.length_toList,l1]),q3g m2 (by rw [Array.length_toList,l2]),by have:=q3g (C:=SY.toList) m3 (by rw [Array.length_toList,Array.length_toList,l3]);rwa [Array.toArray_toList] at this,s1,s2,s3,q3m (q3m (q3m hv p1.2 m1 (by decide) (by decide)) p2.2 m2 (by decide) (by decide)) p3.2 m3 (by decide) (by decide),?_,?_,by have:=p3.1;rwa [Array.toArray_toList] at this⟩
 ·rw [p3.2.block b1 (Nat.lt_of_lt_of_le q1 p2.2.size) e13,p2.2.block b1 q1 e12];exact p1.1
 ·rw [p3.2.block b2 q2 e23];exact p2.1
theorem Disk.J.le {k m:Nat} {d:Disk.Dk} {r:Disk.Rd} (h:Disk.J k d r) (hm:k<=m):Disk.J m d r:=⟨h.n,h.pl,h.way,h.down,h.st,h.no,h.lo,h.ops,Nat.le_trans h.l1 hm,Nat.le_trans h.l2 hm⟩
theorem Disk.Cx.but {w0 w w':World} {D G:Nat} {fp:Nat->Prop} {d:Disk.Dk} (h:Disk.Cx w0 w D fp d) (hb:But G w w') (h1:¬fp G) (h4:w0.heap.size<=G):Disk.Cx w0 w' D fp d:=by
 have hne:∀k,fp k->k≠G:=fun k hk e=>h1 (e▸hk)
 refine ⟨h.is.same (fun k hk hl=>hb.block k hl (hne k hk)),?_,h.lo,fun k hk=>Nat.lt_of_lt_of_le (h.hi k hk) hb.size⟩
 have hl:=h.bel
 exact ⟨hb.os.trans hl.os,hb.tape.trans hl.tape,hb.output.trans hl.output,Nat.le_trans hl.size hb.size,fun k hk=>(hb.block k (Nat.lt_of_lt_of_le hk hl.size) (by omega)).trans (hl.block k hk)⟩
theorem Disk.Cm.but {w0 w w':World} {D G:Nat} {d:Disk.Dk} {cs:Array Value} {t:TypeId} (h:Disk.Cm w0 w D d) (hb:But G w w') (hG:w.heap[G]?=some (.cells cs t (0,0))) (ht:¬Disk.Own4 t) (h4:w0.heap.size<=G):Disk.Cm w0 w' D d:=by
 obtain ⟨fp,c,hf⟩:=h.foot
 exact ⟨fp,c.but hb (hf _ _ _ _ hG ht) h4⟩
structure Lv (x0 y:World) (J D Bm q:Nat) (j:Jt) (d:Disk.Dk) (O:List (Int × Int)) (r:Disk.Rd) (V:List Value) (fp:Nat->Prop):Prop where
 jc:JC x0 y J D fp j ({d with ops:=O}:Disk.Dk)
 rv:Disk.Rv y (.agg V.toArray) r
 bm:y.heap[Bm]?=some (.cells V.toArray 36 (0,0))
 lo:x0.heap.size<=Bm
 hj:Disk.J q d r
 up:Up d
 dn:d.n=12
 ol:O.length<=q
 ul:d.uw.length<=q
 ql:q<=1000
theorem Lm.lv {x0 y:World} {J D Bm Bw:Nat} {K:List Int} {k i:Nat} {fp:Nat->Prop} {j:Jt} {d:Disk.Dk} {r:Disk.Rd} {V:List Value} (h:Lm x0 y J D Bm Bw K k i fp j d r V) (hi:i<=100):Lv x0 y J D Bm (6*i) j d d.ops r V fp:=
 ⟨h.jc,h.rv,h.bm,h.lo.1,h.hj,h.ln.up,h.ln.dn,h.ln.ops,h.ln.uw,by omega⟩
def Tyf (y:World) (fp:Nat->Prop):Prop:=∀(k:Nat) (cs:Array Value) (t:TypeId) (fr:Nat × Nat),y.heap[k]?=some (.cells cs t fr)->¬Disk.Own4 t->¬fp k
structure Sl0 (x0 y z:World) (J D Bm q:Nat) (j:Jt) (d:Disk.Dk) (O:List (Int × Int)) (r:Disk.Rd) (V:List Value) (fp fp':Nat->Prop) (R:Nat) (B:List Int):Prop where
 jc:JC x0 z J D fp' j ({d with ops:=O}:Disk.Dk)
 fr:Disk.Fr y z
 kk:∀k,k<y.heap.size->¬fp k->¬fp' k
 loc:Disk.Loc z fp' R B 114
 lo:y.heap.size<=R
 len:B.length=192/\Byt B
 ol:O.length<=q+1
theorem Lv.read {x0 y:World} {J D Bm q:Nat} {j:Jt} {d:Disk.Dk} {O:List (Int × Int)} {r:Disk.Rd} {V:List Value} {fp:Nat->Prop} (h:Lv x0 y J D Bm q j d O r V fp) (hf:Tyf y fp) (sl:Int):
  Calls Tryz.prog 16 #[.pointer (some ⟨D,0,none⟩),.int .i64 sl] y fun e z=>(e=.returned (.tuple #[.slice none 0 0,.int .i64 12])/\y=z/\¬(0<=sl/\sl<12))∨∃(m R:Nat) (fp':Nat->Prop) (O':List (Int × Int)) (B:List Int),sl=(m:Int)/\m<12/\e=.returned (.tuple #[.slice (some ⟨R,0,none⟩) 192 192,.int .i64 0])/\Sl0 x0 y z J D Bm q j d O' r V fp fp' R B:=by
 have hd:({d with ops:=O}:Disk.Dk).down=false:=h.up.1
 have hn:({d with ops:=O}:Disk.Dk).n=12:=h.dn
 by_cases hs:0<=sl/\sl<12
 ·obtain ⟨m,rfl⟩:∃m:Nat,sl=m:=⟨sl.toNat,by omega⟩
  have hol:=h.ol
  have hul:=h.ul
  have hql:=h.ql
  refine (Disk.read_cx h.jc.cx m hd (by rw [hn];omega) (by show O.length<_;omega) (by show d.uw.length<_;omega)).mono ?_
  rintro e z ⟨R,fp',rfl,c,fo,lc,lo,l1,l2⟩
  refine .inr ⟨m,R,fp',O++[(1,(m:Int))],_,rfl,by omega,rfl,⟨h.jc.fol c fo rfl,Disk.z5o hf fo,fo.k,lc,lo,⟨l1,l2⟩,by simp;omega⟩⟩
 ·refine (Disk.z7r y D fp _ h.jc.cx.is sl hd (by unfold Disk.hsp;rw [hn];simpa using hs)).mono ?_
  rintro e z ⟨rfl,rfl⟩
  exact .inl ⟨rfl,rfl,hs⟩
theorem Sl0.turn {x0 y z:World} {J D Bm q:Nat} {j:Jt} {d:Disk.Dk} {O:List (Int × Int)} {r:Disk.Rd} {V:List Value} {fp fp':Nat->Prop} {R:Nat} {B:List Int} (h:Sl0 x0 y z J D Bm q j d O r V fp fp' R B) (hx:x0.heap.size<=y.heap.size) (hJ:J<y.heap.size) (p:Nat) (b:Int) (hb:0<=b/\b<=255):Sl0 x0 y (z.setCell ⟨R,p,none⟩ (.int .u8 b)) J D Bm q j d O r V fp fp' R (B.set p b):=
 ⟨h.jc.set R ((But.refl _ _).setCell p _) h.loc.no (by have:=h.lo;omega) (Nat.le_trans hx h.lo),⟨Nat.le_trans h.fr.1 (by simp),fun k cs t fr hk ht=>by
  have hlt:=(gE hk)
  have hlo:=h.lo
  rw [heap_setCell_other z ⟨R,p,none⟩ k _ (by show k≠R;omega)]
  exact h.fr.2 k cs t fr hk ht⟩,h.kk,h.loc.set p b,h.lo,⟨by simp [h.len.1],byt_set _ _ _ h.len.2 hb⟩,h.ol⟩
theorem Disk.rtam {k:Nat} {d:Disk.Dk} {r:Disk.Rd} (hJ:Disk.J k d r) (hk:k<900000) (m:Nat) (hm:m<d.n) (B:List Int) (hl:B.length=192):
  ∃r',Disk.J (k+1) (Disk.tpOk d m B) r'/\∀w2 v,Disk.Rv w2 v r->Calls Tryz.prog 18 #[v,.int .i64 (m:Int),.string (strOfNums B)] w2 fun e w3=>∃v',e=.returned (.tuple #[v',.int .i64 0])/\Disk.Rv w3 v' r'/\Below w2.heap.size w2 w3:=by
 have l1:=hJ.l1
 have l2:=hJ.l2
 have e1:=hJ.way
 have hfit:Disk.fit d (m:Int) B.length=0:=by unfold Disk.fit;rw [if_pos (by unfold Disk.hsp;simpa using hm),if_pos hl]
 have hrf:Disk.rfit r.n (m:Int) B.length=0:=by rw [Disk.fit_r hJ];exact hfit
 refine ⟨{r with done:=r.done++[(m,B)],way:=Disk.oth m r.way},⟨hJ.n,fun i=>?_,by show Disk.oth m r.way=Disk.oth m d.uw;rw [e1],hJ.down,hJ.st,hJ.no,hJ.lo,hJ.ops,by show (r.done++[(m,B)]).length+(Disk.oth m r.way).length<=k+1;have:=Disk.z0q m r.way;simp;omega,by show r.ops.length<=k+1;omega⟩,fun w2 v hv=>?_⟩
 ·show Disk.rat (r.done++[(m,B)]) i=Disk.upd d.pl m B i
  rw [Disk.rat_app]
  show Disk.upd (Disk.rat r.done) m B i=Disk.upd d.pl m B i
  unfold Disk.upd
  rw [hJ.pl]
 ·obtain ⟨vd,vw,vo,rfl,h1,h2,h3⟩:=hv
  refine (Disk.z7z w2 r.n vd vw vo r.left r.down r.done r.way h1 h2 (Disk.oneO h3) (by omega) (by omega) m B hrf).mono ?_
  rintro e w3 ⟨vd',vw',rfl,hb,h4,h5⟩
  exact ⟨_,rfl,⟨vd',vw',vo,rfl,h4,h5,h3.below hb⟩,hb⟩
theorem Sl0.tam {x0 y z:World} {J D Bm q:Nat} {j:Jt} {d:Disk.Dk} {O O0:List (Int × Int)} {r:Disk.Rd} {V:List Value} {fp fp':Nat->Prop} {R:Nat} {B:List Int} (h:Sl0 x0 y z J D Bm q j d O r V fp fp' R B) (hl:Lv x0 y J D Bm q j d O0 r V fp) (m:Nat) (hm:m<12) (hf:Tyf y fp):
  Calls Tryz.prog 17 #[.pointer (some ⟨D,0,none⟩),.int .i64 (m:Int),.slice (some ⟨R,0,none⟩) 192 192] z fun e z'=>e=.returned (.int .i64 0)/\∃fp'',Sl0 x0 y z' J D Bm q j (Disk.tpOk d m B) O r V fp fp'' R B:=by
 have hul:=hl.ul
 have hql:=hl.ql
 refine (Disk.tamper_ok z D fp' _ h.jc.cx.is m (some ⟨R,0,none⟩) 192 B (h.loc.bytes h.len.2 192 h.len.1) (fun ad e=>by simp only [Option.some.injEq] at e;subst e;exact h.loc.no) (by have:=hl.dn;show m<d.n;omega) (by show d.uw.length<_;omega)).mono ?_
 rintro e z' ⟨rfl,hn⟩
 obtain ⟨fp'',c,fo⟩:=h.jc.cx.nx hn
 refine ⟨rfl,fp'',⟨h.jc.fol c fo rfl,⟨Nat.le_trans h.fr.1 fo.t.size,fun k cs t fr hk ht=>?_⟩,fun k hk hn=>fo.k k (Nat.lt_of_lt_of_le hk h.fr.1) (h.kk k hk hn),h.loc.fol fo,h.lo,h.len,h.ol⟩⟩
 have hlt:=(gE hk)
 rw [fo.t.block k (Nat.lt_of_lt_of_le hlt h.fr.1) (h.kk k hlt (hf k cs t fr hk ht))]
 exact h.fr.2 k cs t fr hk ht
theorem Sl0.lv {x0 y z z3:World} {J D Bm q:Nat} {j:Jt} {d:Disk.Dk} {O O0:List (Int × Int)} {r r':Disk.Rd} {V V':List Value} {fp fp':Nat->Prop} {R m:Nat} {B:List Int} (hl:Lv x0 y J D Bm q j d O0 r V fp) (hf:Tyf y fp) (h:Sl0 x0 y z J D Bm q j (Disk.tpOk d m B) O r V fp fp' R B) (hb:Below z.heap.size z z3) (hj:Disk.J (q+1) (Disk.tpOk d m B) r') (rv:Disk.Rv z3 (.agg V'.toArray) r') (hq:q<1000):∃fp'',Lv x0 (z3.setRow Bm V'.toArray) J D Bm (q+1) j (Disk.tpOk d m B) O r' V' fp'':=by
 have hnB:¬Disk.Own4 36:=by unfold Disk.Own4;decide
 have b1:z.heap[Bm]?=some (.cells V.toArray 36 (0,0)):=(h.fr.2 Bm _ _ _ hl.bm hnB).trans hl.bm
 have b2:z3.heap[Bm]?=some (.cells V.toArray 36 (0,0)):=(hb.block Bm (gE b1)).trans b1
 have hno:¬fp' Bm:=h.kk Bm (gE hl.bm) (hf _ _ _ _ hl.bm hnB)
 have n1:Bm≠J:=q1p b1 h.jc.row (by decide)
 have c:=(h.jc.below hb).set Bm (q0s z3 Bm V'.toArray) hno n1 hl.lo
 exact ⟨fp',c,q3m rv (q0s _ _ _) b2 (by decide) (by decide),setRow_heap _ _ _ _ _ _ b2,hl.lo,hj,hl.up,hl.dn,h.ol,by have:=Disk.z0q m d.uw;have:=hl.ul;show (Disk.oth m d.uw).length<=q+1;omega,by omega⟩
theorem Lv.below {x0 y z:World} {J D Bm q:Nat} {j:Jt} {d:Disk.Dk} {O:List (Int × Int)} {r:Disk.Rd} {V:List Value} {fp:Nat->Prop} (h:Lv x0 y J D Bm q j d O r V fp) (hb:Below y.heap.size y z):Lv x0 z J D Bm q j d O r V fp:=
 ⟨h.jc.below hb,h.rv.below hb,(hb.block _ (gE h.bm)).trans h.bm,h.lo,h.hj,h.up,h.dn,h.ol,h.ul,h.ql⟩
theorem Lv.more {x0 y:World} {J D Bm q q':Nat} {j:Jt} {d:Disk.Dk} {O:List (Int × Int)} {r:Disk.Rd} {V:List Value} {fp:Nat->Prop} (h:Lv x0 y J D Bm q j d O r V fp) (hq:q<=q') (hq2:q'<=1000):Lv x0 y J D Bm q' j d O r V fp:=
 ⟨h.jc,h.rv,h.bm,h.lo,h.hj.le hq,h.up,h.dn,Nat.le_trans h.ol hq,Nat.le_trans h.ul hq,hq2⟩
structure Le (x0 y:World) (D Bm Bt Bc:Nat) (d:Disk.Dk) (O:List (Int × Int)) (r:Disk.Rd) (V:List Value) (s:Jst) (K:List Int):Prop where
 cm:Disk.Cm x0 y D ({d with ops:=O}:Disk.Dk)
 rv:Disk.Rv y (.agg V.toArray) r
 bm:y.heap[Bm]?=some (.cells V.toArray 36 (0,0))
 bt:y.heap[Bt]?=some (.cells (sa s) 27 (0,0))
 bc:y.heap[Bc]?=some (.cells (u8s K) 23 (0,0))
 lm:x0.heap.size<=Bm
 lt:x0.heap.size<=Bt
 lc:x0.heap.size<=Bc
 hj:Disk.J 1000 d r
 dn:d.n=12
 ol:O.length<=1000
 ul:d.uw.length<=1000
 hs:OkS s
 hk:K.length=32/\Byt K
theorem Le.bel {x0 y:World} {D Bm Bt Bc:Nat} {d:Disk.Dk} {O:List (Int × Int)} {r:Disk.Rd} {V:List Value} {s:Jst} {K:List Int} (h:Le x0 y D Bm Bt Bc d O r V s K):Below x0.heap.size x0 y:=by
 obtain ⟨fp,c⟩:=h.cm
 exact c.bel
theorem Le.state {x0 y z:World} {D Bm Bt Bc:Nat} {d:Disk.Dk} {O:List (Int × Int)} {r:Disk.Rd} {V:List Value} {s s':Jst} {K:List Int} (h:Le x0 y D Bm Bt Bc d O r V s K) (hb:But Bt y z) (hr:z.heap[Bt]?=some (.cells (sa s') 27 (0,0))) (hs:OkS s'):Le x0 z D Bm Bt Bc d O r V s' K:=
 ⟨h.cm.but hb h.bt (by unfold Disk.Own4;decide) h.lt,q3m h.rv hb h.bt (by decide) (by decide),(hb.block Bm (gE h.bm) (q1p h.bm h.bt (by decide))).trans h.bm,hr,(hb.block Bc (gE h.bc) (q1p h.bc h.bt (by decide))).trans h.bc,h.lm,h.lt,h.lc,h.hj,h.dn,h.ol,h.ul,hs,h.hk⟩
theorem Le.key {x0 y z:World} {D Bm Bt Bc:Nat} {d:Disk.Dk} {O:List (Int × Int)} {r:Disk.Rd} {V:List Value} {s:Jst} {K K':List Int} (h:Le x0 y D Bm Bt Bc d O r V s K) (hb:But Bc y z) (hr:z.heap[Bc]?=some (.cells (u8s K') 23 (0,0))) (hk:K'.length=32/\Byt K'):Le x0 z D Bm Bt Bc d O r V s K':=
 ⟨h.cm.but hb h.bc (by unfold Disk.Own4;decide) h.lc,q3m h.rv hb h.bc (by decide) (by decide),(hb.block Bm (gE h.bm) (q1p h.bm h.bc (by decide))).trans h.bm,(hb.block Bt (gE h.bt) (q1p h.bt h.bc (by decide))).trans h.bt,hr,h.lm,h.lt,h.lc,h.hj,h.dn,h.ol,h.ul,h.hs,hk⟩
def dkS1 (d:Disk.Dk):Disk.Dk:={d with st:=true,left:=0}
def dkS2 (d:Disk.Dk):Disk.Dk:={d with st:=true,left:=0,down:=true}
theorem stop_h {x0 y:World} {D:Nat} {d:Disk.Dk} {O:List (Int × Int)} (h:Disk.Cm x0 y D ({d with ops:=O}:Disk.Dk)):
  Calls Tryz.prog 20 #[.pointer (some ⟨D,0,none⟩),.int .i64 0] y fun e z=>e=.returned (.tuple #[])/\Disk.Fr y z/\Disk.Cm x0 z D ({dkS1 d with ops:=O}:Disk.Dk):=by
 obtain ⟨fp,c,hf⟩:=h.foot
 refine (Disk.stop_cx c 0).mono ?_
 rintro e z ⟨rfl,fp',c',fo⟩
 exact ⟨rfl,Disk.z5o hf fo,fp',c'⟩
theorem write_h {x0 y:World} {D:Nat} {d:Disk.Dk} {O:List (Int × Int)} (h:Disk.Cm x0 y D ({dkS1 d with ops:=O}:Disk.Dk)) (hn:d.n=12) (hd:d.down=false) (a:Option Addr) (c:Nat):
  Calls Tryz.prog 21 #[.pointer (some ⟨D,0,none⟩),.int .i64 0,.slice a 192 c] y fun e z=>e=.returned (.int .i64 13)/\Disk.Fr y z/\Disk.Cm x0 z D ({dkS2 d with ops:=O}:Disk.Dk):=by
 obtain ⟨fp,c',hf⟩:=h.foot
 refine (Disk.q9o y D fp _ c'.is 0 a 192 c hd (by
  have hn':({dkS1 d with ops:=O}:Disk.Dk).n=12:=hn
  unfold Disk.fit Disk.hsp;rw [hn'];rfl) rfl rfl).mono ?_
 rintro e z ⟨rfl,hx⟩
 obtain ⟨fp',c2,fo⟩:=c'.nx hx
 exact ⟨rfl,Disk.z5o hf fo,fp',c2⟩
theorem rstop_h {y:World} {v:Value} {r:Disk.Rd} (h:Disk.Rv y v r):
  Calls Tryz.prog 22 #[v,.int .i64 0] y fun e z=>∃V:List Value,e=.returned (.agg V.toArray)/\Disk.Rv z (.agg V.toArray) {r with left:=0}/\Below y.heap.size y z/\V.length=6/\V.toArray.all (·.oneCell')=true:=by
 obtain ⟨vd,vw,vo,rfl,h1,h2,h3⟩:=h
 refine (Disk.rstop_any y r.n vd vw vo r.left r.down (Disk.oneR h1) (Disk.oneR h2) (Disk.oneO h3) 0).mono ?_
 rintro e z ⟨rfl,hb⟩
 have hv:Disk.Rv z (.agg (Disk.rv r.n vd vw 0 r.down vo).toArray) {r with left:=0}:=⟨vd,vw,vo,rfl,h1.below hb,h2.below hb,h3.below hb⟩
 obtain ⟨V,hV,hl,ha⟩:=q3k hv
 rw [hV] at hv
 exact ⟨V,by rw [<-hV];rfl,hv,hb,hl,ha⟩
theorem rwrite_h {y:World} {v:Value} {r:Disk.Rd} (h:Disk.Rv y v {r with left:=0}) (hn:r.n=12) (hd:r.down=false) (s:ByteArray) (hs:s.size=192):
  Calls Tryz.prog 23 #[v,.int .i64 0,.string s] y fun e z=>∃V:List Value,e=.returned (.tuple #[.agg V.toArray,.int .i64 13])/\Disk.Rv z (.agg V.toArray) {r with left:=0,down:=true}/\Below y.heap.size y z/\V.length=6/\V.toArray.all (·.oneCell')=true:=by
 obtain ⟨vd,vw,vo,rfl,h1,h2,h3⟩:=h
 have hx:Disk.rfit r.n 0 192=0:=by rw [hn];rfl
 have hq:=Disk.q8n y r.n vd vw vo (Disk.oneR h1) (Disk.oneR h2) (Disk.oneO h3) 0 s 192 hs hx
 show Calls Tryz.prog 23 #[.agg (Disk.rv r.n vd vw 0 r.down vo).toArray,.int .i64 0,.string s] y _
 rw [hd]
 refine hq.mono ?_
 rintro e z ⟨rfl,hb⟩
 have hv:Disk.Rv z (.agg (Disk.rv r.n vd vw 0 true vo).toArray) {r with left:=0,down:=true}:=⟨vd,vw,vo,rfl,h1.below hb,h2.below hb,h3.below hb⟩
 obtain ⟨V,hV,hl,ha⟩:=q3k hv
 rw [hV] at hv
 exact ⟨V,by rw [<-hV],hv,hb,hl,ha⟩
theorem j_h {k:Nat} {d:Disk.Dk} {r:Disk.Rd} (h:Disk.J k d r):Disk.J k (dkS2 d) {r with left:=0,down:=true}:=
 ⟨h.n,h.pl,h.way,rfl,fun _=>rfl,(fun e=>by cases e),⟨Int.le_refl _,by show (0:Int)<=_;omega⟩,h.ops,h.l1,h.l2⟩
structure Hx (x0 y z:World) (D Bm:Nat) (d:Disk.Dk) (O:List (Int × Int)) (V:List Value):Prop where
 cm:Disk.Cm x0 z D ({dkS2 d with ops:=O}:Disk.Dk)
 kx:∀(k:Nat) (cs:Array Value) (t:TypeId) (fr:Nat × Nat),y.heap[k]?=some (.cells cs t fr)->¬Disk.Own4 t->k≠Bm->z.heap[k]?=some (.cells cs t fr)
 bm:z.heap[Bm]?=some (.cells V.toArray 36 (0,0))
 lm:x0.heap.size<=Bm
theorem Hx.below {x0 y z z':World} {D Bm:Nat} {d:Disk.Dk} {O:List (Int × Int)} {V:List Value} (h:Hx x0 y z D Bm d O V) (hb:Below z.heap.size z z'):Hx x0 y z' D Bm d O V:=
 ⟨h.cm.step hb,fun k cs t fr hk ht hn=>by
  have h1:=h.kx k cs t fr hk ht hn
  exact (hb.block k (gE h1)).trans h1,(hb.block _ (gE h.bm)).trans h.bm,h.lm⟩
theorem Hx.put {x0 y z z':World} {D Bm:Nat} {d:Disk.Dk} {O:List (Int × Int)} {V V':List Value} (h:Hx x0 y z D Bm d O V) (hb:But Bm z z') (hr:z'.heap[Bm]?=some (.cells V'.toArray 36 (0,0))):Hx x0 y z' D Bm d O V':=
 ⟨h.cm.but hb h.bm (by unfold Disk.Own4;decide) h.lm,fun k cs t fr hk ht hn=>by
  have h1:=h.kx k cs t fr hk ht hn
  exact (hb.block k (gE h1) hn).trans h1,hr,h.lm⟩
theorem Le.halt {x0 y z:World} {D Bm Bt Bc:Nat} {d:Disk.Dk} {O:List (Int × Int)} {r:Disk.Rd} {V V':List Value} {s:Jst} {K:List Int} (h:Le x0 y D Bm Bt Bc d O r V s K) (hx:Hx x0 y z D Bm d O V') (rv:Disk.Rv z (.agg V'.toArray) {r with left:=0,down:=true}):Le x0 z D Bm Bt Bc (dkS2 d) O {r with left:=0,down:=true} V' s K:=
 ⟨hx.cm,rv,hx.bm,hx.kx _ _ _ _ h.bt (by unfold Disk.Own4;decide) (q1p h.bt h.bm (by decide)),hx.kx _ _ _ _ h.bc (by unfold Disk.Own4;decide) (q1p h.bc h.bm (by decide)),h.lm,h.lt,h.lc,j_h h.hj,h.dn,h.ol,h.ul,h.hs,h.hk⟩
theorem sa_count (s:Jst) (m:Nat):(sa s).setIfInBounds 1 (.int .u64 (m:Int))=sa {s with count:=m}:=by simp [sa,scs]
theorem Wnt.but {z y:World} {B G:Nat} {u:Value} {Wn:List Wx} {cs:Array Value} (h:Wnt z B u Wn) (hb:But G z y) (hG:z.heap[G]?=some (.cells cs 36 (0,0))):Wnt y B u Wn:=
 ⟨q0j h.row (fun q hq=>hb.block q (h.row.lt q hq).2 (q1v h.row hq hG (by decide))),fun x hx=>⟨(h.im x hx).1,q0j (h.im x hx).2 (fun q hq=>hb.block q ((h.im x hx).2.lt q hq).2 (q1v (h.im x hx).2 hq hG (by decide)))⟩⟩
theorem Le.load {x0 y:World} {D Bm Bt Bc k f:Nat} {d:Disk.Dk} {O:List (Int × Int)} {r:Disk.Rd} {V:List Value} {s:Jst} {K:List Int} (h:Le x0 y D Bm Bt Bc d O r V s K) (hT:Dig.Tabs x0) (hT2:Seal.Tab x0) (h1:1<=k) (h2:k<=10) (hf:f<=1):
  ∃(e0:Int) (PL:List (List (Int × List Int))),(PL.length<=1000/\∀c∈PL,c.length<=1000) /\
   Calls Tryz.prog 24 #[.pointer (some ⟨D,0,none⟩),.agg (u8s K),.int .i64 (f:Int),.int .i64 (k:Int),.agg (sa s)] y (fun e z=>∃ua uc X,e=.returned (.tuple #[.slice ua X.length uc,.int .i64 e0])/\Igss z ua X/\plC X=PL/\(z.heap[Bm]?=some (.cells V.toArray 36 (0,0))/\z.heap[Bt]?=some (.cells (sa s) 27 (0,0))/\z.heap[Bc]?=some (.cells (u8s K) 23 (0,0))/\Disk.Rv z (.agg V.toArray) r/\Below x0.heap.size x0 z)) /\
   (∀(x:World),Disk.Rv x (.agg V.toArray) r->Calls Tryz.prog 25 #[.agg V.toArray,.agg (u8s K),.int .i64 (f:Int),.int .i64 (k:Int),.agg (sa s)] x fun e z=>Below x.heap.size x z/\∃(V3:List Value) (u2a:Option Addr) (u2c:Nat) (Wn:List Wx),(V3.length=6/\V3.toArray.all (·.oneCell')=true)/\e=.returned (.tuple #[.agg V3.toArray,.slice u2a Wn.length u2c,.int .i64 e0])/\Wnt z x.heap.size (.slice u2a Wn.length u2c) Wn/\Wn.map (·.P)=PL):=by
 have hlat:∀p,p<d.n->(Disk.lat d p).length=192/\Byt (Disk.lat d p):=fun p _=>by
  obtain ⟨fp,c⟩:=h.cm
  obtain ⟨P,uv,ov,h1,_⟩:=c.is
  exact Disk.q7o h1 p
 have hdn:=h.dn
 have hul:=h.ul
 obtain ⟨e0,PL,p1,p2,p3⟩:=ld_both x0 h.hj (by omega) hlat K h.hk f k s h.hs h1 (by omega) (by omega) (by omega) (by omega) hT hT2
 refine ⟨e0,PL,p1,(p2 y D O (by have:=h.ol;omega) h.cm).mono ?_,fun x hx=>p3 x _ hx⟩
 rintro e z ⟨ua,uc,X,he,hi,hp,⟨d4,hc⟩,hfr⟩
 obtain ⟨fp,c⟩:=hc
 exact ⟨ua,uc,X,he,hi,hp,(hfr.2 _ _ _ _ h.bm (by unfold Disk.Own4;decide)).trans h.bm,(hfr.2 _ _ _ _ h.bt (by unfold Disk.Own4;decide)).trans h.bt,(hfr.2 _ _ _ _ h.bc (by unfold Disk.Own4;decide)).trans h.bc,h.rv.fr hfr,c.bel⟩
def Rdd (x0 y z:World) (J D Bm q:Nat) (j:Jt) (d:Disk.Dk) (r:Disk.Rd) (V:List Value) (fp:Nat->Prop) (sl:Int) (bv:Value) (x:Int):Prop:=
 (x=12/\bv=.slice none 0 0/\y=z)∨∃(m R:Nat) (fp':Nat->Prop) (O':List (Int × Int)) (B:List Int),sl=(m:Int)/\m<12/\x=0/\bv=.slice (some ⟨R,0,none⟩) 192 192/\Sl0 x0 y z J D Bm q j d O' r V fp fp' R B
theorem Lv.read2 {x0 y:World} {J D Bm q:Nat} {j:Jt} {d:Disk.Dk} {O:List (Int × Int)} {r:Disk.Rd} {V:List Value} {fp:Nat->Prop} (h:Lv x0 y J D Bm q j d O r V fp) (hf:Tyf y fp) (sl:Int):
  Calls Tryz.prog 16 #[.pointer (some ⟨D,0,none⟩),.int .i64 sl] y fun e z=>∃(bv:Value) (x:Int),e=.returned (.tuple #[bv,.int .i64 x])/\Rdd x0 y z J D Bm q j d r V fp sl bv x:=by
 refine (h.read hf sl).mono ?_
 rintro e z (⟨rfl,h2,_⟩ | ⟨m,R,fp',O',B,h1,h2,rfl,h3⟩)
 ·exact ⟨_,_,rfl,.inl ⟨rfl,rfl,h2⟩⟩
 ·exact ⟨_,_,rfl,.inr ⟨m,R,fp',O',B,h1,h2,rfl,rfl,h3⟩⟩
theorem low16 (x:Int):∃u:Nat,bits .and .i64 x 65535=(u:Int)/\u<=65535:=by
 have h1:(BitVec.ofInt 64 x &&& BitVec.ofInt 64 65535).toNat<=65535:=by
  rw [BitVec.toNat_and]
  exact Nat.le_trans Nat.and_le_right (by decide)
 refine ⟨(BitVec.ofInt 64 x &&& BitVec.ofInt 64 65535).toNat,?_,h1⟩
 unfold Go.bits
 show IntKind.i64.wrap ((BitVec.ofInt 64 x &&& BitVec.ofInt 64 65535).toNat:Int)=_
 rw [IntKind.wrap_i64]
 omega
theorem u8_bits (op:BinOp) (x y:Int):0<=bits op .u8 x y/\bits op .u8 x y<=255:=by
 unfold Go.bits
 rw [IntKind.wrap_u8]
 omega
theorem mod_nat (x:Int) (m:Nat) (h:0<=x) (hm:0<m):∃p:Nat,x.tmod (m:Int)=(p:Int)/\x%(m:Int)=(p:Int)/\p<m:=by
 have h1:=Int.emod_nonneg x (show (m:Int)≠0 by omega)
 have h2:=Int.emod_lt_of_pos x (show 0<(m:Int) by omega)
 exact ⟨(x%(m:Int)).toNat,by rw [Int.tmod_eq_emod_of_nonneg h];omega,by omega,by omega⟩
theorem q1n {x y:World} {o:Oper} {a:Act} {K:Act->World->Prop} {Q:Exit->Act->World->Prop} (t:TypeId) (ho:o.op=.alloc t) (Z:Array Value) (hz:(Tryz.prog.info? t).map (·.zero)=some (some (.agg Z))) (hS:Below x.heap.size x y)
  (h:∀b z,Nb z b Z t->x.heap.size<=b->Below y.heap.size y z->Below x.heap.size x z->K (a.put o.dst (.pointer (some ⟨b,0,none⟩))) z):Oper.wp Tryz.prog o a y (fun a' w'=>Below x.heap.size x w'/\K a' w') Q:=by
 unfold Oper.wp
 rw [q0e t ho Z hz]
 have hn:=q5n y Z t
 exact ⟨q0a hS hn.2,h _ _ hn.1 hS.size hn.2 (q0a hS hn.2)⟩
end Go.Proofs.YtjejnlebpcjidaaGreatDoor
