/-
 The walk of the reference's Append, where its disk tells no error.
-/
import Derived.Test.YtjejnlebpcjidaaGreatDoorQ01
import Derived.Test.YtjejnlebpcjidaaGreatDoorQ30
set_option linter.unusedVariables false
set_option maxRecDepth 100000
set_option maxRecDepth 100000
namespace Go.Proofs.YtjejnlebpcjidaaGreatDoor
open Go.RowKit Plain
theorem rz_new (w:World) (V J:List Value) (Z2 Z3 Z4:List Value) (l2:Z2.length=6) (l3:Z3.length=70) (l4:Z4.length=34):Rz w (((((w.alloc (.cells V.toArray 36)).alloc (.cells J.toArray 44)).alloc (.cells Z2.toArray 36)).alloc (.cells Z3.toArray 44)).alloc (.cells Z4.toArray 42)) w.heap.size V J:=
 ⟨q0i (q0i (q0i (q0i (q0g rfl)))),q0i (q0i (q0i (q0g (by simp)))),⟨Z2,q0i (q0i (q0g (by simp))),l2⟩,⟨Z3,q0i (q0g (by simp)),l3⟩,⟨Z4,q0g (by simp),l4⟩,(((((Below.refl _ w).alloc (Nat.le_refl _) _).alloc (by simp) _).alloc (by simp;omega) _).alloc (by simp;omega) _).alloc (by simp;omega) _,rfl⟩
def RaK (w:World) (j:Jt) (y:Ast) (k:Nat) (e:Ending) (w':World):Prop:=∃v' r',e=.returned (.tuple #[v',.agg (rq j.key (j.first:Int) (j.size:Int) j.st y.2.1 j.lim).toArray,.agg (sa y.2.2.2),.int .i64 0])/\Disk.Rv w' v' r'/\Disk.J k y.1 r'/\Below w.heap.size w w'
def SealOk:Prop:=∀(K B:List Int) (p v:Int) (y:World),K.length=32->Byt K->Byt B->B.length=176->0<=p/\p<=4294967295->1<=v/\v<18446744073709551615->Calls Tryz.prog 41 #[.agg (u8s K),.int .u32 p,.int .u64 v,.string (strOfNums B)] y fun e w'=>e=.returned (.tuple #[.string (strOfNums (Seal.sl K p v B)),.int .i64 0])/\Below y.heap.size y w'
theorem Rz.bl' {w y:World} {S:Nat} {V J:List Value} (h:Rz w y S V J):Below w.heap.size w y:=h.bl
theorem q9g {α:Type} (L vs:List α) (h:L.length=vs.length):splice L 0 vs=vs:=by simp [splice,h]
theorem laid_newR (W:World) (Z:List Value) (t:TypeId) (vs:List Value) (hz:Z.length=vs.length):
  Below W.heap.size W ((W.alloc (.cells Z.toArray t)).setCells W.heap.size 0 vs)/\((W.alloc (.cells Z.toArray t)).setCells W.heap.size 0 vs).heap[W.heap.size]?=some (.cells vs.toArray t (0,0)):=by
 have hb:=But.setCells (G:=W.heap.size) vs 0 (But.of_below (G:=W.heap.size) ((Below.refl W.heap.size W).alloc (Nat.le_refl _) (.cells Z.toArray t)))
 have h:=q1h W.heap.size t vs 0 Z (W.alloc (.cells Z.toArray t)) (q0g rfl) (by omega)
 rw [q9g _ _ (by simpa using hz)] at h
 exact ⟨⟨hb.os,hb.tape,hb.output,hb.size,fun k hk=>hb.block k hk (by omega)⟩,h⟩
structure Rk (w y:World) (S X:Nat) (V J q:List Value) (r:Disk.Rd) (rs:Value) (N:Nat) (R:List Value):Prop where
 rz:Rz w y S V J
 bx:y.heap[X]?=some (.cells q.toArray 42 (0,0))
 hx:S+5<=X
 rv:Disk.Rv y (.agg V.toArray) r
 rr:y.ownsRow w.heap.size 107 3 rs N R
theorem Rk.below {w y z:World} {S X N:Nat} {V J q R:List Value} {r:Disk.Rd} {rs:Value} (h:Rk w y S X V J q r rs N R) (hb:Below y.heap.size y z):Rk w z S X V J q r rs N R:=
 ⟨h.rz.below hb,(hb.block X (gE h.bx)).trans h.bx,h.hx,h.rv.below hb,q0j h.rr (fun q hq=>hb.block q (h.rr.lt q hq).2)⟩
theorem q1v {w:World} {base n k B:Nat} {e t:TypeId} {sz:Nat} {v:Value} {xs:List Value} {cs:Array Value} {fr:Nat × Nat} (h:w.ownsRow base e sz v n xs) (hk:v.ownBlock=some k) (hB:w.heap[B]?=some (.cells cs t fr)) (ht:t≠e):k≠B:=by
 intro eB
 rcases h.2 with ⟨rfl,_⟩ | ⟨g,cap,cur,rfl,_,hg,_⟩
 ·simp [Value.ownBlock] at hk
 ·simp only [Value.ownBlock,Option.some.injEq] at hk
  rw [hk,eB,hB] at hg
  simp only [Option.some.injEq,Obj.cells.injEq] at hg
  exact ht hg.2.1
theorem q3m {y z:World} {B:Nat} {v:Value} {r:Disk.Rd} {cs:Array Value} {t:TypeId} (h:Disk.Rv y v r) (hb:But B y z) (hB:y.heap[B]?=some (.cells cs t (0,0))) (h1:t≠123) (h2:t≠166):Disk.Rv z v r:=by
 obtain ⟨vd,vw,vo,rfl,k1,k2,k3⟩:=h
 exact ⟨vd,vw,vo,rfl,q0j k1 (fun q hq=>hb.block q (k1.lt q hq).2 (q1v k1 hq hB h1)),q0j k2 (fun q hq=>hb.block q (k2.lt q hq).2 (q1v k2 hq hB h1)),q0j k3 (fun q hq=>hb.block q (k3.lt q hq).2 (q1v k3 hq hB h2))⟩
theorem Rk.set1 {w y z:World} {S X N:Nat} {V J J' q R:List Value} {r:Disk.Rd} {rs:Value} (h:Rk w y S X V J q r rs N R) (hb:But (S+1) y z) (h1:z.heap[S+1]?=some (.cells J'.toArray 44 (0,0))):Rk w z S X V J' q r rs N R:=by
 have hx:=h.hx
 exact ⟨h.rz.set1 hb h1,(hb.block X (gE h.bx) (by omega)).trans h.bx,h.hx,q3m h.rv hb h.rz.b1 (by decide) (by decide),q0j h.rr (fun q hq=>hb.block q (h.rr.lt q hq).2 (q1v h.rr hq h.rz.b1 (by decide)))⟩
theorem Rk.set0 {w y z:World} {S X N:Nat} {V V' J q R:List Value} {r r':Disk.Rd} {rs:Value} (h:Rk w y S X V J q r rs N R) (hb:But S y z) (h1:z.heap[S]?=some (.cells V'.toArray 36 (0,0))) (hv:Disk.Rv y (.agg V'.toArray) r'):Rk w z S X V' J q r' rs N R:=by
 have hx:=h.hx
 exact ⟨h.rz.set0 hb h1,(hb.block X (gE h.bx) (by omega)).trans h.bx,h.hx,q3m hv hb h.rz.b0 (by decide) (by decide),q0j h.rr (fun q hq=>hb.block q (h.rr.lt q hq).2 (q1v h.rr hq h.rz.b0 (by decide)))⟩
theorem Rk.setX {w y z:World} {S X N:Nat} {V J q q' R:List Value} {r:Disk.Rd} {rs:Value} (h:Rk w y S X V J q r rs N R) (hb:But X y z) (h1:z.heap[X]?=some (.cells q'.toArray 42 (0,0))):Rk w z S X V J q' r rs N R:=by
 have hx:=h.hx
 exact ⟨h.rz.but hb (by omega) hx,h1,h.hx,q3m h.rv hb h.bx (by decide) (by decide),q0j h.rr (fun q hq=>hb.block q (h.rr.lt q hq).2 (q1v h.rr hq h.bx (by decide)))⟩
theorem Rz.set2 {w y z:World} {S:Nat} {V J Z:List Value} (h:Rz w y S V J) (hb:But (S+2) y z) (h1:z.heap[S+2]?=some (.cells Z.toArray 36 (0,0))) (hz:Z.length=6):Rz w z S V J:=by
 have hl:=h.lt
 have e:∀k,k<S+5->k≠S+2->z.heap[k]?=y.heap[k]?:=fun k hk hn=>hb.block k (by omega) hn
 obtain ⟨Z3,h3,l3⟩:=h.b3
 obtain ⟨Z4,h4,l4⟩:=h.b4
 exact ⟨(e S (by omega) (by omega)).trans h.b0,(e _ (by omega) (by omega)).trans h.b1,⟨Z,h1,hz⟩,⟨Z3,(e _ (by omega) (by omega)).trans h3,l3⟩,⟨Z4,(e _ (by omega) (by omega)).trans h4,l4⟩,h.bl.trans (hb.below (by rw [h.sz];omega) h.bl.size),h.sz⟩
theorem Rz.set3 {w y z:World} {S:Nat} {V J Z:List Value} (h:Rz w y S V J) (hb:But (S+3) y z) (h1:z.heap[S+3]?=some (.cells Z.toArray 44 (0,0))) (hz:Z.length=70):Rz w z S V J:=by
 have hl:=h.lt
 have e:∀k,k<S+5->k≠S+3->z.heap[k]?=y.heap[k]?:=fun k hk hn=>hb.block k (by omega) hn
 obtain ⟨Z2,h2,l2⟩:=h.b2
 obtain ⟨Z4,h4,l4⟩:=h.b4
 exact ⟨(e S (by omega) (by omega)).trans h.b0,(e _ (by omega) (by omega)).trans h.b1,⟨Z2,(e _ (by omega) (by omega)).trans h2,l2⟩,⟨Z,h1,hz⟩,⟨Z4,(e _ (by omega) (by omega)).trans h4,l4⟩,h.bl.trans (hb.below (by rw [h.sz];omega) h.bl.size),h.sz⟩
theorem Rz.set4 {w y z:World} {S:Nat} {V J Z:List Value} (h:Rz w y S V J) (hb:But (S+4) y z) (h1:z.heap[S+4]?=some (.cells Z.toArray 42 (0,0))) (hz:Z.length=34):Rz w z S V J:=by
 have hl:=h.lt
 have e:∀k,k<S+5->k≠S+4->z.heap[k]?=y.heap[k]?:=fun k hk hn=>hb.block k (by omega) hn
 obtain ⟨Z2,h2,l2⟩:=h.b2
 obtain ⟨Z3,h3,l3⟩:=h.b3
 exact ⟨(e S (by omega) (by omega)).trans h.b0,(e _ (by omega) (by omega)).trans h.b1,⟨Z2,(e _ (by omega) (by omega)).trans h2,l2⟩,⟨Z3,(e _ (by omega) (by omega)).trans h3,l3⟩,⟨Z,h1,hz⟩,h.bl.trans (hb.below (by rw [h.sz];omega) h.bl.size),h.sz⟩
theorem Rk.set2 {w y z:World} {S X N:Nat} {V J q R Z:List Value} {r:Disk.Rd} {rs:Value} (h:Rk w y S X V J q r rs N R) (hb:But (S+2) y z) (h1:z.heap[S+2]?=some (.cells Z.toArray 36 (0,0))) (hz:Z.length=6):Rk w z S X V J q r rs N R:=by
 have hx:=h.hx
 obtain ⟨Z0,h0,_⟩:=h.rz.b2
 exact ⟨h.rz.set2 hb h1 hz,(hb.block X (gE h.bx) (by omega)).trans h.bx,h.hx,q3m h.rv hb h0 (by decide) (by decide),q0j h.rr (fun q hq=>hb.block q (h.rr.lt q hq).2 (q1v h.rr hq h0 (by decide)))⟩
theorem Rk.set3 {w y z:World} {S X N:Nat} {V J q R Z:List Value} {r:Disk.Rd} {rs:Value} (h:Rk w y S X V J q r rs N R) (hb:But (S+3) y z) (h1:z.heap[S+3]?=some (.cells Z.toArray 44 (0,0))) (hz:Z.length=70):Rk w z S X V J q r rs N R:=by
 have hx:=h.hx
 obtain ⟨Z0,h0,_⟩:=h.rz.b3
 exact ⟨h.rz.set3 hb h1 hz,(hb.block X (gE h.bx) (by omega)).trans h.bx,h.hx,q3m h.rv hb h0 (by decide) (by decide),q0j h.rr (fun q hq=>hb.block q (h.rr.lt q hq).2 (q1v h.rr hq h0 (by decide)))⟩
theorem Rk.set4 {w y z:World} {S X N:Nat} {V J q R Z:List Value} {r:Disk.Rd} {rs:Value} (h:Rk w y S X V J q r rs N R) (hb:But (S+4) y z) (h1:z.heap[S+4]?=some (.cells Z.toArray 42 (0,0))) (hz:Z.length=34):Rk w z S X V J q r rs N R:=by
 have hx:=h.hx
 obtain ⟨Z0,h0,_⟩:=h.rz.b4
 exact ⟨h.rz.set4 hb h1 hz,(hb.block X (gE h.bx) (by omega)).trans h.bx,h.hx,q3m h.rv hb h0 (by decide) (by decide),q0j h.rr (fun q hq=>hb.block q (h.rr.lt q hq).2 (q1v h.rr hq h0 (by decide)))⟩
theorem q4e {y:World} {g:Nat} {Z C:List Value} {t:TypeId} (h:y.heap[g]?=some (.cells Z.toArray t (0,0))) (hl:Z.length=C.length):(y.setCells g 0 C).heap[g]?=some (.cells C.toArray t (0,0))/\But g y (y.setCells g 0 C):=by
 have h2:=q1h g t C 0 Z y h (by omega)
 rw [q9g _ _ hl] at h2
 exact ⟨h2,But.setCells C 0 (But.refl g y)⟩
theorem q3g {y:World} {g:Nat} {Z C:List Value} {t:TypeId} (h:y.heap[g]?=some (.cells Z.toArray t (0,0))) (hl:Z.length=C.length):y.there g 0 C.toArray.size:=q0z h (by simp [hl])
structure E22 (w y:World) (S X:Nat) (V J q:List Value) (r:Disk.Rd) (rs:Value) (N:Nat) (R:List Value):Prop where
 t2:y.there (S+2) 0 V.toArray.size
 t3:(y.setCells (S+2) 0 V).there (S+3) 0 J.toArray.size
 t4:((y.setCells (S+2) 0 V).setCells (S+3) 0 J).there (S+4) 0 q.toArray.size
 k1:Rk w (y.setCells (S+2) 0 V) S X V J q r rs N R
 k2:Rk w ((y.setCells (S+2) 0 V).setCells (S+3) 0 J) S X V J q r rs N R
 k3:Rk w (((y.setCells (S+2) 0 V).setCells (S+3) 0 J).setCells (S+4) 0 q) S X V J q r rs N R
 r2:(((y.setCells (S+2) 0 V).setCells (S+3) 0 J).setCells (S+4) 0 q).rangeAt (S+2) 0 V
 r3:(((y.setCells (S+2) 0 V).setCells (S+3) 0 J).setCells (S+4) 0 q).rangeAt (S+3) 0 J
 r4:(((y.setCells (S+2) 0 V).setCells (S+3) 0 J).setCells (S+4) 0 q).rangeAt (S+4) 0 q
theorem end22 {w y:World} {S X N:Nat} {V J q R:List Value} {r:Disk.Rd} {rs:Value} (h:Rk w y S X V J q r rs N R) (l1:V.length=6) (l2:J.length=70) (l3:q.length=34):E22 w y S X V J q r rs N R:=by
 obtain ⟨Z2,h2,m2⟩:=h.rz.b2
 have p2:=q4e h2 (m2.trans l1.symm)
 have k1:=h.set2 p2.2 p2.1 l1
 obtain ⟨Z3,h3,m3⟩:=k1.rz.b3
 have p3:=q4e h3 (m3.trans l2.symm)
 have k2:=k1.set3 p3.2 p3.1 l2
 obtain ⟨Z4,h4,m4⟩:=k2.rz.b4
 have p4:=q4e h4 (m4.trans l3.symm)
 have k3:=k2.set4 p4.2 p4.1 l3
 refine ⟨q3g h2 (m2.trans l1.symm),q3g h3 (m3.trans l2.symm),q3g h4 (m4.trans l3.symm),k1,k2,k3,?_,?_,q0q p4.1⟩
 ·exact q3c p4.2 (q3c p3.2 (q0q p2.1) (by omega)) (by omega)
 ·exact q3c p4.2 (q0q p3.1) (by omega)
def S22 (y:World) (S X:Nat) (V J q:List Value):Prop:=y.rangeAt S 0 V/\y.rangeAt (S+1) 0 J/\y.rangeAt X 0 q
theorem Rk.s22 {w y:World} {S X N:Nat} {V J q R:List Value} {r:Disk.Rd} {rs:Value} (h:Rk w y S X V J q r rs N R):S22 y S X V J q:=⟨q0q h.rz.b0,q0q h.rz.b1,q0q h.bx⟩
theorem q3k {y:World} {v:Value} {r:Disk.Rd} (h:Disk.Rv y v r):∃V:List Value,v=.agg V.toArray/\V.length=6/\V.toArray.all (·.oneCell')=true:=by
 obtain ⟨vd,vw,vo,rfl,h1,h2,h3⟩:=h
 exact ⟨_,rfl,rfl,Disk.q4o (Disk.q3y h1) (Disk.q3y h2) (Disk.q3y h3)⟩
theorem q6d {y:World} {V:List Value} {r:Disk.Rd} (h:Disk.Rv y (.agg V.toArray) r):V.length=6:=by
 obtain ⟨V',e,hl,_⟩:=q3k h
 have e2:V=V':=by simpa using e
 rw [e2,hl]
theorem rec_at {y:World} {base N c:Nat} {ra:Option Addr} {L:List ((Int × List Int) × Bool)} (h:y.ownsRow base 107 3 (.slice ra N c) N (L.map rrc).flatten) (hL:L.length=N) (i:Nat) (hi:i<N):∃g,ra=some ⟨g,0,none⟩/\y.rangeAt g (i*3) (rrc (L[i]'(by omega))):=by
 rcases h.2 with ⟨h1,h2⟩ | ⟨g,cap',cur,h1,hb,hg,_⟩
 ·omega
 ·simp only [Value.slice.injEq,true_and] at h1
  obtain ⟨rfl,rfl⟩:=h1
  refine ⟨g,rfl,fun q v hv=>?_⟩
  have hq:q<3:=(List.getElem?_eq_some_iff.1 hv).1
  have:=h.cells (g:=g) rfl (3*i+q) v (by
   rw [q6h _ 3 (fun x hx=>by obtain ⟨z,_,rfl⟩:=List.mem_map.1 hx;rfl) i (by simpa [hL] using hi) q hq]
   simpa using hv)
  rw [Addr.add_lit,Nat.zero_add,Nat.mul_comm] at this
  exact this
def hsnocP (j:Jt) (d:Disk.Dk) (P:List (Int × List Int)) (i p:Nat) (T:List Int) (nx0:Int) (a0 c0:Nat) (t0:List Int) (Y:Ast):Prop:=apL j (d,j.nx,0,j.st) ((ofP P).take (i+1))=((dwr Y.1 p T).1,nx0+1,0,⟨a0,c0+1,lnk t0 (p:Int) T⟩)
theorem scs_sq (s:Jst):scs s=sq (s.start:Int) (s.count:Int) s.tag:=rfl
set_option maxHeartbeats 8000000 in
theorem z7g (hSeal:SealOk) (k:Nat) (d:Disk.Dk) (r:Disk.Rd) (hJ:Disk.J k d r) (j:Jt) (ok:j.Ok) (hup:Up d) (hfit:j.first+j.size<=d.n) (P:List (Int × List Int)) (hk:k+P.length<900000) (h0:0<P.length) (hP:P.length<=1000) (hall:∀x∈P,x.2.length=160/\Byt x.2/\N64 x.1) (h1:j.st.count+P.length<=j.size) (h2:j.nx+(P.length:Int)<=j.lim)
  (w:World) (v:Value) (hv:Disk.Rv w v r) (a:Option Addr) (cap:Nat) (hT:Tb w a 2 ic P):
  Calls Tryz.prog 12 #[v,.agg (rq j.key (j.first:Int) (j.size:Int) j.st j.nx j.lim).toArray,.slice a P.length cap] w fun e w'=>RaK w j (apL j (d,j.nx,0,j.st) (ofP P)) (k+P.length) e w':=by
 obtain ⟨S,hS⟩:=nm w.heap.size
 obtain ⟨N,hN⟩:=nm P.length
 have HV:Box (Disk.Rv w v r):=⟨hv⟩
 obtain ⟨vd,vw,vo,rfl,-,-,-⟩:=hv
 have HZ:Box _:=⟨rz_new w (Disk.rv r.n vd vw r.left r.down vo) (rq j.key (j.first:Int) (j.size:Int) j.st j.nx j.lim) (Disk.rv 0 (.slice none 0 0) (.slice none 0 0) 0 false (.slice none 0 0)) (rq z32 0 0 zs 0 0) (scs zs) rfl (q1u _ _ _ _ _ _ q1l q1f) (q0u q1f)⟩
 obtain ⟨V0,hV0⟩:=nm (Disk.rv r.n vd vw r.left r.down vo)
 obtain ⟨J0,hJ0⟩:=nm (rq j.key (j.first:Int) (j.size:Int) j.st j.nx j.lim)
 obtain ⟨ZJ,hZJ⟩:=nm ((rq z32 0 0 zs 0 0).toArray)
 obtain ⟨ZS,hZS⟩:=nm ((scs zs).toArray)
 obtain ⟨ZD,hZD⟩:=nm ((Disk.rv 0 (.slice none 0 0) (.slice none 0 0) 0 false (.slice none 0 0)).toArray)
 have zJ:(Tryz.prog.info? 44).map (·.zero)=some (some (.agg ZJ)):=by rw [<-hZJ];exact zeroRj
 have zS:(Tryz.prog.info? 42).map (·.zero)=some (some (.agg ZS)):=by rw [<-hZS];exact zeroS13
 have zD:(Tryz.prog.info? 36).map (·.zero)=some (some (.agg ZD)):=by rw [<-hZD];exact Disk.zeroD
 rw [hV0,hJ0] at HZ ⊢
 rw [hZJ,hZS,hZD] at HZ
 rw [hV0] at HV
 rw [hS] at HZ
 have HE:Box (Disk.rv r.n vd vw r.left r.down vo=V0/\rq j.key (j.first:Int) (j.size:Int) j.st j.nx j.lim=J0/\P.length=N):=⟨hV0,hJ0,hN⟩
 have HOf:Box (∀y,Below w.heap.size w y->_):=⟨fun y hy=>rof_ok a cap P y (hT.below hy) hP h0 (fun x hx=>(hall x hx).1)⟩
 rw [hN] at HOf ⊢
 clear hT hV0 hJ0 hZJ hZS hZD
 go_enter Tryz.func12,Tryz.ntmps12
 go_upto_region 1 with (first
  | (refine atAlloc _ ?_;refine q0b rfl _ _ (q0e 36 rfl _ zD) ?_)
  | (refine atAlloc _ ?_;refine q0b rfl _ _ (q0e 44 rfl _ zJ) ?_)
  | (refine atAlloc _ ?_;refine q0b rfl _ _ (q0e 42 rfl _ zS) ?_))
 (try simp only [Nat.add_assoc,Nat.reduceAdd])
 generalize ((((w.alloc (.cells V0.toArray 36)).alloc (.cells J0.toArray 44)).alloc (.cells ZD 36)).alloc (.cells ZJ 44)).alloc (.cells ZS 42)=w1 at HZ ⊢
 have HOf1:Box _:=⟨HOf.out w1 HZ.out.bl⟩
 clear HOf zJ zS zD
 go_upto_region 4 with (go_at_call 39;refine HOf1.out.mono ?_;rintro e w2 ⟨rs,rfl,hro⟩;obtain ⟨ra,rc_,rfl⟩:=q0l hro.row;have H2:Box (Rz w w2 S V0 J0/\w2.ownsRow w.heap.size 107 3 (.slice ra N rc_) N ((ofP P).map rrc).flatten):=⟨HZ.out.below hro.bel,by have h3:=q2u hro.row HZ.out.bl.size;rw [<-HE.out.2.2,<-q3h P,List.take_of_length_le (Nat.le_refl _),q3h P,HE.out.2.2] at h3;exact h3⟩;clear hro HOf1)
 obtain ⟨q32,q33,q35,q68,q69⟩:=z4y (f:=(j.first:Int)) (n:=(j.size:Int)) (x:=j.nx) (y:=j.lim) ok.key ok.st
 rw [HE.out.2.1] at q32 q33 q35 q68 q69
 have d33:=q2s H2.out.1.b1 q33
 have d35:=q2s H2.out.1.b1 q35
 have d68:=q2s H2.out.1.b1 q68
 have d69:=q2s H2.out.1.b1 q69
 have okhi:=ok.hi
 have oknx:=ok.nx
 have oklim:=ok.lim
 rw [hN] at h1 h2 hP h0 hk
 obtain ⟨g,rfl,-⟩:=rec_at H2.out.2 (by rw [q3h,hN]) 0 h0
 have w1a:IntKind.u64.wrap ((j.size:Int)-(j.st.count:Int))=(j.size:Int)-(j.st.count:Int):=by rw [IntKind.wrap_u64];omega
 have w1b:IntKind.u64.wrap (j.lim-j.nx)=j.lim-j.nx:=by rw [IntKind.wrap_u64];omega
 have g1:decide ((j.size:Int)-(j.st.count:Int)<(N:Int))=false:=by simp;omega
 have g2:decide (j.lim<j.nx)=false:=by simp;omega
 have g3:decide (j.lim-j.nx<(N:Int))=false:=by simp;omega
 have hS34:Box (w2.rangeAt (S+1) 34 (scs j.st)):=⟨(z5l (by rw [HE.out.2.1];exact H2.out.1.b1) ok.key ok.st).2⟩
 obtain ⟨X,hX⟩:=nm w2.heap.size
 have hNw:=laid_newR w2 (scs zs) 42 (scs j.st) (by rw [q0u q1f,q0u ok.st])
 rw [hX] at hNw
 have HTx:Box ((w2.alloc (.cells (sa zs) 42)).there X 0 (sa j.st).size):=⟨q0z (q0g hX) (by rw [q1b ok.st,q1b q1f];omega)⟩
 have HN:Box (P.length=N):=⟨hN⟩
 have HI0:Box (∃V r',Ri w ((w2.alloc (.cells (sa zs) 42)).setCells X 0 (scs j.st)) S X j d P k 0 (.slice (some ⟨g,0,none⟩) N rc_) V r'):=⟨V0,r,by
  have hb:Below w2.heap.size w2 ((w2.alloc (.cells (sa zs) 42)).setCells X 0 (scs j.st)):=by rw [hX];exact hNw.1
  have hz:=H2.out.1.below hb
  refine ⟨?_,hNw.2,?_,(HV.out.below hz.bl'),?_,?_⟩
  ·show Rz w _ S V0 (rq j.key (j.first:Int) (j.size:Int) j.st j.nx j.lim)
   rw [HE.out.2.1]
   exact hz
  ·rw [<-hX];exact H2.out.1.lt
  ·exact hJ
  ·rw [HN.out];exact q0j H2.out.2 (fun q hq=>hb.block q (H2.out.2.lt q hq).2)⟩
 have h34:(Tryz.prog.info? 42).map (·.size)=some (scs j.st).length:=by rw [q0u ok.st];exact infoS13
 have h34b:(Tryz.prog.info? 42).map (·.size)=some (sa j.st).size:=by rw [q1b ok.st];exact infoS13
 have hone:(sa j.st).all (·.oneCell')=true:=q3z j.st
 clear hNw
 go_upto_region 10 with (first
  | (refine atAlloc _ ?_;refine q0b rfl _ _ (q0e 42 rfl _ zeroS13) ?_)
  | (refine atStore _ ?_;(try simp only [hX]);refine wpList_store_mid rfl 42 _ _ rfl X 0 (sa j.st) rfl rfl HTx.out h34b hone ?_)
  | (refine atLoad _ ?_;refine wpList_load_mid rfl 42 _ rfl (S+1) 34 rfl (scs j.st) _ hS34.out Tryz.underlying42 rfl h34 ?_))
 (try simp only [hX])
 (try simp only [Act.put,List.setIfInBounds_toArray,List.set_cons_zero,List.set_cons_succ])
 rw [q5p]
 generalize (w2.alloc (.cells (sa zs) 42)).setCells X 0 (scs j.st)=w3 at HI0 ⊢
 clear hX HTx h34 h34b hone hS34 w1a w1b g1 g2 g3 d33 d35 d68 d69 q32 q33 q35 q68 q69 H2 HZ HV
 have HE2:Box (rq j.key (j.first:Int) (j.size:Int) j.st j.nx j.lim=J0):=⟨HE.out.2.1⟩
 have HC:Box (j.Ok/\Up d/\j.first+j.size<=d.n/\k+N<900000/\(∀x∈P,x.2.length=160/\Byt x.2/\N64 x.1)/\j.st.count+N<=j.size/\j.nx+(N:Int)<=j.lim/\N<=1000):=⟨ok,hup,hfit,hk,hall,h1,h2,hP⟩
 have HSl:Box SealOk:=⟨hSeal⟩
 clear HE ok hup hfit hk hall h1 h2 hJ hSeal okhi oknx oklim hN h0
 go_wp2
 go_loopw [14] (fun v wr=>∃i:Nat,i<=N/\v=.int .i64 i/\Box (∃V r',Ri w wr S X j d P k i (.slice (some ⟨g,0,none⟩) N rc_) V r')) (fun v _=>N-(intOf v).toNat)
 case atStart=>exact ⟨0,Nat.zero_le _,rfl,HI0⟩
 case round=>
  clear HI0
  obtain ⟨i,hi,rfl,HI⟩:=hrel
  by_cases hlt:i<N
  ·obtain ⟨V,r',hR⟩:=HI.out
   clear HI
   obtain ⟨wo,hwo⟩:∃wo,wo=wr:=⟨_,rfl⟩
   rw [<-hwo] at hR ⊢
   clear hwo
   obtain ⟨ok,hup,hfit,hk,hall,h1,h2,hP1⟩:=HC.out
   have okhi:=ok.hi
   have oklo:=ok.lo
   have oknx:=ok.nx
   have oklim:=ok.lim
   have oksl:=ok.sl
   have hPN:=HN.out
   have hiP:i<(ofP P).length:=by rw [q3h,hPN];exact hlt
   have hY:=q9t j ((ofP P).take i) d j.nx j.st hup ⟨ok.st.lt,ok.st.bt⟩
   rw [List.length_take,Nat.min_eq_left (by omega)] at hY
   have hsnoc:apL j (d,j.nx,0,j.st) ((ofP P).take (i+1))=apS j (apL j (d,j.nx,0,j.st) ((ofP P).take i)) (ofP P)[i]:=by rw [<-List.take_append_getElem hiP,z1h]
   obtain ⟨Y,hYe⟩:=nm (apL j (d,j.nx,0,j.st) ((ofP P).take i))
   rw [hYe] at hY hsnoc
   obtain ⟨rc0,hrc0⟩:=nm ((ofP P)[i])
   rw [hrc0] at hsnoc
   have hrok:rc0.1.2.length=160/\Byt rc0.1.2/\N64 rc0.1.1:=by
    have hm:rc0.1∈P:=by
     have hiP2:i<P.length:=by omega
     have:rc0=(P[i],decide (i+1=P.length)):=by rw [<-hrc0];simp [ofP]
     rw [this]
     exact List.getElem_mem hiP2
    exact hall _ hm
   obtain ⟨a0,ha0⟩:=nm Y.2.2.2.start
   obtain ⟨c0,hc0⟩:=nm Y.2.2.2.count
   obtain ⟨t0,ht0⟩:=nm Y.2.2.2.tag
   obtain ⟨nx0,hnx0⟩:=nm Y.2.1
   have ha1:=hY.st
   have hc1:=hY.ct
   have hn1:=hY.nx
   have ht1:=hY.tg
   rw [ha0] at ha1
   rw [hc0] at hc1
   rw [hnx0] at hn1
   rw [ht0] at ht1
   obtain ⟨p,hp⟩:=nm (plc j (a0+c0))
   have hplt:p<j.first+j.size:=by rw [<-hp];exact plc_lt j _ oklo
   have hpe:j.first+(a0+c0)%j.size=p:=hp
   obtain ⟨T,hTe⟩:=nm (slt j.key (p:Int) nx0 rc0)
   have hTl:T.length=192/\Byt T:=by rw [<-hTe];exact ⟨q9p _ _ _ _,z3u _ _ _ _⟩
   have hstep:apS j Y rc0=((dwr Y.1 p T).1,nx0+1,0,⟨a0,c0+1,lnk t0 (p:Int) T⟩):=by
    have eP:apP j Y=p:=by rw [apP,ha0,hc0,hp]
    have eT:apT j Y rc0=T:=by rw [apT,eP,hnx0,hTe]
    unfold apS
    rw [if_neg (fun h=>h hY.er),eP,eT,z5y hY.up,if_pos rfl,hnx0]
    simp only [nxS,ha0,hc0,ht0]
   rw [hstep] at hsnoc
   have hrk:Rk w wo S X V (rq j.key (j.first:Int) (j.size:Int) j.st nx0 j.lim) (sq (a0:Int) (c0:Int) t0) r' (.slice (some ⟨g,0,none⟩) N rc_) N ((ofP P).map rrc).flatten:=by
    have k1:=hR.rz
    have k2:=hR.bx
    have k3:=hR.rr
    rw [hYe,hnx0] at k1
    rw [hYe,scs_sq,ha0,hc0,ht0] at k2
    rw [hPN] at k3
    exact ⟨k1,k2,hR.hx,hR.rv,k3⟩
   have hdj:=hR.dj
   rw [hYe] at hdj
   have H1:Box _:=⟨hrk⟩
   obtain ⟨q32,q33,q35,q68,q69⟩:=z4y (f:=(j.first:Int)) (n:=(j.size:Int)) (x:=nx0) (y:=j.lim) ok.key ok.st
   have d32:=q2s hrk.rz.b1 q32
   have d33:=q2s hrk.rz.b1 q33
   have x0:wo.cell? ⟨X,0,none⟩=some (.int .u64 (a0:Int)):=q2s hrk.bx rfl
   have x1:wo.cell? ⟨X,1,none⟩=some (.int .u64 (c0:Int)):=q2s hrk.bx rfl
   obtain ⟨m,hm⟩:=nm (a0+c0)
   obtain ⟨u,hu⟩:=nm (m%j.size)
   rw [hm,hu] at hpe
   have e1:IntKind.u64.wrap ((a0:Int)+(c0:Int))=(m:Int):=by rw [IntKind.wrap_u64];omega
   have e0:¬j.size=0:=by omega
   have e2:Int.tmod (m:Int) (j.size:Int)=(u:Int):=by rw [Int.tmod_eq_emod_of_nonneg (by omega),<-hu];rfl
   have e3:IntKind.i64.wrap (u:Int)=(u:Int):=by rw [IntKind.wrap_i64];omega
   have e4:IntKind.i64.wrap ((j.first:Int)+(u:Int))=(p:Int):=by rw [IntKind.wrap_i64];omega
   have e5:IntKind.u32.wrap (p:Int)=(p:Int):=by rw [IntKind.wrap_u32];omega
   have HQ:Box (Disk.J (k+i) Y.1 r'/\hsnocP j d P i p T nx0 a0 c0 t0 Y/\rc0.1.2.length=160/\Byt rc0.1.2/\N64 rc0.1.1/\slt j.key (p:Int) nx0 rc0=T/\T.length=192/\Byt T/\t0.length=32/\Byt t0/\Up Y.1/\p<Y.1.n):=⟨hdj,hsnoc,hrok.1,hrok.2.1,hrok.2.2,hTe,hTl.1,hTl.2,ht1.1,ht1.2,hY.up,by rw [hY.nn];omega⟩
   have HO:Box (j.Ok/\(ofP P).length=N):=⟨ok,by rw [q3h,hPN]⟩
   have HRc:Box ((ofP P)[i]=rc0):=⟨hrc0⟩
   have hnb:1<=nx0/\nx0<9223372036854775807:=by omega
   have hcb:c0<10000:=by omega
   have hpb:p<4096:=by omega
   clear hR hrk hdj hsnoc hrok hTe hTl ht1 hY hYe hrc0 ha0 hc0 ht0 hnx0 ha1 hc1 hn1 hstep hall ok hup hfit hk h1 h2 hP1 hPN hp hpe hplt hm hu q32 q33 q35 q68 q69 okhi oklo oknx oklim oksl
   go_upto_region 13 with fail
   refine q1g (S:=fun y=>y.cell? ⟨S+1,32,none⟩=some (.int .i64 (j.first:Int))/\y.cell? ⟨S+1,33,none⟩=some (.int .u64 (j.size:Int))/\y.cell? ⟨X,0,none⟩=some (.int .u64 (a0:Int))/\y.cell? ⟨X,1,none⟩=some (.int .u64 (c0:Int))) (by kernel_rfl) (fun wd hwd=>?_)
   have H1w:Box (Rk w wd S X V (rq j.key (j.first:Int) (j.size:Int) j.st nx0 j.lim) (sq (a0:Int) (c0:Int) t0) r' (.slice (some ⟨g,0,none⟩) N rc_) N ((ofP P).map rrc).flatten):=⟨by rw [hwd];exact H1.out.below ((Below.refl _ _).drew)⟩
   have hS:wd.cell? ⟨S+1,32,none⟩=some (.int .i64 (j.first:Int))/\wd.cell? ⟨S+1,33,none⟩=some (.int .u64 (j.size:Int))/\wd.cell? ⟨X,0,none⟩=some (.int .u64 (a0:Int))/\wd.cell? ⟨X,1,none⟩=some (.int .u64 (c0:Int)):=by rw [hwd];exact ⟨d32,d33,x0,x1⟩
   clear hwd
   refine take_y (i:=0) rfl hS ?_
   try simp only [Act.put,pC,pD,pE,pF,pG]
   refine take_x (i:=1) (v:=.int .i64 (j.first:Int)) rfl (fun w' hLat=>q0w 3 _ (.tmp 70) rfl Tryz.underlying3 rfl _ rfl _ hLat.1) hS ?_
   try simp only [Act.put,pC,pD,pE,pF,pG,pH]
   refine take_y (i:=2) rfl hS ?_
   try simp only [Act.put,pC,pD,pE,pF,pG,pH]
   refine take_x (i:=3) (v:=.int .u64 (a0:Int)) rfl (fun w' hLat=>q0w 25 _ (.tmp 72) rfl Tryz.underlying25 rfl _ rfl _ hLat.2.2.1) hS ?_
   try simp only [Act.put,pC,pD,pE,pF,pG,pH]
   refine take_y (i:=4) rfl hS ?_
   try simp only [Act.put,pC,pD,pE,pF,pG,pH]
   refine take_x (i:=5) (v:=.int .u64 (c0:Int)) rfl (fun w' hLat=>q0w 25 _ (.tmp 74) rfl Tryz.underlying25 rfl _ rfl _ hLat.2.2.2) hS ?_
   try simp only [Act.put,pC,pD,pE,pF,pG,pH]
   refine take_y (i:=6) rfl hS ?_
   try simp only [Act.put,pC,pD,pE,pF,pG,pH]
   refine take_y (i:=7) rfl hS ?_
   try simp only [Act.put,pC,pD,pE,pF,pG,pH]
   refine take_x (i:=8) (v:=.int .u64 (j.size:Int)) rfl (fun w' hLat=>q0w 25 _ (.tmp 77) rfl Tryz.underlying25 rfl _ rfl _ hLat.2.1) hS ?_
   try simp only [Act.put,pC,pD,pE,pF,pG,pH]
   refine take_y (i:=9) rfl hS ?_
   try simp only [Act.put,pC,pD,pE,pF,pG,pH]
   refine take_y (i:=10) rfl hS ?_
   try simp only [Act.put,pC,pD,pE,pF,pG,pH]
   refine take_y (i:=11) rfl hS ?_
   try simp only [Act.put,pC,pD,pE,pF,pG,pH]
   refine take_y (i:=12) rfl hS ?_
   try simp only [Act.put,pC,pD,pE,pF,pG,pH]
   refine wpAnyH_done (by kernel_rfl) ?_ _
   clear d32 d33 x0 x1 e0 e1 e2 e3 e4 hS H1
   have H1:=H1w
   clear H1w
   go_upto_region 14 with fail
   obtain ⟨RC,hRC⟩:=nm (rrc rc0)
   obtain ⟨PB,hPB⟩:=nm (putP rc0)
   have HPt:Box (Calls Tryz.prog 40 #[.agg RC.toArray] wd fun e w'=>e=.returned (.tuple #[.string (strOfNums PB),.int .i64 0])/\Below wd.heap.size wd w'):=⟨by rw [<-hRC,<-hPB];exact rrput_ok rc0 HQ.out.2.2.1 HQ.out.2.2.2.2.1 wd⟩
   have HPB:Box (PB.length=176/\Byt PB/\Seal.sl j.key (p:Int) nx0 PB=T):=⟨by rw [<-hPB];exact ⟨q8e _ HQ.out.2.2.1,z0y _ HQ.out.2.2.2.1,HQ.out.2.2.2.2.2.1⟩⟩
   have HRg:Box (wd.rangeAt g (i*3) RC/\(Tryz.prog.info? 107).map (·.size)=some RC.length/\i<N):=⟨by
    obtain ⟨g',e,hr⟩:=rec_at H1.out.rr HO.out.2 i hlt
    simp only [Option.some.injEq,Addr.mk.injEq,and_true] at e
    rw [e,<-hRC,<-HRc.out]
    exact hr,by rw [<-hRC];exact infoRr,hlt⟩
   clear hRC hPB
   go_upto_region 15 with (first
    | (refine atIdx 99 ?_;refine q0b rfl _ _ (q0p 99 107 Tryz.underlying99 3 infoRr _ _ rfl g 0 N rc_ i rfl rfl HRg.out.2.2) ?_;(try simp only [Nat.zero_add]))
    | (refine atLoad 107 ?_;refine q0c rfl 107 _ _ rfl Tryz.underlying107 rfl g (i*3) rfl RC HRg.out.2.1 HRg.out.1 ?_)
    | (go_at_call 40;refine HPt.out.mono ?_;rintro e w4 ⟨rfl,hb⟩;have H4:Box (Rk w w4 S X V (rq j.key (j.first:Int) (j.size:Int) j.st nx0 j.lim) (sq (a0:Int) (c0:Int) t0) r' (.slice (some ⟨g,0,none⟩) N rc_) N ((ofP P).map rrc).flatten):=⟨H1.out.below hb⟩;clear hb))
   clear HPt HRg H1
   have HKy:Box (w4.rangeAt (S+1) 0 (j.key.map (Value.int .u8))/\(Tryz.prog.info? 23).map (·.size)=some (j.key.map (Value.int .u8)).length/\(j.key.map (Value.int .u8)).toArray=u8s j.key):=⟨(z5l H4.out.rz.b1 HO.out.1.key HO.out.1.st).1,by rw [List.length_map,HO.out.1.key];exact infoSum,rfl⟩
   have d68:w4.cell? ⟨S+1,68,none⟩=some (.int .u64 nx0):=q2s H4.out.rz.b1 (z4y (f:=(j.first:Int)) (n:=(j.size:Int)) (x:=nx0) (y:=j.lim) HO.out.1.key HO.out.1.st).2.2.2.1
   have HSe:Box (Calls Tryz.prog 41 #[.agg (u8s j.key),.int .u32 (p:Int),.int .u64 nx0,.string (strOfNums PB)] w4 fun e w'=>e=.returned (.tuple #[.string (strOfNums T),.int .i64 0])/\Below w4.heap.size w4 w'):=⟨by
    have:=HSl.out j.key PB (p:Int) nx0 w4 HO.out.1.key HO.out.1.kb HPB.out.2.1 HPB.out.1 (by omega) (by omega)
    rw [HPB.out.2.2] at this
    exact this⟩
   go_upto_region 16 with (first
    | (refine atLoad 23 ?_;refine q0c rfl 23 _ _ rfl Tryz.underlying23 rfl (S+1) 0 rfl (j.key.map (Value.int .u8)) HKy.out.2.1 HKy.out.1 ?_;rw [HKy.out.2.2])
    | (go_at_call 41;refine HSe.out.mono ?_;rintro e w5 ⟨rfl,hb⟩;have H5:Box (Rk w w5 S X V (rq j.key (j.first:Int) (j.size:Int) j.st nx0 j.lim) (sq (a0:Int) (c0:Int) t0) r' (.slice (some ⟨g,0,none⟩) N rc_) N ((ofP P).map rrc).flatten):=⟨H4.out.below hb⟩;clear hb))
   clear HKy d68 HSe H4
   have d68:w5.cell? ⟨S+1,68,none⟩=some (.int .u64 nx0):=q2s H5.out.rz.b1 (z4y (f:=(j.first:Int)) (n:=(j.size:Int)) (x:=nx0) (y:=j.lim) HO.out.1.key HO.out.1.st).2.2.2.1
   have f68:w5.frozen? ⟨S+1,68,none⟩=false:=froz_at H5.out.rz.b1
   have e6:IntKind.u64.wrap (nx0+1)=nx0+1:=by rw [IntKind.wrap_u64];omega
   go_upto_region 17 with fail
   have H6:Box (Rk w (w5.setCell ⟨S+1,68,none⟩ (.int .u64 (nx0+1))) S X V (rq j.key (j.first:Int) (j.size:Int) j.st (nx0+1) j.lim) (sq (a0:Int) (c0:Int) t0) r' (.slice (some ⟨g,0,none⟩) N rc_) N ((ofP P).map rrc).flatten):=⟨H5.out.set1 ((But.refl _ _).setCell 68 _) (by rw [heap_setCell_same w5 (S+1) 68 _ _ _ H5.out.rz.b1,List.setIfInBounds_toArray,rq_x _ _ _ _ _ _ _ HO.out.1.key HO.out.1.st])⟩
   generalize w5.setCell ⟨S+1,68,none⟩ (.int .u64 (nx0+1))=w6 at H6 ⊢
   clear d68 f68 e6 H5
   obtain ⟨r2,hJ2,hwr⟩:=rwrite_j HQ.out.1 (by have:=HC.out.2.2.2.1;omega) p HQ.out.2.2.2.2.2.2.2.2.2.2.2 T HQ.out.2.2.2.2.2.2.1
   have HJ2:Box (Disk.J (k+(i+1)) (dwr Y.1 p T).1 r2):=⟨hJ2⟩
   have HWr:Box (Calls Tryz.prog 23 #[.agg V.toArray,.int .i64 (p:Int),.string (strOfNums T)] w6 fun e w3=>RwK r2 0 e w6 w3):=⟨by
    have h0:(dwr Y.1 p T).2=0:=by rw [z5y HQ.out.2.2.2.2.2.2.2.2.2.2.1]
    rw [h0] at hwr
    exact hwr w6 _ H6.out.rv⟩
   have HVl:Box (w6.rangeAt S 0 V/\(Tryz.prog.info? 36).map (·.size)=some V.length):=⟨q0q H6.out.rz.b0,by rw [q6d H6.out.rv];exact Disk.infoD⟩
   clear hJ2 hwr
   go_upto_region 18 with (first
    | (refine atLoad 36 ?_;refine q0c rfl 36 _ _ rfl Tryz.underlying36 rfl S 0 rfl V HVl.out.2 HVl.out.1 ?_)
    | (go_at_call 23;refine HWr.out.mono ?_;rintro e w7 ⟨v2,rfl,hv2,hb⟩;obtain ⟨V2,rfl,hl2,ha2⟩:=q3k hv2;have H7:Box ((Rk w w7 S X V (rq j.key (j.first:Int) (j.size:Int) j.st (nx0+1) j.lim) (sq (a0:Int) (c0:Int) t0) r' (.slice (some ⟨g,0,none⟩) N rc_) N ((ofP P).map rrc).flatten)/\Disk.Rv w7 (.agg V2.toArray) r2/\V2.toArray.all (·.oneCell')=true/\(Tryz.prog.info? 36).map (·.size)=some V2.toArray.size/\V.toArray.size=V2.toArray.size):=⟨H6.out.below hb,hv2,ha2,by rw [List.size_toArray,hl2];exact Disk.infoD,by rw [List.size_toArray,List.size_toArray,hl2,q6d H6.out.rv]⟩;clear hb hv2 hl2 ha2)
    | (refine atStore _ ?_;refine wpList_store_row rfl 36 _ _ rfl S V2.toArray rfl rfl 36 V.toArray H7.out.1.rz.b0 H7.out.2.2.2.1 H7.out.2.2.2.2 H7.out.2.2.1 ?_))
   have H8:Box (Rk w (w7.setRow S V2.toArray) S X V2 (rq j.key (j.first:Int) (j.size:Int) j.st (nx0+1) j.lim) (sq (a0:Int) (c0:Int) t0) r2 (.slice (some ⟨g,0,none⟩) N rc_) N ((ofP P).map rrc).flatten):=⟨H7.out.1.set0 (q0s _ _ _) (setRow_heap _ _ _ _ _ _ H7.out.1.rz.b0) H7.out.2.1⟩
   generalize w7.setRow S V2.toArray=w8 at H8 ⊢
   clear HVl HWr H6 H7
   have x1:w8.cell? ⟨X,1,none⟩=some (.int .u64 (c0:Int)):=q2s H8.out.bx rfl
   have xf:w8.frozen? ⟨X,1,none⟩=false:=froz_at H8.out.bx
   have e7:IntKind.u64.wrap ((c0:Int)+1)=(c0:Int)+1:=by rw [IntKind.wrap_u64];omega
   go_upto_region 21 with fail
   have H9:Box (Rk w (w8.setCell ⟨X,1,none⟩ (.int .u64 ((c0:Int)+1))) S X V2 (rq j.key (j.first:Int) (j.size:Int) j.st (nx0+1) j.lim) (sq (a0:Int) (((c0+1:Nat)):Int) t0) r2 (.slice (some ⟨g,0,none⟩) N rc_) N ((ofP P).map rrc).flatten):=⟨H8.out.setX ((But.refl _ _).setCell 1 _) (by rw [heap_setCell_same w8 X 1 _ _ _ H8.out.bx,List.setIfInBounds_toArray,show (c0:Int)+1=((c0+1:Nat):Int) by omega];rfl)⟩
   generalize w8.setCell ⟨X,1,none⟩ (.int .u64 ((c0:Int)+1))=w9 at H9 ⊢
   clear x1 xf e7 H8
   obtain ⟨L0,hL0⟩:=nm (lnk t0 (p:Int) T)
   have HTg:Box (w9.rangeAt X 2 (t0.map (Value.int .u8))/\(Tryz.prog.info? 23).map (·.size)=some (t0.map (Value.int .u8)).length/\(t0.map (Value.int .u8)).toArray=u8s t0):=⟨fun i v hv=>by
    refine q2s H9.out.bx ?_
    rw [sq,show 2+i=i+1+1 by omega,List.getElem?_cons_succ,List.getElem?_cons_succ]
    exact hv,by rw [List.length_map,HQ.out.2.2.2.2.2.2.2.2.1];exact infoSum,rfl⟩
   have HLk:Box (Calls Tryz.prog 42 #[.agg (u8s t0),.int .u32 (p:Int),.string (strOfNums T)] w9 fun e w'=>e=.returned (.agg (u8s L0))/\Below w9.heap.size w9 w'):=⟨by
    have:=z1z t0 (p:Int) T w9 HQ.out.2.2.2.2.2.2.2.2.1 HQ.out.2.2.2.2.2.2.2.2.2.1 (by omega) HQ.out.2.2.2.2.2.2.2.1 (by rw [HQ.out.2.2.2.2.2.2.1];omega)
    rw [hL0] at this
    exact this⟩
   have HLl:Box (L0.length=32/\t0.length=32/\(Tryz.prog.info? 23).map (·.size)=some (u8s L0).size):=⟨by rw [<-hL0];exact q2w _,HQ.out.2.2.2.2.2.2.2.2.1,by rw [q0h,<-hL0,lnk,q2w];exact infoSum⟩
   have HLe:Box (lnk t0 (p:Int) T=L0):=⟨hL0⟩
   clear hL0
   have HLT:Box (i<N):=⟨hlt⟩
   have e8:IntKind.i64.wrap ((i:Int)+1)=(i:Int)+1:=by rw [IntKind.wrap_i64];omega
   go_wp2_with (first
    | (refine atLoad 23 ?_;refine q0c rfl 23 _ _ rfl Tryz.underlying23 rfl X 2 rfl (t0.map (Value.int .u8)) HTg.out.2.1 HTg.out.1 ?_;rw [HTg.out.2.2])
    | (go_at_call 42;refine HLk.out.mono ?_;rintro e w10 ⟨rfl,hb⟩;have H10:Box ((Rk w w10 S X V2 (rq j.key (j.first:Int) (j.size:Int) j.st (nx0+1) j.lim) (sq (a0:Int) (((c0+1:Nat)):Int) t0) r2 (.slice (some ⟨g,0,none⟩) N rc_) N ((ofP P).map rrc).flatten)):=⟨H9.out.below hb⟩;have HTH:Box (w10.there X 2 (u8s L0).size):=⟨q0z H10.out.bx (by rw [q0h,HLl.out.1,List.size_toArray,q9q _ _ _ HLl.out.2.1];omega)⟩;clear hb)
    | (refine atStore _ ?_;refine wpList_store_mid rfl 23 _ _ rfl X 2 (u8s L0) rfl rfl HTH.out HLl.out.2.2 (q1r L0) ?_))
   have H11:Box (Rk w (w10.setCells X 2 (u8s L0).toList) S X V2 (rq j.key (j.first:Int) (j.size:Int) j.st (nx0+1) j.lim) (sq (a0:Int) (((c0+1:Nat)):Int) L0) r2 (.slice (some ⟨g,0,none⟩) N rc_) N ((ofP P).map rrc).flatten):=⟨H10.out.setX (q0t X _ 2 _ _ (But.refl _ _)) (by
    rw [show (u8s L0).toList=L0.map (Value.int .u8) by simp [u8s],q1h X _ _ 2 _ w10 H10.out.bx (by rw [List.length_map,HLl.out.1,q9q _ _ _ HLl.out.2.1];omega),sq_t _ _ _ _ HLl.out.2.1 HLl.out.1])⟩
   generalize w10.setCells X 2 (u8s L0).toList=w11 at H11 ⊢
   clear HTg HLk H9 H10 HTH
   have HR:Box (∃V r',Ri w w11 S X j d P k (i+1) (.slice (some ⟨g,0,none⟩) N rc_) V r'):=⟨V2,r2,by
    have hs:=HQ.out.2.1
    unfold hsnocP at hs
    rw [HLe.out] at hs
    have k:=H11.out
    refine ⟨?_,?_,k.hx,k.rv,?_,?_⟩
    ·rw [hs];exact k.rz
    ·rw [hs];exact k.bx
    ·rw [hs];exact HJ2.out
    ·rw [HN.out];exact k.rr⟩
   clear H11 HJ2
   go_roundw
   case rel=>exact ⟨i+1,HLT.out,by go_num,HR⟩
   case measure=>simp [intOf];have:=HLT.out;omega
  ·obtain ⟨V,r',hR⟩:=HI.out
   have hiN:i=N:=by omega
   obtain ⟨Y,hYe⟩:=nm (apL j (d,j.nx,0,j.st) (ofP P))
   obtain ⟨J1,hJ1⟩:=nm (rq j.key (j.first:Int) (j.size:Int) j.st Y.2.1 j.lim)
   obtain ⟨q1,hq1⟩:=nm (scs Y.2.2.2)
   have hY:=q9t j (ofP P) d j.nx j.st HC.out.2.1 ⟨HC.out.1.st.lt,HC.out.1.st.bt⟩
   rw [hYe] at hY
   have htk:(ofP P).take i=ofP P:=List.take_of_length_le (by rw [q3h,HN.out];omega)
   have HK:Box (Rk w wr S X V J1 q1 r' (.slice (some ⟨g,0,none⟩) N rc_) N ((ofP P).map rrc).flatten/\Disk.J (k+N) Y.1 r'/\V.length=6/\J1.length=70/\q1.length=34):=⟨by
    have k1:=hR.rz
    have k2:=hR.bx
    have k3:=hR.rr
    have k4:=hR.dj
    rw [htk,hYe] at k1 k2 k4
    rw [hJ1] at k1
    rw [hq1] at k2
    rw [HN.out] at k3
    rw [hiN] at k4
    refine ⟨⟨k1,k2,hR.hx,hR.rv,k3⟩,k4,q6d hR.rv,?_,?_⟩
    ·rw [<-hJ1];exact q1u _ _ _ _ _ _ HC.out.1.key HC.out.1.st
    ·rw [<-hq1,scs_sq];exact q9q _ _ _ hY.tg.1⟩
   have HI2:Box ((Tryz.prog.info? 36).map (·.size)=some V.length/\(Tryz.prog.info? 44).map (·.size)=some J1.length/\(Tryz.prog.info? 42).map (·.size)=some q1.length):=⟨by rw [HK.out.2.2.1];exact Disk.infoD,by rw [HK.out.2.2.2.1];exact infoRj,by rw [HK.out.2.2.2.2];exact infoS13⟩
   have HI3:Box ((Tryz.prog.info? 36).map (·.size)=some V.toArray.size/\(Tryz.prog.info? 44).map (·.size)=some J1.toArray.size/\(Tryz.prog.info? 42).map (·.size)=some q1.toArray.size):=⟨by rw [List.size_toArray];exact HI2.out.1,by rw [List.size_toArray];exact HI2.out.2.1,by rw [List.size_toArray];exact HI2.out.2.2⟩
   have HI4:Box (V.toArray.all (·.oneCell')=true/\J1.toArray.all (·.oneCell')=true/\q1.toArray.all (·.oneCell')=true):=⟨by
    refine ⟨?_,?_,?_⟩
    ·obtain ⟨V',e,_,h⟩:=q3k HK.out.1.rv
     have e2:V=V':=by simpa using e
     rw [e2];exact h
    ·rw [<-hJ1];simp [rq,scs,Value.oneCell']
    ·rw [<-hq1];simp [scs,Value.oneCell']⟩
   have HYe:Box (apL j (d,j.nx,0,j.st) (ofP P)=Y/\rq j.key (j.first:Int) (j.size:Int) j.st Y.2.1 j.lim=J1/\scs Y.2.2.2=q1):=⟨hYe,hJ1,hq1⟩
   have hlt1:decide ((i:Int)<(N:Int))=false:=by simp;omega
   clear hR HI htk hY hYe hJ1 hq1 hiN hi HC HN HE2 HSl
   go_upto_region 22 with fail
   refine q1g (S:=fun y=>S22 y S X V J1 q1) (by kernel_rfl) (fun wd hwd=>?_)
   have hkd:Rk w wd S X V J1 q1 r' (.slice (some ⟨g,0,none⟩) N rc_) N ((ofP P).map rrc).flatten:=by rw [hwd];exact HK.out.1.below ((Below.refl _ _).drew)
   have HE9:Box _:=⟨end22 hkd HK.out.2.2.1 HK.out.2.2.2.1 HK.out.2.2.2.2⟩
   have hS:=hkd.s22
   clear hwd
   refine take_x (i:=0) (v:=.agg V.toArray) rfl (fun w' hLat=>q0k 36 _ (.tmp 3) rfl Tryz.underlying36 rfl _ _ rfl _ HI2.out.1 hLat.1) hS ?_
   try simp only [Act.put,pC,pD,pE,pF,pG]
   refine take_x (i:=1) (v:=.agg J1.toArray) rfl (fun w' hLat=>q0k 44 _ (.tmp 4) rfl Tryz.underlying44 rfl _ _ rfl _ HI2.out.2.1 hLat.2.1) hS ?_
   try simp only [Act.put,pC,pD,pE,pF,pG,pH]
   refine take_x (i:=2) (v:=.agg q1.toArray) rfl (fun w' hLat=>q0k 42 _ (.tmp 13) rfl Tryz.underlying42 rfl _ _ rfl _ HI2.out.2.2 hLat.2.2) hS ?_
   try simp only [Act.put,pC,pD,pE,pF,pG,pH]
   refine q0m (i:=3) (by kernel_rfl) ?_
   refine q0d rfl (by rfl) ?_
   refine wp_store_mid 36 (.tmp 6) (.tmp 129) rfl (S+2) 0 V.toArray rfl rfl HE9.out.t2 HI3.out.1 HI4.out.1 ?_
   rw [List.toList_toArray]
   have hS:=HE9.out.k1.s22
   refine ⟨hS,?_⟩
   try simp only [Act.put,pF,pG,pH]
   refine q0m (i:=4) (by kernel_rfl) ?_
   refine q0d rfl (by rfl) ?_
   refine wp_store_mid 44 (.tmp 7) (.tmp 130) rfl (S+3) 0 J1.toArray rfl rfl HE9.out.t3 HI3.out.2.1 HI4.out.2.1 ?_
   rw [List.toList_toArray]
   have hS:=HE9.out.k2.s22
   refine ⟨hS,?_⟩
   try simp only [Act.put,pF,pG,pH]
   refine q0m (i:=5) (by kernel_rfl) ?_
   refine q0d rfl (by rfl) ?_
   refine wp_store_mid 42 (.tmp 8) (.tmp 131) rfl (S+4) 0 q1.toArray rfl rfl HE9.out.t4 HI3.out.2.2 HI4.out.2.2 ?_
   rw [List.toList_toArray]
   have hS:=HE9.out.k3.s22
   refine ⟨hS,?_⟩
   try simp only [Act.put,pF,pG,pH]
   refine take_y (i:=6) rfl hS ?_
   try simp only [Act.put,pC,pD,pE,pF,pG,pH]
   refine wpAnyH_done (by kernel_rfl) ?_ _
   clear hS hkd
   go_wp2
   refine bodyPost_ret (q4r (t:=6) (u:=7) (v:=8) (x:=9) rfl _ _ _ Tryz.underlying36 rfl Tryz.underlying44 rfl Tryz.underlying42 rfl _ _ (S+2) (S+3) (S+4) V J1 q1 HI2.out.1 HI2.out.2.1 HI2.out.2.2 rfl rfl rfl HE9.out.r2 HE9.out.r3 HE9.out.r4) rfl ?_
   have hk:=HE9.out.k3
   rw [HYe.out.1]
   exact ⟨_,r',by rw [HYe.out.2.1,sa,HYe.out.2.2];rfl,hk.rv,HK.out.2.1,hk.rz.bl⟩
end Go.Proofs.YtjejnlebpcjidaaGreatDoor
