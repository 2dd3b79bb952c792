/-
 What Get of package record answers. And what follows it.
-/
import Derived.Test.YtjejnlebpcjidaaGreatDoorQ01
import Derived.Test.YtjejnlebpcjidaaGreatDoorQ21
import Derived.Test.YtjejnlebpcjidaaGreatDoorQ22
set_option linter.unusedVariables false
set_option maxRecDepth 100000
set_option maxRecDepth 100000
namespace Go.Proofs.YtjejnlebpcjidaaGreatDoor
open Go.RowKit Plain
theorem get_k (a:Option Addr) (cap:Nat) (L:List Int) (p:Nat) (p':Int) (w:World) (hb:Bytes w a 176 L) (hp:p+8<=176) (he:p'=(p:Int)):
  Calls Tryz.prog 121 #[.slice a 176 cap,.int .i64 p',.int .i64 8] w fun e w'=>e=.returned (.tuple #[.int .u64 (num L p 8),.int .i64 0])/\w=w':=by
 subst he
 exact z6d a 176 cap L p 8 w hb (by decide) (by omega) (by omega) hp
theorem q1a {fn:Func} {ty:TypeId} {t u:Tmp} (h:fn.results=#[.cell t ty,.tmp u]) (d:TypeDesc) (hu:Tryz.prog.underlying ty=some d) (hd:d.isRow=true) (tmps:Array Value) (w:World) (b:Nat) (cs:Array Value) (hi:(Tryz.prog.info? ty).map (·.size)=some cs.size) (ht:tmps.getD t undef=.pointer (some ⟨b,0,none⟩)) (hg:w.heap[b]?=some (.cells cs ty (0,0))):
  (results fn tmps).run Tryz.prog w=.ok (.tuple #[.agg cs,tmps.getD u undef]) w:=by
 have hl:=run_loadVar_mid (P:=Tryz.prog) w b 0 ty cs.toList d (q2a hg _ (fun j v hv=>by simpa using hv)) hu hd (by simpa using hi)
 rw [results_cell_tmp h,ht]
 simp [asAddr,hl]
theorem q0s (w:World) (g:Nat) (cs:Array Value):But g w (w.setRow g cs):=⟨rfl,rfl,rfl,by simp [World.setRow],fun k _ hn=>setRow_other w g k cs hn⟩
def zrc:Rc:=⟨⟨0,none,0,0,[]⟩,false⟩
theorem z0e:Tryz.prog.built 95 []=some (rcc zrc).toArray:=by kernel_rfl
theorem built_Rc (b:Int) (a:Option Addr) (l c:Nat) (x:Bool):Tryz.prog.built 95 [(0,.agg #[.int .u64 b,.slice a l c]),(1,.bool x)]=some #[.int .u64 b,.slice a l c,.bool x]:=by kernel_rfl
theorem z0l (r:Rc):(rcc r).toArray.all (·.oneCell')=true:=by simp [rcc,Value.oneCell']
def fitR (L:List Int):Prop:=L.length=176/\(num L 0 8=1∨num L 0 8=257)
set_option maxHeartbeats 1000000 in
theorem rcget_no (a:Option Addr) (len cap:Nat) (L:List Int) (w:World) (h:Bytes w a len L) (hl:len<=maxLen) (hc:len<=cap) (hn:¬fitR L):
  Calls Tryz.prog 102 #[.slice a len cap] w fun e w'=>e=.returned (.tuple #[.agg (rcc zrc).toArray,.int .i64 11])/\Below w.heap.size w w':=by
 unfold maxLen at hl
 obtain ⟨S,hS⟩:=nm w.heap.size
 obtain ⟨w1,hw1⟩:=nm (w.alloc (.cells #[.int .u64 0,.slice none 0 0,.bool false] 95))
 have hb1:Below w.heap.size w w1:=by rw [<-hw1];exact (Below.refl _ _).alloc (Nat.le_refl _) _
 have r1:w1.heap[S]?=some (.cells (rcc zrc).toArray 95 (0,0)):=by rw [<-hw1];exact q0g hS
 have HR:Box _:=⟨r1⟩
 have HB:Box (Below w.heap.size w w1/\w.heap.size=S):=⟨hb1,hS⟩
 by_cases h176:len=176
 ·subst h176
  have hx:((num L 0 8:Int) != 1)=true/\((num L 0 8:Int) != 257)=true:=by
   constructor
   ·simp;exact fun e=>hn ⟨h.1,.inl e⟩
   ·simp;exact fun e=>hn ⟨h.1,.inr e⟩
  obtain ⟨z,hz⟩:=nm (num L 0 8)
  have HG:Box (Calls Tryz.prog 121 #[.slice a 176 cap,.int .i64 0,.int .i64 8] w1 fun e w'=>e=.returned (.tuple #[.int .u64 z,.int .i64 0])/\w1=w'):=⟨hz▸get_k a cap L 0 0 w1 (h.below hb1) (by omega) rfl⟩
  rw [hz] at hx
  obtain ⟨hx1,hx2⟩:=hx
  clear hb1 r1 h hn hz
  go_enter Tryz.func102,Tryz.ntmps102
  go_upto_region 1 with (refine atAlloc _ ?_;refine q0b rfl _ _ (q0e 95 rfl _ zeroRc) ?_)
  (try simp only [hw1,hS])
  go_wp2_with (first
   | (go_at_call 121;refine HG.out.mono ?_;rintro e x1 ⟨rfl,rfl⟩)
   | (refine atBuild _ ?_;refine q0b rfl _ _ (q0n 95 [] rfl [] rfl _ z0e) ?_)
   | (refine atStore _ ?_;refine wpList_store_row rfl 95 _ _ rfl S (rcc zrc).toArray rfl rfl 95 (rcc zrc).toArray HR.out infoRc rfl (z0l zrc) ?_))
  refine bodyPost_ret (q1a (t:=2) (u:=3) rfl _ Tryz.underlying95 rfl _ _ S (rcc zrc).toArray infoRc rfl (setRow_heap _ _ _ _ _ _ HR.out)) rfl ?_
  exact ⟨rfl,below_setRow HB.out.1 (Nat.le_of_eq HB.out.2) _⟩
 ·have hx1:((len:Int) != 176)=true:=by simp;omega
  clear hb1 r1 h hn h176
  go_enter Tryz.func102,Tryz.ntmps102
  go_upto_region 1 with (refine atAlloc _ ?_;refine q0b rfl _ _ (q0e 95 rfl _ zeroRc) ?_)
  (try simp only [hw1,hS])
  go_wp2_with (first
   | (refine atBuild _ ?_;refine q0b rfl _ _ (q0n 95 [] rfl [] rfl _ z0e) ?_)
   | (refine atStore _ ?_;refine wpList_store_row rfl 95 _ _ rfl S (rcc zrc).toArray rfl rfl 95 (rcc zrc).toArray HR.out infoRc rfl (z0l zrc) ?_))
  refine bodyPost_ret (q1a (t:=2) (u:=3) rfl _ Tryz.underlying95 rfl _ _ S (rcc zrc).toArray infoRc rfl (setRow_heap _ _ _ _ _ _ HR.out)) rfl ?_
  exact ⟨rfl,below_setRow HB.out.1 (Nat.le_of_eq HB.out.2) _⟩
def getP (L:List Int):(Int × List Int) × Bool:=((num L 8 8,L.drop 16),decide (num L 0 8=257))
set_option maxHeartbeats 1000000 in
theorem rcget_ok (a:Option Addr) (cap:Nat) (L:List Int) (w:World) (h:Bytes w a 176 L) (hc:176<=cap) (hn:fitR L):
  Calls Tryz.prog 102 #[.slice a 176 cap] w fun e w'=>∃r,e=.returned (.tuple #[.agg (rcc r).toArray,.int .i64 0])/\rpl r=getP L/\r.m.bl=160/\OIm w' w.heap.size r.m/\Below w.heap.size w w':=by
 obtain ⟨S,hS⟩:=nm w.heap.size
 obtain ⟨w1,hw1⟩:=nm (w.alloc (.cells #[.int .u64 0,.slice none 0 0,.bool false] 95))
 have hb1:Below w.heap.size w w1:=by rw [<-hw1];exact (Below.refl _ _).alloc (Nat.le_refl _) _
 have hs1:w1.heap.size=S+1:=by rw [<-hw1];simp [hS]
 have r1:w1.heap[S]?=some (.cells (rcc zrc).toArray 95 (0,0)):=by rw [<-hw1];exact q0g hS
 have HR:Box (∀x,Below w1.heap.size w1 x->x.heap[S]?=some (.cells (rcc zrc).toArray 95 (0,0))):=⟨fun x hx=>(hx.block S (by omega)).trans r1⟩
 have HB:Box (Below w.heap.size w w1/\w.heap.size=S/\w1.heap.size=S+1):=⟨hb1,hS,hs1⟩
 obtain ⟨z,hz⟩:=nm (num L 0 8)
 obtain ⟨q,hq⟩:=nm (num L 8 8)
 have hqb:N64 q:=by
  have:=q8x L 8 h.2.1 8
  rw [hq] at this
  exact ⟨this.1,by omega⟩
 have HG:Box (Calls Tryz.prog 121 #[.slice a 176 cap,.int .i64 0,.int .i64 8] w1 fun e w'=>e=.returned (.tuple #[.int .u64 z,.int .i64 0])/\w1=w'):=⟨hz▸get_k _ cap L 0 0 w1 (h.below hb1) (by omega) rfl⟩
 have HG2:Box (Calls Tryz.prog 121 #[.slice a 176 cap,.int .i64 8,.int .i64 8] w1 fun e w'=>e=.returned (.tuple #[.int .u64 q,.int .i64 0])/\w1=w'):=⟨hq▸get_k _ cap L 8 8 w1 (h.below hb1) (by omega) rfl⟩
 obtain ⟨bb,oo,hae,hlt,hcl⟩:=h.2.2 (by omega)
 subst hae
 have hcn:¬cap=16:=by omega
 have hby:Bytes w1 (some ⟨bb,oo+16,none⟩) 160 (L.drop 16):=⟨by rw [List.length_drop,h.1],q8b L 16 h.2.1,fun _=>⟨bb,oo+16,rfl,Nat.lt_of_lt_of_le hlt hb1.size,fun i hi=>by
  have e:=hcl (16+i) (by omega)
  rw [hb1.cell hlt,show oo+16+i=oo+(16+i) by omega,e]
  simp [List.getD,List.getElem?_drop]⟩⟩
 have HO:Box (Calls Tryz.prog 69 #[.agg #[.int .u64 q,.slice (some ⟨bb,oo+16,none⟩) 160 (cap-16)]] w1 fun e w'=>∃m',e=.returned (.agg (imc m').toArray)/\Owned w1 w' ⟨q,some ⟨bb,oo+16,none⟩,160,cap-16,L.drop 16⟩ m'):=⟨z1m ⟨q,some ⟨bb,oo+16,none⟩,160,cap-16,L.drop 16⟩ w1 hby hqb (by show (160:Nat)<1000000;decide)⟩
 have HP:Box (getP L=((q,L.drop 16),decide (z=257))):=⟨by rw [getP,hq,hz]⟩
 obtain ⟨b,hzb⟩:=nm ((z==257))
 have HZB:Box (decide (z=257)=b):=⟨by rw [<-hzb];rfl⟩
 have hfit:z=1∨z=257:=hz▸hn.2
 have key:∀(hx1:(z != 1)=true/\(z != 257)=false∨(z != 1)=false),Calls Tryz.prog 102 #[.slice (some ⟨bb,oo,none⟩) 176 cap] w fun e w'=>∃r,e=.returned (.tuple #[.agg (rcc r).toArray,.int .i64 0])/\rpl r=getP L/\r.m.bl=160/\OIm w' w.heap.size r.m/\Below w.heap.size w w':=by
  intro hx1
  clear hb1 r1 h hn hz hq hby hfit hqb hs1 hlt hcl
  have hx2:(z != 1&&z != 257)=false:=by rcases hx1 with ⟨h1,h2⟩ | h1<;>simp [*]
  rcases hx1 with ⟨hx1,hx3⟩ | hx1
  all_goals
   clear hx2
   go_enter Tryz.func102,Tryz.ntmps102
   go_upto_region 1 with (refine atAlloc _ ?_;refine q0b rfl _ _ (q0e 95 rfl _ zeroRc) ?_)
   (try simp only [hw1,hS])
   go_upto_region 6 with (go_at_call 121;refine HG.out.mono ?_;rintro e x1 ⟨rfl,rfl⟩)
   go_upto_region 7 with (go_at_call 121;refine HG2.out.mono ?_;rintro e x1 ⟨rfl,rfl⟩)
   go_wp2_with (first
    | (refine atBuild 79 ?_;refine q0b rfl _ _ (q0n 79 [(0,.tmp 29),(1,.tmp 31)] rfl [(0,.int .u64 q),(1,.slice (some ⟨bb,oo+16,none⟩) 160 (cap-16))] rfl _ (q3r _ _ _ _)) ?_)
    | (refine atBuild 95 ?_;refine q0b rfl _ _ (q0n 95 [(0,.tmp 33),(1,.tmp 35)] rfl [(0,.agg #[.int .u64 mb,.slice ma ml mc]),(1,.bool b)] rfl _ (built_Rc _ _ _ _ _)) ?_)
    | (refine atStore _ ?_;refine wpList_store_row rfl 95 _ _ rfl S #[.int .u64 mb,.slice ma ml mc,.bool b] rfl rfl 95 (rcc zrc).toArray HRX.out infoRc rfl (by simp [Value.oneCell']) ?_)
    | (go_at_call 69;refine HO.out.mono ?_;rintro e x1 ⟨⟨mb,ma,ml,mc,ms⟩,rfl,hO⟩;have HX:Box (Owned w1 x1 ⟨q,some ⟨bb,oo+16,none⟩,160,cap-16,L.drop 16⟩ ⟨mb,ma,ml,mc,ms⟩):=⟨hO⟩;have HRX:Box _:=⟨HR.out x1 hO.2.2.2⟩;clear hO))
   refine bodyPost_ret (q1a (t:=2) (u:=3) rfl _ Tryz.underlying95 rfl _ _ S #[.int .u64 mb,.slice ma ml mc,.bool b] infoRc rfl (setRow_heap _ _ _ _ _ _ HRX.out)) rfl ?_
   obtain ⟨h1,h2,h3,h4⟩:=HX.out
   refine ⟨⟨⟨mb,ma,ml,mc,ms⟩,b⟩,rfl,?_,h2,?_,below_setRow (q0a HB.out.1 h4) (Nat.le_of_eq HB.out.2.1) _⟩
   ·rw [HP.out,HZB.out]
    show (pl _,b)=_
    rw [h1]
    rfl
   ·refine ⟨q2u (q0j h3.own (fun k hk=>?_)) (by have:=HB.out;omega),h3.byt,h3.num⟩
    have hk1:=(h3.own.lt k hk).1
    exact (q0s x1 S _).block k (h3.own.lt k hk).2 (by have:=HB.out.2.2;omega)
 rcases hfit with rfl | rfl
 ·exact key (.inr rfl)
 ·exact key (.inl ⟨rfl,rfl⟩)
attribute [local go_sem] Oper.semAt_some
theorem JC.jrd {w0 w x:World} {J D:Nat} {fp:Nat->Prop} {j:Jt} {d:Disk.Dk} (h:JC w0 w J D fp j d) (hb:Below w.heap.size w x):Jrd x J D j:=(h.below hb).rd
def tke (j:Jt) (n:Nat):Int:=if j.size-j.st.count<n then 17 else if j.lim<j.nx+(n:Int) then 15 else 0
set_option maxHeartbeats 2000000 in
theorem z2x {w:World} {J D:Nat} {j:Jt} (h:w.heap[J]?=some (.cells (jcs D j).toArray 88 (0,0))) (ok:j.Ok) (n:Nat) (hn:n<=1000000):Calls Tryz.prog 35 #[.pointer (some ⟨J,0,none⟩),.int .u64 (n:Int)] w fun e w'=>e=.returned (.int .i64 (tke j n))/\Below w.heap.size w w':=by
 have hlt:=(gE h)
 have HR:Box (Calls Tryz.prog 70 #[.pointer (some ⟨J,0,none⟩)] w fun e w'=>e=.returned (.int .u64 ((j.size-j.st.count:Nat):Int))/\Below w.heap.size w w'):=⟨(room_any (q9u h ok.key ok.st) ok).mono fun e w' ⟨h1,m,h2⟩=>⟨h1,by rw [h2];exact q3e (Below.refl _ _) m⟩⟩
 have HJ:Box (∀x,Below w.heap.size w x->x.cell? ⟨J,69,none⟩=some (.int .u64 j.nx)/\x.cell? ⟨J,70,none⟩=some (.int .u64 j.lim)):=⟨fun x hx=>by
  have:=q9u ((hx.block J hlt).trans h) ok.key ok.st
  exact ⟨this.nx,this.lim⟩⟩
 have hnx:=ok.nx
 have hlm:=ok.lim
 have hn2:0<=(n:Int)/\(n:Int)<=18446744073709551615:=by omega
 have HA:Box (∀(x:World) (N:Nat),N=x.heap.size->Calls Tryz.prog 71 #[.slice (some ⟨N,0,none⟩) 2 2] (x.alloc (.cells #[.int .u64 j.nx,.int .u64 (n:Int)] 25)) fun e w'=>e=addEnd (j.nx+(n:Int))/\x.alloc (.cells #[.int .u64 j.nx,.int .u64 (n:Int)] 25)=w'):=⟨fun x N hN=>add2 x N hN _ _ (by omega) hn2⟩
 clear h ok
 obtain ⟨r,hr⟩:=nm (j.size-j.st.count)
 by_cases h1:r<n
 ·have e:tke j n=17:=by unfold tke;rw [hr,if_pos h1]
  rw [e]
  rw [hr] at HR
  have d1:decide (r<n)=true:=by simpa using h1
  clear h1 hr e
  go_enter Tryz.func35,Tryz.ntmps35
  go_wp2_with (go_at_call 70;refine HR.out.mono ?_;rintro e x1 ⟨rfl,hb⟩;have H1:Box (Below w.heap.size w x1):=⟨hb⟩;clear hb)
  go_ret
  exact ⟨rfl,H1.out⟩
 ·have d1:decide (r<n)=false:=by simpa using h1
  rw [hr] at HR
  by_cases h2:j.nx+(n:Int)<=18446744073709551615
  ·have ea:=z2h h2
   by_cases h3:j.lim<j.nx+(n:Int)
   ·have e:tke j n=15:=by unfold tke;rw [hr,if_neg h1,if_pos h3]
    rw [e]
    have d3:decide (j.lim<j.nx+(n:Int))=true:=by simpa using h3
    generalize j.nx+(n:Int)=s at *
    rw [ea] at HA
    clear h1 h2 h3 hr e ea hnx hlm hn2 hn hlt
    go_enter Tryz.func35,Tryz.ntmps35
    go_upto_region 3 with (go_at_call 70;refine HR.out.mono ?_;rintro e x1 ⟨rfl,hb⟩;have H1:Box (Below w.heap.size w x1):=⟨hb⟩;have c1:=(HJ.out x1 hb).1;clear hb)
    obtain ⟨x2,hx2⟩:=nm (x1.alloc (.cells #[.int .u64 j.nx,.int .u64 (n:Int)] 25))
    have hb2:Below w.heap.size w x2:=by rw [<-hx2];exact H1.out.alloc H1.out.size _
    have c2:=(HJ.out x2 hb2).2
    have HA1:Box (∀N,N=x1.heap.size->Calls Tryz.prog 71 #[.slice (some ⟨N,0,none⟩) 2 2] x2 _):=⟨fun N hN=>by have:=HA.out x1 N hN;rw [hx2] at this;exact this⟩
    have H2:Box (Below w.heap.size w x2):=⟨hb2⟩
    clear hb2 HA HR HJ
    go_wp2_with (go_at_call 71;refine (HA1.out _ rfl).mono ?_;rintro e x3 ⟨rfl,rfl⟩)
    go_ret
    exact ⟨rfl,H2.out⟩
   ·have e:tke j n=0:=by unfold tke;rw [hr,if_neg h1,if_neg h3]
    rw [e]
    have d3:decide (j.lim<j.nx+(n:Int))=false:=by simpa using h3
    generalize j.nx+(n:Int)=s at *
    rw [ea] at HA
    clear h1 h2 h3 hr e ea hnx hlm hn2 hn hlt
    go_enter Tryz.func35,Tryz.ntmps35
    go_upto_region 3 with (go_at_call 70;refine HR.out.mono ?_;rintro e x1 ⟨rfl,hb⟩;have H1:Box (Below w.heap.size w x1):=⟨hb⟩;have c1:=(HJ.out x1 hb).1;clear hb)
    obtain ⟨x2,hx2⟩:=nm (x1.alloc (.cells #[.int .u64 j.nx,.int .u64 (n:Int)] 25))
    have hb2:Below w.heap.size w x2:=by rw [<-hx2];exact H1.out.alloc H1.out.size _
    have c2:=(HJ.out x2 hb2).2
    have HA1:Box (∀N,N=x1.heap.size->Calls Tryz.prog 71 #[.slice (some ⟨N,0,none⟩) 2 2] x2 _):=⟨fun N hN=>by have:=HA.out x1 N hN;rw [hx2] at this;exact this⟩
    have H2:Box (Below w.heap.size w x2):=⟨hb2⟩
    clear hb2 HA HR HJ
    go_wp2_with (go_at_call 71;refine (HA1.out _ rfl).mono ?_;rintro e x3 ⟨rfl,rfl⟩)
    go_ret
    exact ⟨rfl,H2.out⟩
  ·have ea:=z3a (s:=j.nx+(n:Int)) (by omega)
   have e:tke j n=15:=by unfold tke;rw [hr,if_neg h1,if_pos (by omega)]
   rw [e]
   generalize j.nx+(n:Int)=s at *
   rw [ea] at HA
   clear h1 hr e ea hnx hlm hn2 hn hlt
   go_enter Tryz.func35,Tryz.ntmps35
   go_upto_region 3 with (go_at_call 70;refine HR.out.mono ?_;rintro e x1 ⟨rfl,hb⟩;have H1:Box (Below w.heap.size w x1):=⟨hb⟩;have c1:=(HJ.out x1 hb).1;clear hb)
   obtain ⟨x2,hx2⟩:=nm (x1.alloc (.cells #[.int .u64 j.nx,.int .u64 (n:Int)] 25))
   have hb2:Below w.heap.size w x2:=by rw [<-hx2];exact H1.out.alloc H1.out.size _
   have c2:=(HJ.out x2 hb2).2
   have HA1:Box (∀N,N=x1.heap.size->Calls Tryz.prog 71 #[.slice (some ⟨N,0,none⟩) 2 2] x2 _):=⟨fun N hN=>by have:=HA.out x1 N hN;rw [hx2] at this;exact this⟩
   have H2:Box (Below w.heap.size w x2):=⟨hb2⟩
   clear hb2 HA HR HJ
   go_wp2_with (go_at_call 71;refine (HA1.out _ rfl).mono ?_;rintro e x3 ⟨rfl,rfl⟩)
   go_ret
   exact ⟨rfl,H2.out⟩
set_option maxHeartbeats 2000000 in
theorem state_any {w:World} {J D:Nat} {j:Jt} (hrow:w.heap[J]?=some (.cells (jcs D j).toArray 88 (0,0))) (ok:j.Ok):Calls Tryz.prog 19 #[.pointer (some ⟨J,0,none⟩)] w fun e w'=>e=.returned (.tuple #[.agg (sa j.st),.int .u64 j.nx])/\Below w.heap.size w w':=by
 obtain ⟨S,hS⟩:=nm w.heap.size
 obtain ⟨w1,hw1⟩:=nm (w.alloc (.cells (sa zs) 27))
 have hb1:Below w.heap.size w w1:=by rw [<-hw1];exact (Below.refl _ _).alloc (Nat.le_refl _) _
 have h1:w1.heap[S]?=some (.cells (sa zs) 27 (0,0)):=by rw [<-hw1];exact q0g hS
 have hJ:=(gE hrow)
 have HNO:Box (Calls Tryz.prog 33 #[.pointer (some ⟨J,0,none⟩)] w1 fun e w'=>e=.returned (.bool false)/\w1=w'):=⟨q7p (q9u ((hb1.block J hJ).trans hrow) ok.key ok.st) ok.lo⟩
 have HN:Box (w.heap.size=S):=⟨hS⟩
 have HVR:Box (∀x,Below w1.heap.size w1 x->x.rangeAt J 35 (scs j.st)/\x.cell? ⟨J,69,none⟩=some (.int .u64 j.nx)):=⟨fun x hx=>by
  have:=q9u (((q0a hb1 hx).block J hJ).trans hrow) ok.key ok.st
  exact ⟨this.st,this.nx⟩⟩
 have HSR:Box (∀x,Below w1.heap.size w1 x->x.heap[S]?=some (.cells (sa zs) 27 (0,0))):=⟨fun x hx=>(hx.block S (gE h1)).trans h1⟩
 have HSZ:Box ((sa j.st).size=34/\(sa zs).size=34/\(Tryz.prog.info? 27).map (·.size)=some (sa j.st).toList.length/\(Tryz.prog.info? 27).map (·.size)=some (scs j.st).length/\(Tryz.prog.info? 27).map (·.size)=some (sa j.st).size):=⟨q1b ok.st,q1b q1f,by rw [Array.length_toList,q1b ok.st];exact infoSt,by rw [q0u ok.st];exact infoSt,by rw [q1b ok.st];exact infoSt⟩
 have HFO:Box (∀x y,Below w1.heap.size w1 x->x.setCells S 0 (sa j.st).toList=y->(y.rangeAt J 35 (scs j.st)/\y.cell? ⟨J,69,none⟩=some (.int .u64 j.nx))/\y.heap[S]?=some (.cells (sa j.st) 27 (0,0))/\Below w.heap.size w y):=⟨fun x y hx hy=>by
  have hb:But S x y:=by rw [<-hy];exact q0t S _ 0 _ _ (But.refl _ _)
  have hzs:=HSZ.out
  have hz:=(q0a hb1 hx).size
  refine ⟨⟨q3c hb (HVR.out x hx).1 (by omega),q2y hb (HVR.out x hx).2 (by show J≠S;omega)⟩,?_,q1i (q0a hb1 hx) hb (by omega) hz⟩
  rw [<-hy,Disk.q1o S _ _ 0 _ _ (HSR.out x hx) (by simp only [Array.length_toList];omega),Disk.q3n _ _ (by simp only [Array.length_toList];omega)]⟩
 clear h1 hb1 hS hrow ok hJ
 go_enter Tryz.func19,Tryz.ntmps19
 go_upto_region 1 with (refine atAlloc _ ?_;refine q0b rfl _ _ (q0e 27 rfl _ zeroSt) ?_)
 simp only [HN.out]
 clear hw1
 go_upto_region 3 with (go_at_call 33;refine HNO.out.mono ?_;rintro e x1 ⟨rfl,rfl⟩)
 refine q1g (S:=fun x=>x.rangeAt J 35 (scs j.st)/\x.cell? ⟨J,69,none⟩=some (.int .u64 j.nx)) (by kernel_rfl) (fun wd hwd=>?_)
 have hbd:Below w1.heap.size w1 wd:=by rw [hwd];exact (Below.refl _ _).drew
 clear hwd
 have hS:=HVR.out wd hbd
 refine take_y (i:=0) rfl hS ?_
 try simp only [Act.put,pC,pD,pE,pF,pG]
 refine take_y (i:=1) rfl hS ?_
 try simp only [Act.put,pC,pD,pE,pF,pG,pH]
 refine take_y (i:=2) rfl hS ?_
 try simp only [Act.put,pC,pD,pE,pF,pG,pH]
 refine take_x (i:=3) (v:=.agg (sa j.st)) rfl (fun w' hLat=>q0k 27 _ _ rfl Tryz.underlying27 rfl J 35 rfl (scs j.st) HSZ.out.2.2.2.1 hLat.1) hS ?_
 try simp only [Act.put,pC,pD,pE,pF,pG,pH]
 refine take_y (i:=4) rfl hS ?_
 try simp only [Act.put,pC,pD,pE,pF,pG,pH]
 refine take_y (i:=5) rfl hS ?_
 try simp only [Act.put,pC,pD,pE,pF,pG,pH]
 refine take_y (i:=6) rfl hS ?_
 try simp only [Act.put,pC,pD,pE,pF,pG,pH]
 refine take_x (i:=7) (v:=.int .u64 j.nx) rfl (fun w' hLat=>q0w 25 _ _ rfl Tryz.underlying25 rfl _ rfl _ hLat.2) hS ?_
 try simp only [Act.put,pC,pD,pE,pF,pG,pH]
 refine q0m (i:=8) (by kernel_rfl) ?_
 refine q0d rfl (by rfl) ?_
 refine wp_store_mid 27 (.tmp 2) (.tmp 10) rfl S 0 (sa j.st) rfl rfl (q0z (HSR.out wd hbd) (by have h1:=HSZ.out.1;have h2:=HSZ.out.2.1;omega)) HSZ.out.2.2.2.2 (q3z j.st) ?_
 obtain ⟨y,hy⟩:=nm (wd.setCells S 0 (sa j.st).toList)
 rw [hy]
 have HFY:Box _:=⟨HFO.out wd y hbd hy⟩
 have hS:=HFY.out.1
 refine ⟨hS,?_⟩
 try simp only [Act.put,pF,pG,pH]
 refine take_y (i:=9) rfl hS ?_
 try simp only [Act.put,pC,pD,pE,pF,pG,pH]
 refine wpAnyH_done (by kernel_rfl) ?_ _
 clear hS hy hbd
 go_wp2
 refine bodyPost_ret (q1a (t:=2) (u:=3) rfl _ Tryz.underlying27 rfl _ _ S (sa j.st) HSZ.out.2.2.2.2 rfl HFY.out.2.1) rfl ?_
 exact ⟨rfl,HFY.out.2.2⟩
end Go.Proofs.YtjejnlebpcjidaaGreatDoor
namespace Go.Proofs.YtjejnlebpcjidaaGreatDoor
open Go.RowKit Plain
attribute [local go_sem] Oper.semAt_some
def mn63 (x:Int):Int:=min x 9223372036854775807
def adp (j:Jt) (s:Jst) (lim:Int):Jt:=if may j.size s=true then {j with st:=s,lim:=mn63 lim} else j
theorem q3q {w:World} {g:Nat} {s:Jst} {t:TypeId} (h:w.heap[g]?=some (.cells (sa s) t (0,0))):w.rangeAt g 0 (scs s):=fun j x hx=>by
 rw [cell_of_row _ _ _ _ _ _ h,Nat.zero_add]
 simpa [sa] using hx
theorem q7f {n:Nat} {s:Jst} (h:may n s=true):s.start<n/\s.count<=n:=by simpa [may] using h
theorem ok_adp {j:Jt} (ok:j.Ok) {s:Jst} (hs:OkS s) {lim:Int} (hl:0<=lim):(adp j s lim).Ok:=by
 unfold adp
 split
 ·rename_i h
  have:=q7f h
  exact ⟨ok.key,ok.kb,ok.lo,ok.hi,hs,this.1,this.2,ok.nx,by show 0<=mn63 lim/\mn63 lim<=_;unfold mn63;omega⟩
 ·exact ok
set_option maxHeartbeats 2000000 in
theorem adopt_v {w0 w:World} {J D:Nat} {fp:Nat->Prop} {j:Jt} {d:Disk.Dk} (C:JC w0 w J D fp j d) (s:Jst) (hs:OkS s) (lim:Int) (hl:0<=lim/\lim<=18446744073709551615):
  Calls Tryz.prog 14 #[.pointer (some ⟨J,0,none⟩),.agg (sa s),.int .u64 lim] w fun e w'=>e=.returned (.tuple #[])/\JC w0 w' J D fp (adp j s lim) d/\Fw (fun k=>k=J) w w' fp fp:=by
 obtain ⟨S,hS⟩:=nm w.heap.size
 obtain ⟨w1,hw1⟩:=nm (w.alloc (.cells (sa s) 27))
 have hb1:Below w.heap.size w w1:=by rw [<-hw1];exact (Below.refl _ _).alloc (Nat.le_refl _) _
 have h1:w1.heap[S]?=some (.cells (sa s) 27 (0,0)):=by rw [<-hw1];exact q0g hS
 have C1:=C.below hb1
 have HNO:Box (Calls Tryz.prog 33 #[.pointer (some ⟨J,0,none⟩)] w1 fun e w'=>e=.returned (.bool false)/\w1=w'):=⟨q7p C1.rd C.ok.lo⟩
 have HMA:Box (Calls Tryz.prog 32 #[.pointer (some ⟨J,0,none⟩),.agg (sa s)] w1 fun e w'=>e=.returned (.bool (may j.size s))/\Below w1.heap.size w1 w'):=⟨q9c C1.rd s C1.lt⟩
 have HR:Box (∀x,Below w1.heap.size w1 x->x.rangeAt S 0 (scs s)):=⟨fun x hx=>q3q ((hx.block S (gE h1)).trans h1)⟩
 have HIR:Box ((Tryz.prog.info? 27).map (·.size)=some (scs s).length/\(Tryz.prog.info? 27).map (·.size)=some (sa s).size):=⟨by rw [q0u hs];exact infoSt,by rw [q1b hs];exact infoSt⟩
 have HN:Box (w.heap.size=S):=⟨hS⟩
 by_cases hm:may j.size s=true
 ·have HFO:Box (∀x y:World,Below w1.heap.size w1 x->x.setCells J 35 (sa s).toList=y->y.cell? ⟨J,70,none⟩=some (.int .u64 j.lim)/\y.frozen? ⟨J,70,none⟩=false/\x.there J 35 (sa s).size/\∀v:Int,v=mn63 lim->JC w0 (y.setCell ⟨J,70,none⟩ (.int .u64 v)) J D fp (adp j s lim) d/\Fw (fun k=>k=J) w (y.setCell ⟨J,70,none⟩ (.int .u64 v)) fp fp):=⟨fun x y hx hy=>by
   have Cx:=C1.below hx
   have hlen:(jcs D j).length=71:=q7v _ _ _ _ _ _ _ C.ok.key C.ok.st
   have hrow2:y.heap[J]?=some (.cells (jcs D {j with st:=s}).toArray 88 (0,0)):=by
    rw [<-hy,q5p,q1h J _ (scs s) 35 (jcs D j) x Cx.row (by rw [q0u hs,hlen];omega)]
    rw [jcs,jq_s _ _ _ _ _ _ _ _ C.ok.key C.ok.st hs]
    rfl
   have hb2:But J x y:=by rw [<-hy];exact q0t J _ 35 _ _ (But.refl _ _)
   have hmm:=q7f hm
   have ok2:({j with st:=s}:Jt).Ok:=⟨C.ok.key,C.ok.kb,C.ok.lo,C.ok.hi,hs,hmm.1,hmm.2,C.ok.nx,C.ok.lim⟩
   have C2:JC w0 y J D fp {j with st:=s} d:=Cx.turn hb2 hrow2 ok2 rfl rfl
   refine ⟨C2.rd.lim,frozen_of_row _ _ _ _ _ C2.row,q0z Cx.row (by rw [q1b hs,List.size_toArray,hlen];omega),fun v hv=>?_⟩
   have hb3:But J y (y.setCell ⟨J,70,none⟩ (.int .u64 v)):=(But.refl _ _).setCell 70 _
   have ea:adp j s lim={j with st:=s,lim:=v}:=by unfold adp;rw [if_pos hm,hv]
   have ok3:=ok_adp C.ok hs (lim:=lim) hl.1
   rw [ea] at ok3 ⊢
   refine ⟨C2.turn hb3 ?_ ok3 rfl rfl,(Fw.below _ fp (q0a hb1 hx)).trans ((Fw.of_but (fun k=>k=J) rfl hb2 fp).trans (Fw.of_but (fun k=>k=J) rfl hb3 fp))⟩
   have:=heap_setCell_same y J 70 _ _ (.int .u64 v) hrow2
   rw [this,List.setIfInBounds_toArray,jcs,jq_y _ _ _ _ _ _ _ _ C.ok.key hs]
   rfl⟩
  rw [hm] at HMA
  clear hS h1 C1 hb1 C hs hm
  go_enter Tryz.func14,Tryz.ntmps14
  go_upto_region 1 with fail
  (try simp only [HN.out])
  clear hw1
  go_upto_region 2 with (first
   | (go_at_call 33;refine HNO.out.mono ?_;rintro e x1 ⟨rfl,rfl⟩)
   | (go_at_call 32;refine HMA.out.mono ?_;rintro e x2 ⟨rfl,hb⟩;have H2:Box (Below w1.heap.size w1 x2):=⟨hb⟩;clear hb)
   | (refine atLoad 27 ?_;refine q4u (by rfl) _ _ (q0k 27 _ _ rfl Tryz.underlying27 rfl S 0 rfl (scs s) HIR.out.1 (HR.out w1 (Below.refl _ _))) ?_))
  obtain ⟨y,hy⟩:=nm (x2.setCells J 35 (sa s).toList)
  obtain ⟨c1,f1,th,HF⟩:=HFO.out x2 y H2.out hy
  have HTH:Box (x2.there J 35 (sa s).size):=⟨th⟩
  have HFF:Box (∀v:Int,v=mn63 lim->JC w0 (y.setCell ⟨J,70,none⟩ (.int .u64 v)) J D fp (adp j s lim) d/\Fw (fun k=>k=J) w (y.setCell ⟨J,70,none⟩ (.int .u64 v)) fp fp):=⟨HF⟩
  have HR2:Box (x2.rangeAt S 0 (scs s)):=⟨HR.out x2 H2.out⟩
  clear th HF HFO
  go_upto_region 3 with (first
   | (refine atLoad 27 ?_;refine q0c rfl 27 _ _ rfl Tryz.underlying27 rfl S 0 rfl (scs s) HIR.out.1 HR2.out ?_)
   | (refine atStore _ ?_;refine wpList_store_mid rfl 27 _ _ rfl J 35 (sa s) rfl rfl HTH.out HIR.out.2 (q3z s) ?_;rw [hy]))
  go_wp2
  all_goals go_end0
  all_goals exact ⟨rfl,HFF.out _ (by first | rfl | (unfold mn63;omega))⟩
 ·have hm':may j.size s=false:=by simpa using hm
  rw [hm'] at HMA
  have HFO:Box (∀x,Below w1.heap.size w1 x->JC w0 x J D fp (adp j s lim) d/\Fw (fun k=>k=J) w x fp fp):=⟨fun x hx=>by
   have ea:adp j s lim=j:=by unfold adp;rw [if_neg hm]
   rw [ea]
   exact ⟨C1.below hx,Fw.below _ fp (q0a hb1 hx)⟩⟩
  clear hS h1 C1 hb1 C hs hm hm'
  go_enter Tryz.func14,Tryz.ntmps14
  go_upto_region 1 with fail
  (try simp only [HN.out])
  clear hw1
  go_wp2_with (first
   | (go_at_call 33;refine HNO.out.mono ?_;rintro e x1 ⟨rfl,rfl⟩)
   | (go_at_call 32;refine HMA.out.mono ?_;rintro e x2 ⟨rfl,hb⟩;have H2:Box (Below w1.heap.size w1 x2):=⟨hb⟩;clear hb)
   | (refine atLoad 27 ?_;refine q4u (by rfl) _ _ (q0k 27 _ _ rfl Tryz.underlying27 rfl S 0 rfl (scs s) HIR.out.1 (HR.out w1 (Below.refl _ _))) ?_))
  refine bodyPost_ret (results_none rfl _ _ _) rfl ?_
  exact ⟨rfl,HFO.out x2 H2.out⟩
set_option maxHeartbeats 4000000 in
theorem z0x {w0 w:World} {D:Nat} {fp:Nat->Prop} {d:Disk.Dk} (C:Disk.Cx w0 w D fp d) (K:List Int) (hK:K.length=32/\Byt K) (f n:Nat) (h1:1<=n) (hfit:f+n<=d.n) (hdn:d.n<=4096) (s:Jst) (hs:OkS s) (hm:may n s=true) (nx lim:Int) (hn:1<=nx/\nx<=18446744073709551615) (hl:0<=lim/\lim<=9223372036854775807) (hT:Dig.Tabs w0) (hT2:Seal.Tab w0):
  Calls Tryz.prog 8 #[.pointer (some ⟨D,0,none⟩),.agg (u8s K),.int .i64 (f:Int),.int .i64 (n:Int),.agg (sa s),.int .u64 nx,.int .u64 lim] w fun e w'=>∃J,e=.returned (.tuple #[.pointer (some ⟨J,0,none⟩),.int .i64 0])/\JC w0 w' J D fp ⟨K,f,n,s,nx,lim⟩ d/\Below w.heap.size w w'/\w.heap.size<=J:=by
 obtain ⟨S,hS⟩:=nm w.heap.size
 obtain ⟨AK,hAK⟩:=nm (u8s K)
 obtain ⟨w1,hw1⟩:=nm ((w.alloc (.cells AK 23)).alloc (.cells (sa s) 27))
 have hb1:Below w.heap.size w w1:=by rw [<-hw1];exact ((Below.refl _ _).alloc (Nat.le_refl _) _).alloc (by simp) _
 have k1:w1.heap[S]?=some (.cells AK 23 (0,0)):=by rw [<-hw1];exact q0i (q0g hS)
 have k2:w1.heap[S+1]?=some (.cells (sa s) 27 (0,0)):=by rw [<-hw1];exact q0g (by simp [hS])
 have hmm:=q7f hm
 have okj:(⟨K,f,n,s,nx,lim⟩:Jt).Ok:=⟨hK.1,hK.2,h1,by show f+n<=4096;omega,hs,hmm.1,hmm.2,hn,hl⟩
 have HSI:Box (Calls Tryz.prog 31 #[.pointer (some ⟨D,0,none⟩)] w1 fun e w'=>e=.returned (.int .i64 (d.n:Int))/\w1=w'):=⟨Disk.size_cx (C.step hb1)⟩
 obtain ⟨J,hJ⟩:=nm w1.heap.size
 obtain ⟨w2,hw2⟩:=nm (w1.alloc (.cells (jq (.pointer (some ⟨D,0,none⟩)) K (f:Int) (n:Int) s nx lim).toArray 88))
 have hb2:Below w1.heap.size w1 w2:=by rw [<-hw2];exact (Below.refl _ _).alloc (Nat.le_refl _) _
 have r2:w2.heap[J]?=some (.cells (jcs D ⟨K,f,n,s,nx,lim⟩).toArray 88 (0,0)):=by rw [<-hw2];exact q0g hJ
 have HC:Box (JC w0 w2 J D fp ⟨K,f,n,s,nx,lim⟩ d):=⟨⟨C.step (q0a hb1 hb2),r2,by have:=C.bel.size;have:=hb1.size;omega,fun hf=>by have:=C.hi J hf;have:=hb1.size;omega,okj,hfit,hT,hT2⟩⟩
 have HMA:Box (Calls Tryz.prog 32 #[.pointer (some ⟨J,0,none⟩),.agg (sa s)] w2 fun e w'=>e=.returned (.bool true)/\Below w2.heap.size w2 w'):=⟨by have:=q9c HC.out.rd s HC.out.lt;rw [show may (⟨K,f,n,s,nx,lim⟩:Jt).size s=true from hm] at this;exact this⟩
 have HK1:Box (∀x,Below w1.heap.size w1 x->x.rangeAt S 0 (K.map (Value.int .u8))/\x.rangeAt (S+1) 0 (scs s)):=⟨fun x hx=>⟨fun i v hv=>by
  rw [cell_of_row _ _ _ _ _ _ ((hx.block S (gE k1)).trans k1),Nat.zero_add,<-hAK]
  simpa [u8s] using hv,q3q ((hx.block (S+1) (gE k2)).trans k2)⟩⟩
 have HIL:Box ((Tryz.prog.info? 23).map (·.size)=some (K.map (Value.int .u8)).length/\(Tryz.prog.info? 27).map (·.size)=some (scs s).length):=⟨by rw [List.length_map,hK.1];exact infoSum,by rw [q0u hs];exact infoSt⟩
 have HBJ:Box (Tryz.prog.built 88 [(0,.pointer (some ⟨D,0,none⟩)),(1,.agg AK),(2,.int .u64 (f:Int)),(3,.int .u64 (n:Int)),(4,.agg (sa s)),(5,.int .u64 nx),(6,.int .u64 lim)]=some (jq (.pointer (some ⟨D,0,none⟩)) K (f:Int) (n:Int) s nx lim).toArray):=⟨by rw [<-hAK];exact built_J _ rfl K _ _ s nx lim hK.1 hs⟩
 have HAK:Box ((K.map (Value.int .u8)).toArray=AK/\(scs s).toArray=sa s):=⟨by rw [<-hAK];rfl,rfl⟩
 have HFI:Box (Below w.heap.size w w2/\w.heap.size<=J):=⟨q0a hb1 hb2,by rw [<-hJ];exact hb1.size⟩
 obtain ⟨r,hr⟩:=nm (d.n-f)
 have hwr:IntKind.i64.wrap ((d.n:Int)-(f:Int))=(r:Int):=by rw [IntKind.wrap_i64];omega
 have g1:¬(f:Int)<0:=by omega
 have g2:¬(n:Int)<1:=by omega
 have g3:decide (r<n)=false:=by simp;omega
 have hwf:IntKind.u64.wrap (f:Int)=(f:Int):=by rw [IntKind.wrap_u64];omega
 have hwn:IntKind.u64.wrap (n:Int)=(n:Int):=by rw [IntKind.wrap_u64];omega
 have g4:(nx==0)=false:=by simp;omega
 have g5:¬(9223372036854775807:Int)<lim:=by omega
 have hs2:(w.alloc (.cells AK 23)).heap.size=S+1:=by simp [hS]
 rw [hAK]
 have HJ:Box (w1.heap.size=J):=⟨hJ⟩
 clear C hK h1 hfit hdn hs hm hn hl hT hT2 hmm okj k1 k2 hb1 hb2 r2 hAK hr hJ
 go_enter Tryz.func8,Tryz.ntmps8
 go_upto_region 1 with fail
 (try rw [hs2])
 (try simp only [hS,hw1])
 clear hs2 hw1 hS
 have HR1:=HK1.out w1 (Below.refl _ _)
 have HRa:Box (w1.rangeAt S 0 (K.map (Value.int .u8))):=⟨HR1.1⟩
 have HRb:Box (w1.rangeAt (S+1) 0 (scs s)):=⟨HR1.2⟩
 clear HR1
 go_upto_region 4 with (first
  | (go_at_call 31;refine HSI.out.mono ?_;rintro e x1 ⟨rfl,rfl⟩)
  | (refine atLoad 23 ?_;refine q0c rfl 23 _ _ rfl Tryz.underlying23 rfl S 0 rfl (K.map (Value.int .u8)) HIL.out.1 HRa.out ?_;rw [HAK.out.1])
  | (refine atLoad 27 ?_;refine q0c rfl 27 _ _ rfl Tryz.underlying27 rfl (S+1) 0 rfl (scs s) HIL.out.2 HRb.out ?_;rw [HAK.out.2])
  | (refine atBuild 88 ?_;refine q0b rfl _ _ (q0n 88 [(0,.tmp 31),(1,.tmp 32),(2,.tmp 34),(3,.tmp 36),(4,.tmp 37),(5,.tmp 38),(6,.tmp 39)] rfl [(0,.pointer (some ⟨D,0,none⟩)),(1,.agg AK),(2,.int .u64 (f:Int)),(3,.int .u64 (n:Int)),(4,.agg (sa s)),(5,.int .u64 nx),(6,.int .u64 lim)] rfl _ HBJ.out) ?_))
 (try simp only [HJ.out])
 have HRc:Box (w2.rangeAt (S+1) 0 (scs s)):=⟨(HK1.out w2 (by rw [<-hw2];exact (Below.refl _ _).alloc (Nat.le_refl _) _)).2⟩
 clear hw2 HRa HRb HK1 HSI HBJ
 go_wp2_with (first
  | (go_at_call 32;refine HMA.out.mono ?_;rintro e x2 ⟨rfl,hb⟩;have H2:Box (Below w2.heap.size w2 x2):=⟨hb⟩;clear hb)
  | (refine atLoad 27 ?_;refine q0c rfl 27 _ _ rfl Tryz.underlying27 rfl (S+1) 0 rfl (scs s) HIL.out.2 HRc.out ?_;rw [HAK.out.2]))
 go_ret2
 exact ⟨J,rfl,HC.out.below H2.out,q0a HFI.out.1 H2.out,HFI.out.2⟩
end Go.Proofs.YtjejnlebpcjidaaGreatDoor
