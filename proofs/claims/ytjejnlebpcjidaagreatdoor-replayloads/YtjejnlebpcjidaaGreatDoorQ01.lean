/-
 What the reference's Put and Get answer, for every argument that the statements hand them. And what follows it.
-/
import Derived.Laws.AppendOwn
import Derived.OwnWalk
import Derived.Test.YtjejnlebpcjidaaGreatDoorQ00
import Derived.Deep.RegionHeld3
import Derived.WalkKit
set_option linter.unusedVariables false
set_option maxRecDepth 100000
set_option maxRecDepth 100000
namespace Go.Proofs.YtjejnlebpcjidaaGreatDoor
open Go.RowKit Plain
theorem own_snoc {w':World} {base n:Nat} {v:Value} {L:List Int} {z:Int} (h:w'.ownsRow base 5 1 v (n+1) (L.map (Value.int .u8)++[.int .u8 z])):w'.ownsRow base 5 1 v (n+1) ((L++[z]).map (Value.int .u8)):=by
 rw [List.map_append];exact h
theorem mul_step (k:Nat) (hk:k<8) (z M t:Int) (hM:M=2 ^ (8*k)) (hz:0<=z/\z<=255) (ht:0<=t/\t<2 ^ (8*k)):
  IntKind.u64.wrap (z*M)=z*M/\0<=z*M/\t+z*M<=18446744073709551615:=by
 have hp:(0:Int)<2 ^ (8*k):=Int.pow_pos (by omega)
 have h1:z*M<=255*M:=Int.mul_le_mul_of_nonneg_right hz.2 (by omega)
 have h0:0<=z*M:=Int.mul_nonneg hz.1 (by omega)
 have h2:(2:Int) ^ (8*k)<=2 ^ 56:=by
  have:=Nat.pow_le_pow_right (n:=2) (by omega) (show 8*k<=56 by omega)
  exact_mod_cast this
 rw [<-hM] at ht h2 hp
 refine ⟨?_,h0,by omega⟩
 rw [IntKind.wrap_u64]
 exact Int.emod_eq_of_lt h0 (by omega)
theorem pow_step (k:Nat) (hk:k<7) (M:Int) (hM:M=2 ^ (8*k)):IntKind.u64.wrap (M*256)=2 ^ (8*(k+1)):=by
 have h2:(2:Int) ^ (8*k)<=2 ^ 48:=by
  have:=Nat.pow_le_pow_right (n:=2) (by omega) (show 8*k<=48 by omega)
  exact_mod_cast this
 have hp:(0:Int)<2 ^ (8*k):=Int.pow_pos (by omega)
 rw [IntKind.wrap_u64,pow8,<-hM,Int.mul_comm]
 rw [<-hM] at h2 hp
 exact Int.emod_eq_of_lt (by omega) (by omega)
set_option maxHeartbeats 400000 in
theorem z0t (a:Option Addr) (len cap:Nat) (L:List Int) (p n:Nat) (w:World) (hb:Bytes w a len L) (hl:len<=maxLen) (hn1:1<=n) (hn2:n<=8) (hp:p+n<=len):
  Calls Tryz.prog 86 #[.slice a len cap,.int .i64 p,.int .i64 n] w fun e w'=>e=.returned (.tuple #[.int .u64 (num L p n),.int .i64 0])/\w=w':=by
 obtain ⟨hL,hz,hc⟩:=hb
 obtain ⟨b,off,rfl,hlt,hc⟩:=hc (by omega)
 have hl':=hl
 unfold maxLen at hl'
 have h3:¬(n:Int)<1:=by omega
 have h4:¬8<(n:Int):=by omega
 have h5:¬(p:Int)<0:=by omega
 have h6:¬(len:Int)<(p:Int):=by omega
 have h7:¬(len:Int)-(p:Int)<(n:Int):=by omega
 go_enter Tryz.func86,Tryz.ntmps86
 go_wp2
 go_loop [8,9,10] (fun t m i=>∃(k:Nat) (M:Int),k<=n/\i=.int .i64 k/\t=.int .u64 (num L p k)/\m=.int .u64 M/\(k<n->M=2 ^ (8*k))) (fun _ _ i=>n-(intOf i).toNat)
 case atStart=>exact ⟨0,1,Nat.zero_le _,rfl,rfl,rfl,fun _=>rfl⟩
 case round=>
  obtain ⟨k,M,hk,rfl,rfl,rfl,hM⟩:=hrel
  by_cases hlt:k<n
  ·have hck:=hc (p+k) (by omega)
   have hzk:=hz (p+k)
   have hs:num L p (k+1)=num L p k+L.getD (p+k) 0*2 ^ (8*k):=rfl
   generalize L.getD (p+k) 0=z at hck hzk hs
   have hnb:=q8x L p hz k
   generalize num L p k=t at hnb hs
   obtain ⟨hw1,hw2,hw3⟩:=mul_step k (by omega) z M t (hM hlt) hzk hnb
   rw [<-hM hlt] at hs hnb
   have HM:Hid (k+1<n->IntKind.u64.wrap (M*256)=2 ^ (8*(k+1))):=fun h=>pow_step k (by omega) M (hM hlt)
   have HS:Hid (IntKind.u64.wrap (t+IntKind.u64.wrap (z*M))=num L p (k+1)):=by
    show IntKind.u64.wrap (t+IntKind.u64.wrap (z*M))=num L p (k+1)
    rw [hs,hw1,IntKind.wrap_u64]
    exact Int.emod_eq_of_lt (by omega) (by omega)
   clear hc hz hs hM hw1 hw2 hw3
   go_wp2
   go_round
   case rel=>exact ⟨k+1,_,by omega,by go_num,by rw [HS.out],rfl,HM.out⟩
   case measure=>simp [intOf];omega
  ·obtain rfl:k=n:=by omega
   clear hM hc hz
   go_wp2
   go_ret2
   exact ⟨rfl,rfl⟩
theorem div_step (x:Int) (j:Nat):x / 2 ^ (8*j) / 256=x / 2 ^ (8*(j+1)):=by
 rw [pow8,Int.mul_comm,Int.ediv_ediv_of_nonneg (Int.le_of_lt (Int.pow_pos (by omega)))]
set_option maxHeartbeats 400000 in
theorem q7b (x n:Int) (N:Nat) (w:World) (hx:0<=x/\x<=18446744073709551615) (hN:n.toNat=N) (h8:n<=8):
  Calls Tryz.prog 75 #[.int .u64 x,.int .i64 n] w fun e w'=>∃a' cap',e=.returned (.slice a' N cap')/\Out w w' a' N cap' (bytesOf x N):=by
 obtain ⟨i0,hi,hz0,hz1,hz2⟩:=info_parts Tryz.info5
 have h8':¬8<n:=by omega
 go_enter Tryz.func75,Tryz.ntmps75
 go_wp2
 go_loopw [0,5,6] (fun t v i wr=>∃j:Nat,j<=N/\i=.int .i64 j/\t=.int .u64 (x / 2 ^ (8*j))/\wr.ownsRow w.heap.size 5 1 v j ((bytesOf x j).map (Value.int .u8))/\Below w.heap.size w wr) (fun _ _ i _=>N-(intOf i).toNat)
 case atStart=>exact ⟨0,Nat.zero_le _,rfl,by simp,World.ownsRow_nil _ _ _ _,Below.refl _ _⟩
 case round=>
  obtain ⟨j,hj,rfl,rfl,hown,hbel⟩:=hrel
  have hsz:=hbel.size
  by_cases hlt:j<N
  ·have hltn:(j:Int)<n:=by omega
   have hr:bytesOf x (j+1)=bytesOf x j++[x / 2 ^ (8*j)%256]:=rfl
   have hd:=div_step x j
   have hy:0<=x / 2 ^ (8*j)/\x / 2 ^ (8*j)<=18446744073709551615:=by
    have hp:(0:Int)<2 ^ (8*j):=Int.pow_pos (by omega)
    have h1:=Int.ediv_le_self (2 ^ (8*j)) hx.1
    exact ⟨Int.ediv_nonneg hx.1 (by omega),by omega⟩
   generalize x / 2 ^ (8*j)=y at hr hd hy
   have HR:Hid (bytesOf x (j+1)=bytesOf x j++[y%256]):=hr
   have HD:Hid (y / 256=x / 2 ^ (8*(j+1))):=hd
   clear hr hd
   go_wp2_with (at_builtin;refine wpList_append_own _ rfl (.tmp 15) (.tmp 19) 57 rfl w.heap.size 5 i0 (.int .u8 0) 1 1 Tryz.underlying57 hi hz0 hz1 hz2 rfl (by decide) _ _ _ rfl (hown.alloc _) _ 1 1 [.int .u8 (y%256)] rfl rfl (cell_one_new _ _ _) (q6n _) (by unfold maxLen;omega) (by omega) (by simp;omega) ?_;intro v' w3 hown3 hgrow3 _;have hbel3:=(hbel.alloc hsz _).grown hgrow3 (by simp;omega) (q2c hown);have hown4:=own_snoc hown3;clear hgrow3 hown hown3)
   go_roundw
   case rel=>exact ⟨j+1,by omega,by go_num,by rw [<-HD.out],by rw [HR.out];exact hown4,hbel3⟩
   case measure=>simp [intOf];omega
  ·obtain rfl:j=N:=by omega
   have hltn:¬(j:Int)<n:=by omega
   obtain ⟨a',cap',rfl⟩:=q1z hown
   go_wp2
   go_ret
   exact ⟨a',cap',rfl,q0f x j,hown,hbel⟩
end Go.Proofs.YtjejnlebpcjidaaGreatDoor
namespace Go.Proofs.YtjejnlebpcjidaaGreatDoor
theorem pC {α:Type} (l:List α) (i:Nat) (v:α):l.toArray.setIfInBounds i v=(l.set i v).toArray:=List.setIfInBounds_toArray _ _ _
theorem pD {α:Type} (x:α) (l:List α) (v:α):(x::l).set 0 v=v::l:=rfl
theorem pE {α:Type} (x:α) (l:List α) (i:Nat) (v:α):(x::l).set (i+1) v=x::l.set i v:=rfl
theorem pF {α:Type} (l:List α) (i:Nat) (h:i<l.toArray.size):l.toArray[i]'h=l[i]'(by simpa using h):=rfl
theorem pG {α:Type} (x:α) (l:List α) (h:0<(x::l).length):(x::l)[0]'h=x:=rfl
theorem pH {α:Type} (x:α) (l:List α) (i:Nat) (h:i+1<(x::l).length):(x::l)[i+1]'h=l[i]'(by simpa using h):=rfl
end Go.Proofs.YtjejnlebpcjidaaGreatDoor
namespace Go.Proofs.YtjejnlebpcjidaaGreatDoor.Seq
open Go.RowKit
section
variable {P:Program} {md:Region.Mode} {ops:Array Oper} {Q:Exit->Act->World->Prop} {S S':World->Prop}
def Lat (w0:World):World->Prop:=fun w'=>Below w0.heap.size w0 w'
theorem into (hS:∀w,S' w->S w):∀(fuel:Nat) (listed:Array Bool) (a:Act) (w:World),wpAnyH P md ops Q S' fuel listed a w->wpAnyH P md ops Q S fuel listed a w
 | 0,_,_,_,h=>h
 | fuel+1,_,_,_,h=>⟨h.1,fun i hi=>wpOp_mono (fun a' w' h'=>⟨hS _ h'.1,into hS fuel _ a' w' h'.2⟩) (h.2 i hi)⟩
theorem begin_lat {id:Nat} {a:Act} {w:World} (hm:P.follows .mixedOrders=true)
  (h:wpAnyH P .any ops Q (Lat w.drew) ops.size (Array.replicate ops.size false) a w.drew):(Code.region id ops true).wp P Q a w:=
 wp_region_held_drew (S:=Lat w.drew) hm (Below.refl _ _) (fun _=>h)
theorem q1t {id:Nat} {a:Act} {w:World} (hm:P.follows .mixedOrders=true)
  (h:∀wd,Below w.heap.size w wd->wpAnyH P .any ops Q (Lat wd) ops.size (Array.replicate ops.size false) a wd):(Code.region id ops true).wp P Q a w:=
 begin_lat hm (h _ (Below.refl _ _).drew)
theorem take_lat {i:Nat} {oi:Oper} {v:Value} {fuel:Nat} {listed:Array Bool} {a:Act} {w:World} (hi:ops[i]?=some oi)
  (hs:Region.noSelect ops=true) (hf:Region.free md ops listed i=true) (hr:(Region.ready md ops listed).contains i=true)
  (hQ:∀c a w,Q (.panic c) (a.put oi.dst v) w->Q (.panic c) a w) (hw:Region.wanted oi (yielded ops a.tmps)=true)
  (hv:∀w',Lat w w'->(execOp a.eval oi).run P w'=.ok (.value v) w')
  (h:wpAnyH P md ops Q (Lat w) fuel (listed.setIfInBounds i true) (a.put oi.dst v) w):wpAnyH P md ops Q (Lat w) (fuel+1) listed a w:=
 wpAnyH_take hi hs hf hr hQ (Or.inl ⟨hw,hv⟩) (Below.refl _ _) h
theorem take_lx {i:Nat} {oi:Oper} {v:Value} {fuel:Nat} {listed:Array Bool} {a:Act} {w:World} (hi:ops[i]?=some oi) (hv:∀w',Lat w w'->(execOp a.eval oi).run P w'=.ok (.value v) w')
  (h:wpAnyH P md ops Q (Lat w) fuel (listed.setIfInBounds i true) (a.put oi.dst v) w) (hs:Region.noSelect ops=true:=by kernel_rfl) (hf:Region.free md ops listed i=true:=by kernel_rfl) (hr:(Region.ready md ops listed).contains i=true:=by kernel_rfl)
  (hQ:∀c a w,Q (.panic c) (a.put oi.dst v) w->Q (.panic c) a w:=by exact fun _ _ _ h=>h) (hw:Region.wanted oi (yielded ops a.tmps)=true:=by rfl):wpAnyH P md ops Q (Lat w) (fuel+1) listed a w:=
 take_lat hi hs hf hr hQ hw hv h
theorem take_ly {i:Nat} {oi:Oper} {v:Value} {fuel:Nat} {listed:Array Bool} {a:Act} {w:World} (hi:ops[i]?=some oi)
 (h:wpAnyH P md ops Q (Lat w) fuel (listed.setIfInBounds i true) (a.put oi.dst v) w) (hv:∀w',Lat w w'->(execOp a.eval oi).run P w'=.ok (.value v) w':=by rintro w' -;go_simp<;>with_reducible rfl) (hs:Region.noSelect ops=true:=by kernel_rfl) (hf:Region.free md ops listed i=true:=by kernel_rfl) (hr:(Region.ready md ops listed).contains i=true:=by kernel_rfl)
 (hQ:∀c a w,Q (.panic c) (a.put oi.dst v) w->Q (.panic c) a w:=by exact fun _ _ _ h=>h) (hw:Region.wanted oi (yielded ops a.tmps)=true:=by rfl):wpAnyH P md ops Q (Lat w) (fuel+1) listed a w:=
 take_lat hi hs hf hr hQ hw hv h
theorem q1k {i:Nat} {o:Oper} {fuel:Nat} {listed:Array Bool} {a:Act} {w:World} (ho:ops[i]?=some o) (hr:Region.ready md ops listed=[i])
  (h:∀K':Act->World->Prop,Shut (∀a w1,Below w.heap.size w w1->wpAnyH P md ops Q (Lat w1) fuel (listed.setIfInBounds i true) a w1->K' a w1)->if Region.wanted o (yielded ops a.tmps)=true then Oper.wp P o a w K' Q else K' (a.put o.dst undef) w):
  wpAnyH P md ops Q (Lat w) (fuel+1) listed a w:=by
 refine wpAnyH_ready hr (by simp) (AllReadyH.cons ho (fun K' hK=>h K' ?_) AllReadyH.nil)
 intro a1 w1 hb hn
 exact hK.out a1 w1 hb (fun _=>into (fun w' hl=>hb.trans (hl.mono hb.size)) _ _ _ _ hn)
end
end Go.Proofs.YtjejnlebpcjidaaGreatDoor.Seq
