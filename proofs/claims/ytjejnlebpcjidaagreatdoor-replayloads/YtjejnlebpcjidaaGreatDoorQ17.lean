/-
 What the reference's Crypt answers, for every key, counter, nonce and all bytes.
-/
import Derived.Test.YtjejnlebpcjidaaGreatDoorQ01
import Derived.Test.YtjejnlebpcjidaaGreatDoorQ16
import Derived.Test.YtjejnlebpcjidaaGreatDoorQ15
set_option linter.unusedVariables false
set_option maxRecDepth 100000
set_option maxRecDepth 100000
namespace Go.Proofs.YtjejnlebpcjidaaGreatDoor.Seal
open Go.RowKit Go.Proofs.YtjejnlebpcjidaaGreatDoor.Plain Go.Proofs.YtjejnlebpcjidaaGreatDoor.Seal.Plain
theorem wp_app1 {o:Oper} {act:Act} {w:World} {KK:Act->World->Prop} {Q:Exit->Act->World->Prop} (s x:Operand)
  (ho:o.op=.call {callee:=.builtin .append,args:=#[s,x],argTypes:=#[57,57]}) (base n:Nat) (v:Value) (A:List Int) (z:Int) (w0:World)
  (hs:act.eval s=v) (hx:act.eval x=.slice (some ⟨w.heap.size,0,none⟩) 1 1) (hown:w.ownsRow base 5 1 v n (A.map (Value.int .u8))) (hl:n+1<=140737488355328) (hbel:Below base w0 w) (hbase:base<=w.heap.size)
  (h:∀v' w',Box (w'.ownsRow base 5 1 v' (n+1) ((A++[z]).map (Value.int .u8))/\Below base w0 w'/\base<=w'.heap.size/\∀(G:Nat) (cs:Array Value),w.heap[G]?=some (.cells cs 180 (0,0))->w'.heap[G]?=some (.cells cs 180 (0,0)))->KK (act.put o.dst v') w'):o.wp Tryz.prog act (w.alloc (.cells #[.int .u8 z] 5)) KK Q:=by
 obtain ⟨i0,hi,hz0,hz1,hz2⟩:=info_parts Tryz.info5
 refine wp_append_own _ s x 57 ho base 5 i0 (.int .u8 0) 1 1 Tryz.underlying57 hi hz0 hz1 hz2 rfl (by decide) v n _ hs (hown.alloc _) _ 1 1 [.int .u8 z] hx rfl (cell_one_new _ _ _) (q6n z) (by unfold maxLen;omega) (by omega) (by simp;omega) ?_
 intro v' w' h1 h2 _
 have hsz:=h2.size
 simp at hsz
 refine h v' w' ⟨by rw [List.map_append];exact h1,(hbel.alloc hbase _).grown h2 (by simp;omega) (q2c hown),by omega,fun G cs hG=>?_⟩
 have hlt:=(gE hG)
 rw [h2.block G (by simp;omega) ?_]
 ·exact q0i hG
 ·intro e
  rcases hown.2 with ⟨rfl,_⟩ | ⟨g,cap',cur,rfl,_,hh,_⟩
  ·cases e
  ·have e':G=g:=by simpa [Value.ownBlock] using e
   subst e'
   rw [hG] at hh
   simp at hh
set_option maxRecDepth 20000 in
set_option maxHeartbeats 2000000 in
theorem z2s (a:Option Addr) (len cap:Nat) (K N B:List Int) (c:Int) (w:World) (hK:Byt K) (hKl:K.length=32) (hN:Byt N) (hNl:N.length=12) (hc:W32 c) (hB:Bytes w a len B) (hl:len<=1000000) (h:c+((len+63) / 64:Nat)<=4294967296):
  Calls Tryz.prog 76 #[.agg (u8s K),.int .u32 c,.agg (u8s N),.slice a len cap] w fun e w'=>∃a' c',e=.returned (.tuple #[.slice a' len c',.int .i64 0])/\Bytes w' a' len (cr K c N B len)/\Below w.heap.size w w':=by
 obtain ⟨h0,h1⟩:=hc
 have e1:IntKind.u64.wrap c=c:=by rw [IntKind.wrap_u64];omega
 have e0:IntKind.u64.wrap ((len:Int)+63)=(len:Int)+63:=by rw [IntKind.wrap_u64];omega
 have hb:(len+63) / 64<=1000000:=by omega
 have hq:((len:Int)+63) / 64=(((len+63) / 64:Nat):Int):=by omega
 have HI:Box (∀i,i<(len+63) / 64->64*i<len):=⟨fun i hi=>by omega⟩
 have HI2:Box (len<=64*((len+63) / 64)):=⟨by omega⟩
 generalize (len+63) / 64=n at h hb hq HI HI2
 have e2:IntKind.u64.wrap (c+(n:Int))=c+(n:Int):=by rw [IntKind.wrap_u64];omega
 have h':¬4294967296<c+(n:Int):=by omega
 have HC:Box (∀k:Nat,k<n->c+(k:Int)<4294967296):=⟨fun k hk=>by omega⟩
 obtain ⟨S,hS⟩:=nm w.heap.size
 have HS:Hid (w.heap.size=S):=hS
 have H0:Box (Tw w ((w.alloc (.cells (u8s K) 23)).alloc (.cells (u8s N) 157)) S K N):=⟨q0i (q0g hS),q0g (by simp [hS]),((Below.refl _ _).alloc (Nat.le_refl _) _).alloc (by simp) _⟩
 have HB:Box (∀x,Below w.heap.size w x->Bytes x a len B):=⟨fun x hx=>hB.below hx⟩
 have HBk:Box (∀x (k:Nat),k<n->Calls Tryz.prog 98 #[.agg (u8s K),.int .u32 (c+(k:Int)),.agg (u8s N)] x fun e w'=>e=.returned (.agg (u8s (blk K (c+(k:Int)) N)))/\Below x.heap.size x w'):=⟨fun x k hk=>z7l K N _ x hK hKl hN hNl ⟨by omega,HC.out k hk⟩⟩
 clear hS hB h
 go_enter Tryz.func76,Tryz.ntmps76
 go_upto_region 1 with fail
 rw [HS.out]
 generalize (w.alloc (.cells (u8s K) 23)).alloc (.cells (u8s N) 157)=x0 at H0 ⊢
 go_wp2
 obtain ⟨base,Hb⟩:∃b,Box (x0.heap.size=b):=⟨_,⟨rfl⟩⟩
 have HP:Box (∀x,Below base x0 x->Tw w x S K N/\Bytes x a len B):=⟨fun x hx=>by
  rw [<-Hb.out] at hx
  exact ⟨H0.out.on hx,HB.out x (H0.out.on hx).2.2⟩⟩
 go_loopw [11,12] (fun v i wr=>∃k L:Nat,k<=n/\L=min (64*k) len/\i=.int .u64 k/\Box (wr.ownsRow base 5 1 v L ((cr K c N B L).map (Value.int .u8))/\Below base x0 wr/\base<=wr.heap.size)) (fun _ i _=>n-(intOf i).toNat)
 case atStart=>exact ⟨0,0,by omega,by omega,rfl,⟨World.ownsRow_nil _ _ _ _,Below.refl _ _,by rw [<-Hb.out];exact Nat.le_refl _⟩⟩
 case round=>
  obtain ⟨k,L,hk,hL,rfl,HO⟩:=hrel
  obtain ⟨av,cv,hv⟩:=q1z HO.out.1
  subst hv
  by_cases hlt:k<n
  ·have hkl:=HI.out k hlt
   have hL2:L=64*k:=by omega
   clear hL
   have s2:IntKind.u32.wrap (k:Int)=(k:Int):=by rw [IntKind.wrap_u32];have:=HC.out k hlt;omega
   have hck:=HC.out k hlt
   have C3:=HBk.out wr k hlt
   have HST:Box (∀i,i<64->Plain.stm K c N (64*k+i)=(blk K (c+(k:Int)) N).getD i 0):=⟨fun i hi=>by
    unfold Plain.stm
    rw [show (64*k+i) / 64=k by omega,show (64*k+i)%64=i by omega,Int.emod_eq_of_lt (by omega) (by omega)]⟩
   have hXb:=z1d K (c+(k:Int)) N
   have hXl:=q2z K (c+(k:Int)) N
   generalize blk K (c+(k:Int)) N=X at C3 HST hXb hXl
   have HC3:Box _:=⟨C3⟩
   have HXb:Box (Byt X):=⟨hXb⟩
   clear C3 hXb
   subst hL2
   go_wp2_with (first
    | (refine z1r w5 X hXl rfl (.tmp 13) (.tmp 37) rfl rfl rfl _ rfl ?_;intro z5 hz5 hb5;have H5:Box (z5.ownsRow base 5 1 (.slice av (64*k) cv) (64*k) ((cr K c N B (64*k)).map (Value.int .u8))/\Below base x0 z5/\base<=z5.heap.size/\z5.heap[w5.heap.size]?=some (.cells (u8s X) 180 (0,0))):=⟨q7e H4.out.1 hb5,H4.out.2.1.trans (hb5.mono H4.out.2.2),Nat.le_trans H4.out.2.2 hb5.size,hz5⟩;clear hz5 hb5)
    | (go_at_call 98;refine HC3.out.mono ?_;rintro e w5 ⟨rfl,hb⟩;have H4:Box (w5.ownsRow base 5 1 (.slice av (64*k) cv) (64*k) ((cr K c N B (64*k)).map (Value.int .u8))/\Below base x0 w5/\base<=w5.heap.size):=⟨q7e HO.out.1 hb,HO.out.2.1.trans (hb.mono HO.out.2.2),Nat.le_trans HO.out.2.2 hb.size⟩;clear hb)
    | (refine q4s (S+1) N hNl (HP.out wr HO.out.2.1).1.2.1 rfl (.tmp 6) rfl rfl ?_)
    | (refine q4a S K hKl (HP.out wr HO.out.2.1).1.1 rfl (.tmp 4) rfl rfl ?_))
   generalize w5.heap.size=G at H5 ⊢
   clear H4 HC3 HO s2
   go_loopw [11,14] (fun v j wr=>∃i L:Nat,i<=64/\L=min (64*k+i) len/\j=.int .i64 i/\Box (wr.ownsRow base 5 1 v L ((cr K c N B L).map (Value.int .u8))/\Below base x0 wr/\base<=wr.heap.size/\wr.heap[G]?=some (.cells (u8s X) 180 (0,0)))) (fun _ j _=>64-(intOf j).toNat)
   case atStart=>exact ⟨0,64*k,by omega,by omega,rfl,H5⟩
   case round=>
    clear H5
    obtain ⟨i,L,hi,hL,rfl,HJ⟩:=hrel
    obtain ⟨av2,cv2,hv2⟩:=q1z HJ.out.1
    subst hv2
    have HL:Box (L=min (64*k+i) len):=⟨hL⟩
    clear hL
    by_cases hi64:i<64
    ·obtain ⟨p,hp⟩:=nm (64*k+i)
     have e3:IntKind.i64.wrap (k:Int)=(k:Int):=by rw [IntKind.wrap_i64];omega
     have e4:(k:Int)*64+(i:Int)=(p:Int):=by omega
     have e5:IntKind.i64.wrap ((k:Int)*64)=(k:Int)*64:=by rw [IntKind.wrap_i64];omega
     by_cases hpl:p<len
     ·have hLp:L=p:=by have:=HL.out;omega
      subst hLp
      have HCR:Box (cr K c N B (L+1)=cr K c N B L++[xr (B.getD L 0) (X.getD i 0)]):=⟨by rw [cr,<-hp,HST.out i hi64]⟩
      have HBy:=(HP.out wr HJ.out.2.1).2
      obtain ⟨bb,off,hba,hbl,hbc⟩:=HBy.2.2 (by omega)
      subst hba
      have cz:wr.drew.cell? ⟨bb,off+L,none⟩=_:=hbc L hpl
      have hz:=HBy.2.1 L
      have cx:wr.drew.cell? ⟨G,i,none⟩=_:=q2t wr G i X _ _ HJ.out.2.2.2 (by omega)
      have hx:=HXb.out i
      generalize B.getD L 0=z at cz hz HCR
      generalize X.getD i 0=xx at cx hx HCR
      obtain ⟨z0,z1⟩:=hz
      obtain ⟨x0',x1'⟩:=hx
      have HD:Box (wr.drew.ownsRow base 5 1 (.slice av2 L cv2) L ((cr K c N B L).map (Value.int .u8))/\Below base x0 wr.drew/\base<=wr.drew.heap.size/\wr.drew.heap[G]?=some (.cells (u8s X) 180 (0,0))):=⟨HJ.out.1,HJ.out.2.1.drew,HJ.out.2.2⟩
      clear HJ HBy hbl hbc
      have e6:(L:Int)<(len:Int):=by omega
      go_upto_region 14 with fail
      refine wp_region_any (by kernel_rfl) ?_
      change wpAny _ _ _ _ _ _ _ (World.drew _)
      generalize World.drew wr=y at HD cz cx ⊢
      refine wpAny_take (i:=0) (v:=?_) rfl (by kernel_rfl) (by kernel_rfl) (by kernel_rfl) (fun _ _ _ h=>h) (Or.inl ⟨by rfl,?_⟩) ?_
      rotate_left
      ·intro w';go_simp<;>with_reducible rfl
      try simp only [Act.put,pC,pD,pE,pF,pG]
      refine wpAny_take (i:=1) (v:=?_) rfl (by kernel_rfl) (by kernel_rfl) (by kernel_rfl) (fun _ _ _ h=>h) (Or.inl ⟨by rfl,?_⟩) ?_
      rotate_left
      ·intro w';go_simp<;>with_reducible rfl
      try simp only [Act.put,pC,pD,pE,pF,pG,pH]
      refine wpAny_take (i:=2) (v:=?_) rfl (by kernel_rfl) (by kernel_rfl) (by kernel_rfl) (fun _ _ _ h=>h) (Or.inl ⟨by rfl,?_⟩) ?_
      rotate_left
      ·intro w';go_simp<;>with_reducible rfl
      try simp only [Act.put,pC,pD,pE,pF,pG,pH]
      refine wpAny_take (i:=3) (v:=?_) rfl (by kernel_rfl) (by kernel_rfl) (by kernel_rfl) (fun _ _ _ h=>h) (Or.inl ⟨by rfl,?_⟩) ?_
      rotate_left
      ·intro w';go_simp<;>with_reducible rfl
      try simp only [Act.put,pC,pD,pE,pF,pG,pH]
      refine wpAny_take (i:=5) (v:=?_) rfl (by kernel_rfl) (by kernel_rfl) (by kernel_rfl) (fun _ _ _ h=>h) (Or.inl ⟨by rfl,?_⟩) ?_
      rotate_left
      ·intro w';go_simp<;>with_reducible rfl
      try simp only [Act.put,pC,pD,pE,pF,pG,pH]
      refine wpAny_take (i:=6) (v:=?_) rfl (by kernel_rfl) (by kernel_rfl) (by kernel_rfl) (fun _ _ _ h=>h) (Or.inl ⟨by rfl,?_⟩) ?_
      rotate_left
      ·intro w';go_simp<;>with_reducible rfl
      try simp only [Act.put,pC,pD,pE,pF,pG,pH]
      refine wpAny_ready (rs:=[4,7]) (by kernel_rfl) (by simp) ?_
      refine AllReady.cons rfl (fun KK hK=>?_) (AllReady.cons rfl (fun KK hK=>?_) AllReady.nil)
      ·rw [if_pos (by rfl)]
       go_simp
       refine hK _ _ ?_
       clear hK KK
       try simp only [Act.put,pC,pD,pE,pF,pG,pH]
       refine wpAny_ready (rs:=[7]) (by kernel_rfl) (by simp) ?_
       refine AllReady.cons rfl (fun KK hK=>?_) AllReady.nil
       rw [if_pos (by rfl)]
       go_simp
       refine hK _ _ ?_
       clear hK KK
       try simp only [Act.put,pC,pD,pE,pF,pG,pH]
       refine wpAny_take (i:=8) (v:=?_) rfl (by kernel_rfl) (by kernel_rfl) (by kernel_rfl) (fun _ _ _ h=>h) (Or.inl ⟨by rfl,?_⟩) ?_
       rotate_left
       ·intro w';go_simp<;>with_reducible rfl
       try simp only [Act.put,pC,pD,pE,pF,pG,pH]
       refine wpAny_ready (rs:=[9]) (by kernel_rfl) (by simp) ?_
       refine AllReady.cons rfl (fun KK hK=>?_) AllReady.nil
       rw [if_pos (by rfl)]
       go_simp
       refine hK _ _ ?_
       clear hK KK
       try simp only [Act.put,pC,pD,pE,pF,pG,pH]
       refine wpAny_ready (rs:=[10]) (by kernel_rfl) (by simp) ?_
       refine AllReady.cons rfl (fun KK hK=>?_) AllReady.nil
       rw [if_pos (by rfl)]
       refine wp_app1 (.tmp 51) (.tmp 60) rfl base L _ (cr K c N B L) (bits .xor .u8 z xx) x0 rfl rfl HD.out.1 (by omega) HD.out.2.1 HD.out.2.2.1 ?_
       intro v2 w2 HA2
       refine hK _ _ ?_
       clear hK KK
       try simp only [Act.put,pC,pD,pE,pF,pG,pH]
       refine wpAny_take (i:=11) (v:=?_) rfl (by kernel_rfl) (by kernel_rfl) (by kernel_rfl) (fun _ _ _ h=>h) (Or.inl ⟨by rfl,?_⟩) ?_
       rotate_left
       ·intro w';go_simp<;>with_reducible rfl
       try simp only [Act.put,pC,pD,pE,pF,pG,pH]
       refine wpAny_done (by kernel_rfl) ?_ _
       have HE:Box (w2.ownsRow base 5 1 v2 (L+1) ((cr K c N B (L+1)).map (Value.int .u8))/\Below base x0 w2/\base<=w2.heap.size/\w2.heap[G]?=some (.cells (u8s X) 180 (0,0))):=⟨by rw [HCR.out];exact HA2.out.1,HA2.out.2.1,HA2.out.2.2.1,HA2.out.2.2.2 G _ HD.out.2.2.2⟩
       clear HA2 HD cz cx
       go_wp2
       go_roundw
       case rel=>exact ⟨i+1,L+1,by omega,by omega,by go_num,HE⟩
       case measure=>simp [intOf];omega
      ·rw [if_pos (by rfl)]
       go_simp
       refine hK _ _ ?_
       clear hK KK
       try simp only [Act.put,pC,pD,pE,pF,pG,pH]
       refine wpAny_ready (rs:=[4]) (by kernel_rfl) (by simp) ?_
       refine AllReady.cons rfl (fun KK hK=>?_) AllReady.nil
       rw [if_pos (by rfl)]
       go_simp
       refine hK _ _ ?_
       clear hK KK
       try simp only [Act.put,pC,pD,pE,pF,pG,pH]
       refine wpAny_take (i:=8) (v:=?_) rfl (by kernel_rfl) (by kernel_rfl) (by kernel_rfl) (fun _ _ _ h=>h) (Or.inl ⟨by rfl,?_⟩) ?_
       rotate_left
       ·intro w';go_simp<;>with_reducible rfl
       try simp only [Act.put,pC,pD,pE,pF,pG,pH]
       refine wpAny_ready (rs:=[9]) (by kernel_rfl) (by simp) ?_
       refine AllReady.cons rfl (fun KK hK=>?_) AllReady.nil
       rw [if_pos (by rfl)]
       go_simp
       refine hK _ _ ?_
       clear hK KK
       try simp only [Act.put,pC,pD,pE,pF,pG,pH]
       refine wpAny_ready (rs:=[10]) (by kernel_rfl) (by simp) ?_
       refine AllReady.cons rfl (fun KK hK=>?_) AllReady.nil
       rw [if_pos (by rfl)]
       refine wp_app1 (.tmp 51) (.tmp 60) rfl base L _ (cr K c N B L) (bits .xor .u8 z xx) x0 rfl rfl HD.out.1 (by omega) HD.out.2.1 HD.out.2.2.1 ?_
       intro v2 w2 HA2
       refine hK _ _ ?_
       clear hK KK
       try simp only [Act.put,pC,pD,pE,pF,pG,pH]
       refine wpAny_take (i:=11) (v:=?_) rfl (by kernel_rfl) (by kernel_rfl) (by kernel_rfl) (fun _ _ _ h=>h) (Or.inl ⟨by rfl,?_⟩) ?_
       rotate_left
       ·intro w';go_simp<;>with_reducible rfl
       try simp only [Act.put,pC,pD,pE,pF,pG,pH]
       refine wpAny_done (by kernel_rfl) ?_ _
       have HE:Box (w2.ownsRow base 5 1 v2 (L+1) ((cr K c N B (L+1)).map (Value.int .u8))/\Below base x0 w2/\base<=w2.heap.size/\w2.heap[G]?=some (.cells (u8s X) 180 (0,0))):=⟨by rw [HCR.out];exact HA2.out.1,HA2.out.2.1,HA2.out.2.2.1,HA2.out.2.2.2 G _ HD.out.2.2.2⟩
       clear HA2 HD cz cx
       go_wp2
       go_roundw
       case rel=>exact ⟨i+1,L+1,by omega,by omega,by go_num,HE⟩
       case measure=>simp [intOf];omega
     ·have HE:Box (L=min (64*k+(i+1)) len):=⟨by have:=HL.out;omega⟩
      have e6:¬(p:Int)<(len:Int):=by omega
      clear HL
      go_wp2
      go_roundw
      case rel=>exact ⟨i+1,L,by omega,HE.out,by go_num,HJ⟩
      case measure=>simp [intOf];omega
    ·have HE:Box (L=min (64*(k+1)) len):=⟨by have:=HL.out;omega⟩
     have HF:Box (wr.ownsRow base 5 1 (.slice av2 L cv2) L ((cr K c N B L).map (Value.int .u8))/\Below base x0 wr/\base<=wr.heap.size):=⟨HJ.out.1,HJ.out.2.1,HJ.out.2.2.1⟩
     clear HL HJ
     go_wp2
     go_roundw
     case rel=>exact ⟨k+1,L,by omega,HE.out,by go_num,HF⟩
     case measure=>simp [intOf];omega
  ·have hLl:L=len:=by have:=HI2.out;omega
   subst hLl
   have HF:Box (Bytes wr av L (cr K c N B L)/\Below w.heap.size w wr):=⟨q2p HO.out.1 (q8t K c N B L),(HP.out wr HO.out.2.1).1.2.2⟩
   clear HO HP HBk HB hL
   go_wp2
   go_ret2
   exact ⟨_,_,rfl,HF.out.1,HF.out.2⟩
end Go.Proofs.YtjejnlebpcjidaaGreatDoor.Seal
