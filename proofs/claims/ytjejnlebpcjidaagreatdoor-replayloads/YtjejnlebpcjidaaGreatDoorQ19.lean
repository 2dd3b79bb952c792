/-
 What the reference's Open answers, for every key, place, string and number.
-/
import Derived.Test.YtjejnlebpcjidaaGreatDoorQ01
import Derived.Test.YtjejnlebpcjidaaGreatDoorQ18
set_option linter.unusedVariables false
set_option maxRecDepth 100000
set_option maxRecDepth 100000
namespace Go.Proofs.YtjejnlebpcjidaaGreatDoor.Seal
open Go.RowKit Go.Proofs.YtjejnlebpcjidaaGreatDoor.Plain Go.Proofs.YtjejnlebpcjidaaGreatDoor.Seal.Plain
set_option maxRecDepth 20000 in
set_option maxHeartbeats 400000 in
theorem z2m (K:List Int) (p:Int) (s:ByteArray) (L:List Int) (hs:s.size=192) (n:Int) (h:n=160) (v:Int) (HCs:Box (∀x,∃c w',(convert 9 57 (.string s)).run Tryz.prog x=.ok (.slice (some ⟨x.heap.size,0,none⟩) 192 c) w'/\Bytes w' (some ⟨x.heap.size,0,none⟩) 192 L/\Below x.heap.size x w')) (C1:Box (∀x a c,Bytes x a 192 L->Calls Tryz.prog 86 #[.slice a 192 c,.int .i64 0,.int .i64 8] x fun e w'=>e=.returned (.tuple #[.int .u64 v,.int .i64 0])/\x=w')) (hv:v=0) (w:World):
  Calls Tryz.prog 58 #[.agg (u8s K),.int .u32 p,.string s,.int .i64 n] w fun e w'=>e=.returned (.tuple #[.int .u64 0,.string ByteArray.empty,.int .i64 11])/\Below w.heap.size w w':=by
 have H0:Box (Below w.heap.size w (w.alloc (.cells (u8s K) 23))):=⟨(Below.refl _ _).alloc (Nat.le_refl _) _⟩
 have g1:(n != 160)=false:=by subst h;rfl
 subst hv
 clear h
 go_enter Tryz.func58,Tryz.ntmps58
 go_upto_region 1 with fail
 generalize w.alloc (.cells (u8s K) 23)=x0 at H0 ⊢
 obtain ⟨c5,w5,hcv,hB5,hb5⟩:=HCs.out x0
 have H5:Box (Below w.heap.size w w5):=⟨q0a H0.out hb5⟩
 clear hb5
 go_wp2_with (go_at_call 86;refine (C1.out w5 _ _ hB5).mono ?_;rintro e w' ⟨rfl,rfl⟩)
 go_ret3
 exact ⟨rfl,H5.out⟩
set_option maxRecDepth 20000 in
set_option maxHeartbeats 400000 in
theorem z2e (K:List Int) (p:Int) (s:ByteArray) (L:List Int) (hs:s.size=192) (n:Int) (h:n=160) (v:Int) (HCs:Box (∀x,∃c w',(convert 9 57 (.string s)).run Tryz.prog x=.ok (.slice (some ⟨x.heap.size,0,none⟩) 192 c) w'/\Bytes w' (some ⟨x.heap.size,0,none⟩) 192 L/\Below x.heap.size x w')) (C1:Box (∀x a c,Bytes x a 192 L->Calls Tryz.prog 86 #[.slice a 192 c,.int .i64 0,.int .i64 8] x fun e w'=>e=.returned (.tuple #[.int .u64 v,.int .i64 0])/\x=w')) (hv:v=18446744073709551615) (w:World):
  Calls Tryz.prog 58 #[.agg (u8s K),.int .u32 p,.string s,.int .i64 n] w fun e w'=>e=.returned (.tuple #[.int .u64 0,.string ByteArray.empty,.int .i64 11])/\Below w.heap.size w w':=by
 have H0:Box (Below w.heap.size w (w.alloc (.cells (u8s K) 23))):=⟨(Below.refl _ _).alloc (Nat.le_refl _) _⟩
 have g1:(n != 160)=false:=by subst h;rfl
 subst hv
 clear h
 go_enter Tryz.func58,Tryz.ntmps58
 go_upto_region 1 with fail
 generalize w.alloc (.cells (u8s K) 23)=x0 at H0 ⊢
 obtain ⟨c5,w5,hcv,hB5,hb5⟩:=HCs.out x0
 have H5:Box (Below w.heap.size w w5):=⟨q0a H0.out hb5⟩
 clear hb5
 go_wp2_with (go_at_call 86;refine (C1.out w5 _ _ hB5).mono ?_;rintro e w' ⟨rfl,rfl⟩)
 go_ret3
 exact ⟨rfl,H5.out⟩
set_option maxRecDepth 20000 in
set_option maxHeartbeats 400000 in
theorem z3j (K:List Int) (p:Int) (s:ByteArray) (L:List Int) (hs:s.size=192) (n:Int) (h:n=160) (v:Int) (HCs:Box (∀x,∃c w',(convert 9 57 (.string s)).run Tryz.prog x=.ok (.slice (some ⟨x.heap.size,0,none⟩) 192 c) w'/\Bytes w' (some ⟨x.heap.size,0,none⟩) 192 L/\Below x.heap.size x w')) (C1:Box (∀x a c,Bytes x a 192 L->Calls Tryz.prog 86 #[.slice a 192 c,.int .i64 0,.int .i64 8] x fun e w'=>e=.returned (.tuple #[.int .u64 v,.int .i64 0])/\x=w')) (hv0:¬v=0) (hv1:¬v=18446744073709551615) (m:Nat) (hm:8+n=(m:Int)) (HIx:Box (∀i:Nat,i<192->∀x,(Instr.index 9 (.string s) (.int .i64 (i:Int))).run Tryz.prog x=.ok (.int .u8 (L.getD i 0)) x)) (j:Nat) (hj1:m<=j) (hj2:j<192) (hj:¬L.getD j 0=0) (w:World):
  Calls Tryz.prog 58 #[.agg (u8s K),.int .u32 p,.string s,.int .i64 n] w fun e w'=>e=.returned (.tuple #[.int .u64 0,.string ByteArray.empty,.int .i64 11])/\Below w.heap.size w w':=by
 have H0:Box (Below w.heap.size w (w.alloc (.cells (u8s K) 23))):=⟨(Below.refl _ _).alloc (Nat.le_refl _) _⟩
 have g1:(n != 160)=false:=by subst h;rfl
 have g3:(v==0)=false:=by simpa using hv0
 have g4:(v==18446744073709551615)=false:=by simpa using hv1
 have e8:IntKind.i64.wrap (8+n)=(m:Int):=by rw [IntKind.wrap_i64];omega
 have HJ:Box (¬L.getD j 0=0):=⟨hj⟩
 clear h hm hv0 hv1 hj
 go_enter Tryz.func58,Tryz.ntmps58
 go_upto_region 1 with fail
 generalize w.alloc (.cells (u8s K) 23)=x0 at H0 ⊢
 obtain ⟨c5,w5,hcv,hB5,hb5⟩:=HCs.out x0
 have H5:Box (Below w.heap.size w w5):=⟨q0a H0.out hb5⟩
 clear hb5
 go_wp2_with (go_at_call 86;refine (C1.out w5 _ _ hB5).mono ?_;rintro e w' ⟨rfl,rfl⟩)
 clear C1 HCs hcv
 go_loop [13] (fun i=>∃k:Nat,k<=j/\i=.int .i64 k) (fun i=>192-(intOf i).toNat)
 case atStart=>exact ⟨m,hj1,rfl⟩
 case round=>
  obtain ⟨k,hk,rfl⟩:=hrel
  have hk2:k<192:=by omega
  have hix:=HIx.out k hk2
  by_cases hz:L.getD k 0=0
  ·rw [hz] at hix
   have hne:¬k=j:=fun e=>HJ.out (by rw [<-e];exact hz)
   clear hz HJ HIx
   go_wp2
   go_round
   case rel=>exact ⟨k+1,by omega,by go_num⟩
   case measure=>simp [intOf];omega
  ·have g7:(L.getD k 0 != 0)=true:=by simpa using hz
   clear hz HJ HIx
   generalize L.getD k 0=z at hix g7
   go_wp2
   go_ret3
   exact ⟨rfl,H5.out⟩
set_option maxRecDepth 20000 in
set_option maxHeartbeats 1000000 in
theorem z6w (K:List Int) (p:Int) (s:ByteArray) (L:List Int) (hs:s.size=192) (n:Int) (h:n=160) (v:Int) (HCs:Box (∀x,∃c w',(convert 9 57 (.string s)).run Tryz.prog x=.ok (.slice (some ⟨x.heap.size,0,none⟩) 192 c) w'/\Bytes w' (some ⟨x.heap.size,0,none⟩) 192 L/\Below x.heap.size x w')) (C1:Box (∀x a c,Bytes x a 192 L->Calls Tryz.prog 86 #[.slice a 192 c,.int .i64 0,.int .i64 8] x fun e w'=>e=.returned (.tuple #[.int .u64 v,.int .i64 0])/\x=w')) (s2:ByteArray) (X B C:List Int) (hKl:K.length=32) (hv0:¬v=0) (hv1:¬v=18446744073709551615) (m:Nat) (hm:8+n=(m:Int)) (HIx:Box (∀i:Nat,i<192->∀x,(Instr.index 9 (.string s) (.int .i64 (i:Int))).run Tryz.prog x=.ok (.int .u8 (L.getD i 0)) x)) (hz:∀i,m<=i->i<192->L.getD i 0=0)
  (hss:∀x,(Instr.sliceAt 9 (.string s) (some (.int .i64 8)) (some (.int .i64 (m:Int))) none).run Tryz.prog x=.ok (.string s2) x) (w:World) (l:Nat)
  (HCv:Box (∀x,∃c w',(convert 9 57 (.string s2)).run Tryz.prog x=.ok (.slice (some ⟨x.heap.size,0,none⟩) l c) w'/\Bytes w' (some ⟨x.heap.size,0,none⟩) l B/\Below x.heap.size x w'))
  (C3:Box (∀x,Calls Tryz.prog 77 #[.int .u32 p,.int .u64 v] x fun e w'=>e=.returned (.agg (u8s X))/\Below x.heap.size x w'))
  (C2:Box (∀x a c,Below w.heap.size w x->Bytes x a l B->Calls Tryz.prog 76 #[.agg (u8s K),.int .u32 0,.agg (u8s X),.slice a l c] x fun e w'=>∃a' c',e=.returned (.tuple #[.slice a' l c',.int .i64 0])/\Bytes w' a' l C/\Below x.heap.size x w')):
  Calls Tryz.prog 58 #[.agg (u8s K),.int .u32 p,.string s,.int .i64 n] w fun e w'=>e=.returned (.tuple #[.int .u64 v,.string (strOfNums C),.int .i64 0])/\Below w.heap.size w w':=by
 obtain ⟨S,hS⟩:=nm w.heap.size
 have HS:Hid (w.heap.size=S):=hS
 have H0:Box ((w.alloc (.cells (u8s K) 23)).heap[S]?=some (.cells (u8s K) 23 (0,0))/\Below w.heap.size w (w.alloc (.cells (u8s K) 23))):=⟨q0g hS,(Below.refl _ _).alloc (Nat.le_refl _) _⟩
 have g1:(n != 160)=false:=by subst h;rfl
 have g3:(v==0)=false:=by simpa using hv0
 have g4:(v==18446744073709551615)=false:=by simpa using hv1
 have e8:IntKind.i64.wrap (8+n)=(m:Int):=by rw [IntKind.wrap_i64];omega
 have HM:Box (m<=192):=⟨by omega⟩
 have HZ:Box (∀i,m<=i->i<192->L.getD i 0=0):=⟨hz⟩
 clear h hm hv0 hv1 hz hS
 go_enter Tryz.func58,Tryz.ntmps58
 go_upto_region 1 with fail
 rw [HS.out]
 generalize w.alloc (.cells (u8s K) 23)=x0 at H0 ⊢
 obtain ⟨c5,w5,hcv,hB5,hb5⟩:=HCs.out x0
 have HK:Box (Below w.heap.size w w5/\Kb1 w w5 S K):=⟨q0a H0.out.2 hb5,q2f H0.out.1 hb5,q0a H0.out.2 hb5⟩
 clear hb5
 go_wp2_with (go_at_call 86;refine (C1.out w5 _ _ hB5).mono ?_;rintro e w' ⟨rfl,rfl⟩)
 clear C1 HCs hcv hB5
 go_loop [13] (fun i=>∃k:Nat,m<=k/\k<=192/\i=.int .i64 k) (fun i=>192-(intOf i).toNat)
 case atStart=>exact ⟨m,Nat.le_refl _,HM.out,rfl⟩
 case round=>
  obtain ⟨k,hk1,hk,rfl⟩:=hrel
  by_cases hk2:k<192
  ·have hix:=HIx.out k hk2
   rw [HZ.out k hk1 hk2] at hix
   clear HIx HZ
   go_wp2
   go_round
   case rel=>exact ⟨k+1,by omega,by omega,by go_num⟩
   case measure=>simp [intOf];omega
  ·obtain rfl:k=192:=by omega
   clear HIx HZ HM hk1 hk hk2 g1 g3 g4
   go_upto_region 13 with fail
   refine Seq.q1t (by kernel_rfl) (fun wd hd=>?_)
   refine Seq.take_lx (i:=0) (v:=.agg (u8s K)) rfl (fun w' hLat=>q4c 23 32 Tryz.underlying23 size32 (.tmp 4) rfl S rfl K hKl (q2f (q2f HK.out.2.key hd) hLat)) ?_
   try simp only [Act.put,pC,pD,pE,pF,pG]
   refine Seq.take_ly (i:=1) rfl ?_
   try simp only [Act.put,pC,pD,pE,pF,pG,pH]
   refine Seq.take_ly (i:=2) rfl ?_
   try simp only [Act.put,pC,pD,pE,pF,pG,pH]
   refine Seq.take_ly (i:=4) rfl ?_
   try simp only [Act.put,pC,pD,pE,pF,pG,pH]
   refine Seq.take_ly (i:=5) rfl ?_
   try simp only [Act.put,pC,pD,pE,pF,pG,pH]
   refine Seq.take_ly (i:=6) rfl ?_
   try simp only [Act.put,pC,pD,pE,pF,pG,pH]
   refine Seq.take_lx (i:=7) (v:=.string s2) rfl (fun w' hLat=>q7m 9 (.tmp 52) (some (.const (.int .i64 8))) (some (.tmp 54)) rfl _ (hss w')) ?_
   try simp only [Act.put,pC,pD,pE,pF,pG,pH]
   refine z1c (i:=3) (j:=8) rfl rfl (by kernel_rfl) (fun KK hK=>?_) (fun KK hK=>?_)
   ·
    rw [if_pos (by rfl)]
    go_simp
    refine Calls.mono (C3.out wd) ?_
    rintro e w4 ⟨rfl,hb4⟩
    have HA:Box (Below w.heap.size w w4/\Kb1 w w4 S K):=⟨q0a (q0a HK.out.1 hd) hb4,(HK.out.2.on hd).on hb4⟩
    refine hK.out _ _ hb4 ?_
    clear hb4 hK KK
    try simp only [Act.put,pC,pD,pE,pF,pG,pH]
    refine Seq.q1k (i:=8) rfl (by kernel_rfl) (fun KK hK=>?_)
    rw [if_pos (by rfl)]
    obtain ⟨c5,w5,hcv,hB5,hb5⟩:=HCv.out w4
    go_simp
    have HB:Box (Bytes w5 (some ⟨w4.heap.size,0,none⟩) l B/\Below w.heap.size w w5/\Kb1 w w5 S K):=⟨hB5,q0a HA.out.1 hb5,HA.out.2.on hb5⟩
    refine hK.out _ _ hb5 ?_
    clear hb5 hB5 hcv
    clear hK KK
    try simp only [Act.put,pC,pD,pE,pF,pG,pH]
    refine Seq.q1k (i:=9) rfl (by kernel_rfl) (fun KK hK=>?_)
    rw [if_pos (by rfl)]
    go_simp
    refine Calls.mono (C2.out w5 _ _ HB.out.2.1 HB.out.1) ?_
    rintro e w6 ⟨a6,c6,rfl,hB6,hb6⟩
    have H6:Box (Kb1 w w6 S K/\Bytes w6 a6 l C):=⟨HB.out.2.2.on hb6,hB6⟩
    refine hK.out _ _ hb6 ?_
    clear hb6 hB6
    clear hK KK
    try simp only [Act.put,pC,pD,pE,pF,pG,pH]
    refine Seq.take_ly (i:=10) rfl ?_
    try simp only [Act.put,pC,pD,pE,pF,pG,pH]
    refine Seq.take_ly (i:=11) rfl ?_
    try simp only [Act.put,pC,pD,pE,pF,pG,pH]
    refine Seq.take_ly (i:=12) rfl ?_
    try simp only [Act.put,pC,pD,pE,pF,pG,pH]
    refine Seq.take_ly (i:=13) rfl ?_
    try simp only [Act.put,pC,pD,pE,pF,pG,pH]
    refine Seq.take_ly (i:=14) rfl ?_
    try simp only [Act.put,pC,pD,pE,pF,pG,pH]
    refine wpAnyH_done (by kernel_rfl) ?_ _
    go_upto_region 14 with fail
    refine Seq.q1t (by kernel_rfl) (fun wd hd=>?_)
    refine Seq.take_ly (i:=0) rfl ?_
    try simp only [Act.put,pC,pD,pE,pF,pG]
    refine Seq.take_ly (i:=1) rfl ?_
    try simp only [Act.put,pC,pD,pE,pF,pG,pH]
    refine Seq.take_lx (i:=2) (v:=.string (strOfNums C)) rfl (fun w' hLat=>q3b (.tmp 61) rfl rfl ((H6.out.2.below hd).below hLat)) ?_
    try simp only [Act.put,pC,pD,pE,pF,pG,pH]
    refine Seq.take_ly (i:=3) rfl ?_
    try simp only [Act.put,pC,pD,pE,pF,pG,pH]
    refine Seq.take_ly (i:=4) rfl ?_
    try simp only [Act.put,pC,pD,pE,pF,pG,pH]
    refine Seq.take_ly (i:=5) rfl ?_
    try simp only [Act.put,pC,pD,pE,pF,pG,pH]
    refine wpAnyH_done (by kernel_rfl) ?_ _
    go_wp2
    go_ret3
    exact ⟨rfl,q0a H6.out.1.bel hd⟩
   ·
    rw [if_pos (by rfl)]
    obtain ⟨c5,w4,hcv,hB5,hb5⟩:=HCv.out wd
    go_simp
    have HA:Box (Bytes w4 (some ⟨wd.heap.size,0,none⟩) l B/\Below w.heap.size w w4/\Kb1 w w4 S K):=⟨hB5,q0a (q0a HK.out.1 hd) hb5,(HK.out.2.on hd).on hb5⟩
    refine hK.out _ _ hb5 ?_
    clear hb5 hB5 hcv hK KK
    try simp only [Act.put,pC,pD,pE,pF,pG,pH]
    refine Seq.q1k (i:=3) rfl (by kernel_rfl) (fun KK hK=>?_)
    rw [if_pos (by rfl)]
    go_simp
    refine Calls.mono (C3.out w4) ?_
    rintro e w5 ⟨rfl,hb4⟩
    have HB:Box (Bytes w5 (some ⟨wd.heap.size,0,none⟩) l B/\Below w.heap.size w w5/\Kb1 w w5 S K):=⟨HA.out.1.below hb4,q0a HA.out.2.1 hb4,HA.out.2.2.on hb4⟩
    refine hK.out _ _ hb4 ?_
    clear hb4
    clear hK KK
    try simp only [Act.put,pC,pD,pE,pF,pG,pH]
    refine Seq.q1k (i:=9) rfl (by kernel_rfl) (fun KK hK=>?_)
    rw [if_pos (by rfl)]
    go_simp
    refine Calls.mono (C2.out w5 _ _ HB.out.2.1 HB.out.1) ?_
    rintro e w6 ⟨a6,c6,rfl,hB6,hb6⟩
    have H6:Box (Kb1 w w6 S K/\Bytes w6 a6 l C):=⟨HB.out.2.2.on hb6,hB6⟩
    refine hK.out _ _ hb6 ?_
    clear hb6 hB6
    clear hK KK
    try simp only [Act.put,pC,pD,pE,pF,pG,pH]
    refine Seq.take_ly (i:=10) rfl ?_
    try simp only [Act.put,pC,pD,pE,pF,pG,pH]
    refine Seq.take_ly (i:=11) rfl ?_
    try simp only [Act.put,pC,pD,pE,pF,pG,pH]
    refine Seq.take_ly (i:=12) rfl ?_
    try simp only [Act.put,pC,pD,pE,pF,pG,pH]
    refine Seq.take_ly (i:=13) rfl ?_
    try simp only [Act.put,pC,pD,pE,pF,pG,pH]
    refine Seq.take_ly (i:=14) rfl ?_
    try simp only [Act.put,pC,pD,pE,pF,pG,pH]
    refine wpAnyH_done (by kernel_rfl) ?_ _
    go_upto_region 14 with fail
    refine Seq.q1t (by kernel_rfl) (fun wd hd=>?_)
    refine Seq.take_ly (i:=0) rfl ?_
    try simp only [Act.put,pC,pD,pE,pF,pG]
    refine Seq.take_ly (i:=1) rfl ?_
    try simp only [Act.put,pC,pD,pE,pF,pG,pH]
    refine Seq.take_lx (i:=2) (v:=.string (strOfNums C)) rfl (fun w' hLat=>q3b (.tmp 61) rfl rfl ((H6.out.2.below hd).below hLat)) ?_
    try simp only [Act.put,pC,pD,pE,pF,pG,pH]
    refine Seq.take_ly (i:=3) rfl ?_
    try simp only [Act.put,pC,pD,pE,pF,pG,pH]
    refine Seq.take_ly (i:=4) rfl ?_
    try simp only [Act.put,pC,pD,pE,pF,pG,pH]
    refine Seq.take_ly (i:=5) rfl ?_
    try simp only [Act.put,pC,pD,pE,pF,pG,pH]
    refine wpAnyH_done (by kernel_rfl) ?_ _
    go_wp2
    go_ret3
    exact ⟨rfl,q0a H6.out.1.bel hd⟩
set_option maxRecDepth 20000 in
set_option maxHeartbeats 400000 in
theorem z3l (K:List Int) (p:Int) (s:ByteArray) (L:List Int) (hs:s.size=192) (n:Int) (h:n=176) (v:Int) (HCs:Box (∀x,∃c w',(convert 9 57 (.string s)).run Tryz.prog x=.ok (.slice (some ⟨x.heap.size,0,none⟩) 192 c) w'/\Bytes w' (some ⟨x.heap.size,0,none⟩) 192 L/\Below x.heap.size x w')) (C1:Box (∀x a c,Bytes x a 192 L->Calls Tryz.prog 86 #[.slice a 192 c,.int .i64 0,.int .i64 8] x fun e w'=>e=.returned (.tuple #[.int .u64 v,.int .i64 0])/\x=w')) (hv:v=0) (w:World):
  Calls Tryz.prog 58 #[.agg (u8s K),.int .u32 p,.string s,.int .i64 n] w fun e w'=>e=.returned (.tuple #[.int .u64 0,.string ByteArray.empty,.int .i64 11])/\Below w.heap.size w w':=by
 have H0:Box (Below w.heap.size w (w.alloc (.cells (u8s K) 23))):=⟨(Below.refl _ _).alloc (Nat.le_refl _) _⟩
 have g1:(n != 160)=true:=by subst h;rfl
 have g2:(n != 176)=false:=by subst h;rfl
 subst hv
 clear h
 go_enter Tryz.func58,Tryz.ntmps58
 go_upto_region 1 with fail
 generalize w.alloc (.cells (u8s K) 23)=x0 at H0 ⊢
 obtain ⟨c5,w5,hcv,hB5,hb5⟩:=HCs.out x0
 have H5:Box (Below w.heap.size w w5):=⟨q0a H0.out hb5⟩
 clear hb5
 go_wp2_with (go_at_call 86;refine (C1.out w5 _ _ hB5).mono ?_;rintro e w' ⟨rfl,rfl⟩)
 go_ret3
 exact ⟨rfl,H5.out⟩
set_option maxRecDepth 20000 in
set_option maxHeartbeats 400000 in
theorem z1v (K:List Int) (p:Int) (s:ByteArray) (L:List Int) (hs:s.size=192) (n:Int) (h:n=176) (v:Int) (HCs:Box (∀x,∃c w',(convert 9 57 (.string s)).run Tryz.prog x=.ok (.slice (some ⟨x.heap.size,0,none⟩) 192 c) w'/\Bytes w' (some ⟨x.heap.size,0,none⟩) 192 L/\Below x.heap.size x w')) (C1:Box (∀x a c,Bytes x a 192 L->Calls Tryz.prog 86 #[.slice a 192 c,.int .i64 0,.int .i64 8] x fun e w'=>e=.returned (.tuple #[.int .u64 v,.int .i64 0])/\x=w')) (hv:v=18446744073709551615) (w:World):
  Calls Tryz.prog 58 #[.agg (u8s K),.int .u32 p,.string s,.int .i64 n] w fun e w'=>e=.returned (.tuple #[.int .u64 0,.string ByteArray.empty,.int .i64 11])/\Below w.heap.size w w':=by
 have H0:Box (Below w.heap.size w (w.alloc (.cells (u8s K) 23))):=⟨(Below.refl _ _).alloc (Nat.le_refl _) _⟩
 have g1:(n != 160)=true:=by subst h;rfl
 have g2:(n != 176)=false:=by subst h;rfl
 subst hv
 clear h
 go_enter Tryz.func58,Tryz.ntmps58
 go_upto_region 1 with fail
 generalize w.alloc (.cells (u8s K) 23)=x0 at H0 ⊢
 obtain ⟨c5,w5,hcv,hB5,hb5⟩:=HCs.out x0
 have H5:Box (Below w.heap.size w w5):=⟨q0a H0.out hb5⟩
 clear hb5
 go_wp2_with (go_at_call 86;refine (C1.out w5 _ _ hB5).mono ?_;rintro e w' ⟨rfl,rfl⟩)
 go_ret3
 exact ⟨rfl,H5.out⟩
set_option maxRecDepth 20000 in
set_option maxHeartbeats 400000 in
theorem z2k (K:List Int) (p:Int) (s:ByteArray) (L:List Int) (hs:s.size=192) (n:Int) (h:n=176) (v:Int) (HCs:Box (∀x,∃c w',(convert 9 57 (.string s)).run Tryz.prog x=.ok (.slice (some ⟨x.heap.size,0,none⟩) 192 c) w'/\Bytes w' (some ⟨x.heap.size,0,none⟩) 192 L/\Below x.heap.size x w')) (C1:Box (∀x a c,Bytes x a 192 L->Calls Tryz.prog 86 #[.slice a 192 c,.int .i64 0,.int .i64 8] x fun e w'=>e=.returned (.tuple #[.int .u64 v,.int .i64 0])/\x=w')) (hv0:¬v=0) (hv1:¬v=18446744073709551615) (m:Nat) (hm:8+n=(m:Int)) (HIx:Box (∀i:Nat,i<192->∀x,(Instr.index 9 (.string s) (.int .i64 (i:Int))).run Tryz.prog x=.ok (.int .u8 (L.getD i 0)) x)) (j:Nat) (hj1:m<=j) (hj2:j<192) (hj:¬L.getD j 0=0) (w:World):
  Calls Tryz.prog 58 #[.agg (u8s K),.int .u32 p,.string s,.int .i64 n] w fun e w'=>e=.returned (.tuple #[.int .u64 0,.string ByteArray.empty,.int .i64 11])/\Below w.heap.size w w':=by
 have H0:Box (Below w.heap.size w (w.alloc (.cells (u8s K) 23))):=⟨(Below.refl _ _).alloc (Nat.le_refl _) _⟩
 have g1:(n != 160)=true:=by subst h;rfl
 have g2:(n != 176)=false:=by subst h;rfl
 have g3:(v==0)=false:=by simpa using hv0
 have g4:(v==18446744073709551615)=false:=by simpa using hv1
 have e8:IntKind.i64.wrap (8+n)=(m:Int):=by rw [IntKind.wrap_i64];omega
 have HJ:Box (¬L.getD j 0=0):=⟨hj⟩
 clear h hm hv0 hv1 hj
 go_enter Tryz.func58,Tryz.ntmps58
 go_upto_region 1 with fail
 generalize w.alloc (.cells (u8s K) 23)=x0 at H0 ⊢
 obtain ⟨c5,w5,hcv,hB5,hb5⟩:=HCs.out x0
 have H5:Box (Below w.heap.size w w5):=⟨q0a H0.out hb5⟩
 clear hb5
 go_wp2_with (go_at_call 86;refine (C1.out w5 _ _ hB5).mono ?_;rintro e w' ⟨rfl,rfl⟩)
 clear C1 HCs hcv
 go_loop [13] (fun i=>∃k:Nat,k<=j/\i=.int .i64 k) (fun i=>192-(intOf i).toNat)
 case atStart=>exact ⟨m,hj1,rfl⟩
 case round=>
  obtain ⟨k,hk,rfl⟩:=hrel
  have hk2:k<192:=by omega
  have hix:=HIx.out k hk2
  by_cases hz:L.getD k 0=0
  ·rw [hz] at hix
   have hne:¬k=j:=fun e=>HJ.out (by rw [<-e];exact hz)
   clear hz HJ HIx
   go_wp2
   go_round
   case rel=>exact ⟨k+1,by omega,by go_num⟩
   case measure=>simp [intOf];omega
  ·have g7:(L.getD k 0 != 0)=true:=by simpa using hz
   clear hz HJ HIx
   generalize L.getD k 0=z at hix g7
   go_wp2
   go_ret3
   exact ⟨rfl,H5.out⟩
set_option maxRecDepth 20000 in
set_option maxHeartbeats 1000000 in
theorem z8f (K:List Int) (p:Int) (s:ByteArray) (L:List Int) (hs:s.size=192) (n:Int) (h:n=176) (v:Int) (HCs:Box (∀x,∃c w',(convert 9 57 (.string s)).run Tryz.prog x=.ok (.slice (some ⟨x.heap.size,0,none⟩) 192 c) w'/\Bytes w' (some ⟨x.heap.size,0,none⟩) 192 L/\Below x.heap.size x w')) (C1:Box (∀x a c,Bytes x a 192 L->Calls Tryz.prog 86 #[.slice a 192 c,.int .i64 0,.int .i64 8] x fun e w'=>e=.returned (.tuple #[.int .u64 v,.int .i64 0])/\x=w')) (s2:ByteArray) (X B C:List Int) (hKl:K.length=32) (hv0:¬v=0) (hv1:¬v=18446744073709551615) (m:Nat) (hm:8+n=(m:Int)) (HIx:Box (∀i:Nat,i<192->∀x,(Instr.index 9 (.string s) (.int .i64 (i:Int))).run Tryz.prog x=.ok (.int .u8 (L.getD i 0)) x)) (hz:∀i,m<=i->i<192->L.getD i 0=0)
  (hss:∀x,(Instr.sliceAt 9 (.string s) (some (.int .i64 8)) (some (.int .i64 (m:Int))) none).run Tryz.prog x=.ok (.string s2) x) (w:World) (l:Nat)
  (HCv:Box (∀x,∃c w',(convert 9 57 (.string s2)).run Tryz.prog x=.ok (.slice (some ⟨x.heap.size,0,none⟩) l c) w'/\Bytes w' (some ⟨x.heap.size,0,none⟩) l B/\Below x.heap.size x w'))
  (C3:Box (∀x,Calls Tryz.prog 77 #[.int .u32 p,.int .u64 v] x fun e w'=>e=.returned (.agg (u8s X))/\Below x.heap.size x w'))
  (C2:Box (∀x a c,Below w.heap.size w x->Bytes x a l B->Calls Tryz.prog 76 #[.agg (u8s K),.int .u32 0,.agg (u8s X),.slice a l c] x fun e w'=>∃a' c',e=.returned (.tuple #[.slice a' l c',.int .i64 0])/\Bytes w' a' l C/\Below x.heap.size x w')):
  Calls Tryz.prog 58 #[.agg (u8s K),.int .u32 p,.string s,.int .i64 n] w fun e w'=>e=.returned (.tuple #[.int .u64 v,.string (strOfNums C),.int .i64 0])/\Below w.heap.size w w':=by
 obtain ⟨S,hS⟩:=nm w.heap.size
 have HS:Hid (w.heap.size=S):=hS
 have H0:Box ((w.alloc (.cells (u8s K) 23)).heap[S]?=some (.cells (u8s K) 23 (0,0))/\Below w.heap.size w (w.alloc (.cells (u8s K) 23))):=⟨q0g hS,(Below.refl _ _).alloc (Nat.le_refl _) _⟩
 have g1:(n != 160)=true:=by subst h;rfl
 have g2:(n != 176)=false:=by subst h;rfl
 have g3:(v==0)=false:=by simpa using hv0
 have g4:(v==18446744073709551615)=false:=by simpa using hv1
 have e8:IntKind.i64.wrap (8+n)=(m:Int):=by rw [IntKind.wrap_i64];omega
 have HM:Box (m<=192):=⟨by omega⟩
 have HZ:Box (∀i,m<=i->i<192->L.getD i 0=0):=⟨hz⟩
 clear h hm hv0 hv1 hz hS
 go_enter Tryz.func58,Tryz.ntmps58
 go_upto_region 1 with fail
 rw [HS.out]
 generalize w.alloc (.cells (u8s K) 23)=x0 at H0 ⊢
 obtain ⟨c5,w5,hcv,hB5,hb5⟩:=HCs.out x0
 have HK:Box (Below w.heap.size w w5/\Kb1 w w5 S K):=⟨q0a H0.out.2 hb5,q2f H0.out.1 hb5,q0a H0.out.2 hb5⟩
 clear hb5
 go_wp2_with (go_at_call 86;refine (C1.out w5 _ _ hB5).mono ?_;rintro e w' ⟨rfl,rfl⟩)
 clear C1 HCs hcv hB5
 go_loop [13] (fun i=>∃k:Nat,m<=k/\k<=192/\i=.int .i64 k) (fun i=>192-(intOf i).toNat)
 case atStart=>exact ⟨m,Nat.le_refl _,HM.out,rfl⟩
 case round=>
  obtain ⟨k,hk1,hk,rfl⟩:=hrel
  by_cases hk2:k<192
  ·have hix:=HIx.out k hk2
   rw [HZ.out k hk1 hk2] at hix
   clear HIx HZ
   go_wp2
   go_round
   case rel=>exact ⟨k+1,by omega,by omega,by go_num⟩
   case measure=>simp [intOf];omega
  ·obtain rfl:k=192:=by omega
   clear HIx HZ HM hk1 hk hk2 g1 g2 g3 g4
   go_upto_region 13 with fail
   refine Seq.q1t (by kernel_rfl) (fun wd hd=>?_)
   refine Seq.take_lx (i:=0) (v:=.agg (u8s K)) rfl (fun w' hLat=>q4c 23 32 Tryz.underlying23 size32 (.tmp 4) rfl S rfl K hKl (q2f (q2f HK.out.2.key hd) hLat)) ?_
   try simp only [Act.put,pC,pD,pE,pF,pG]
   refine Seq.take_ly (i:=1) rfl ?_
   try simp only [Act.put,pC,pD,pE,pF,pG,pH]
   refine Seq.take_ly (i:=2) rfl ?_
   try simp only [Act.put,pC,pD,pE,pF,pG,pH]
   refine Seq.take_ly (i:=4) rfl ?_
   try simp only [Act.put,pC,pD,pE,pF,pG,pH]
   refine Seq.take_ly (i:=5) rfl ?_
   try simp only [Act.put,pC,pD,pE,pF,pG,pH]
   refine Seq.take_ly (i:=6) rfl ?_
   try simp only [Act.put,pC,pD,pE,pF,pG,pH]
   refine Seq.take_lx (i:=7) (v:=.string s2) rfl (fun w' hLat=>q7m 9 (.tmp 52) (some (.const (.int .i64 8))) (some (.tmp 54)) rfl _ (hss w')) ?_
   try simp only [Act.put,pC,pD,pE,pF,pG,pH]
   refine z1c (i:=3) (j:=8) rfl rfl (by kernel_rfl) (fun KK hK=>?_) (fun KK hK=>?_)
   ·
    rw [if_pos (by rfl)]
    go_simp
    refine Calls.mono (C3.out wd) ?_
    rintro e w4 ⟨rfl,hb4⟩
    have HA:Box (Below w.heap.size w w4/\Kb1 w w4 S K):=⟨q0a (q0a HK.out.1 hd) hb4,(HK.out.2.on hd).on hb4⟩
    refine hK.out _ _ hb4 ?_
    clear hb4 hK KK
    try simp only [Act.put,pC,pD,pE,pF,pG,pH]
    refine Seq.q1k (i:=8) rfl (by kernel_rfl) (fun KK hK=>?_)
    rw [if_pos (by rfl)]
    obtain ⟨c5,w5,hcv,hB5,hb5⟩:=HCv.out w4
    go_simp
    have HB:Box (Bytes w5 (some ⟨w4.heap.size,0,none⟩) l B/\Below w.heap.size w w5/\Kb1 w w5 S K):=⟨hB5,q0a HA.out.1 hb5,HA.out.2.on hb5⟩
    refine hK.out _ _ hb5 ?_
    clear hb5 hB5 hcv
    clear hK KK
    try simp only [Act.put,pC,pD,pE,pF,pG,pH]
    refine Seq.q1k (i:=9) rfl (by kernel_rfl) (fun KK hK=>?_)
    rw [if_pos (by rfl)]
    go_simp
    refine Calls.mono (C2.out w5 _ _ HB.out.2.1 HB.out.1) ?_
    rintro e w6 ⟨a6,c6,rfl,hB6,hb6⟩
    have H6:Box (Kb1 w w6 S K/\Bytes w6 a6 l C):=⟨HB.out.2.2.on hb6,hB6⟩
    refine hK.out _ _ hb6 ?_
    clear hb6 hB6
    clear hK KK
    try simp only [Act.put,pC,pD,pE,pF,pG,pH]
    refine Seq.take_ly (i:=10) rfl ?_
    try simp only [Act.put,pC,pD,pE,pF,pG,pH]
    refine Seq.take_ly (i:=11) rfl ?_
    try simp only [Act.put,pC,pD,pE,pF,pG,pH]
    refine Seq.take_ly (i:=12) rfl ?_
    try simp only [Act.put,pC,pD,pE,pF,pG,pH]
    refine Seq.take_ly (i:=13) rfl ?_
    try simp only [Act.put,pC,pD,pE,pF,pG,pH]
    refine Seq.take_ly (i:=14) rfl ?_
    try simp only [Act.put,pC,pD,pE,pF,pG,pH]
    refine wpAnyH_done (by kernel_rfl) ?_ _
    go_upto_region 14 with fail
    refine Seq.q1t (by kernel_rfl) (fun wd hd=>?_)
    refine Seq.take_ly (i:=0) rfl ?_
    try simp only [Act.put,pC,pD,pE,pF,pG]
    refine Seq.take_ly (i:=1) rfl ?_
    try simp only [Act.put,pC,pD,pE,pF,pG,pH]
    refine Seq.take_lx (i:=2) (v:=.string (strOfNums C)) rfl (fun w' hLat=>q3b (.tmp 61) rfl rfl ((H6.out.2.below hd).below hLat)) ?_
    try simp only [Act.put,pC,pD,pE,pF,pG,pH]
    refine Seq.take_ly (i:=3) rfl ?_
    try simp only [Act.put,pC,pD,pE,pF,pG,pH]
    refine Seq.take_ly (i:=4) rfl ?_
    try simp only [Act.put,pC,pD,pE,pF,pG,pH]
    refine Seq.take_ly (i:=5) rfl ?_
    try simp only [Act.put,pC,pD,pE,pF,pG,pH]
    refine wpAnyH_done (by kernel_rfl) ?_ _
    go_wp2
    go_ret3
    exact ⟨rfl,q0a H6.out.1.bel hd⟩
   ·
    rw [if_pos (by rfl)]
    obtain ⟨c5,w4,hcv,hB5,hb5⟩:=HCv.out wd
    go_simp
    have HA:Box (Bytes w4 (some ⟨wd.heap.size,0,none⟩) l B/\Below w.heap.size w w4/\Kb1 w w4 S K):=⟨hB5,q0a (q0a HK.out.1 hd) hb5,(HK.out.2.on hd).on hb5⟩
    refine hK.out _ _ hb5 ?_
    clear hb5 hB5 hcv hK KK
    try simp only [Act.put,pC,pD,pE,pF,pG,pH]
    refine Seq.q1k (i:=3) rfl (by kernel_rfl) (fun KK hK=>?_)
    rw [if_pos (by rfl)]
    go_simp
    refine Calls.mono (C3.out w4) ?_
    rintro e w5 ⟨rfl,hb4⟩
    have HB:Box (Bytes w5 (some ⟨wd.heap.size,0,none⟩) l B/\Below w.heap.size w w5/\Kb1 w w5 S K):=⟨HA.out.1.below hb4,q0a HA.out.2.1 hb4,HA.out.2.2.on hb4⟩
    refine hK.out _ _ hb4 ?_
    clear hb4
    clear hK KK
    try simp only [Act.put,pC,pD,pE,pF,pG,pH]
    refine Seq.q1k (i:=9) rfl (by kernel_rfl) (fun KK hK=>?_)
    rw [if_pos (by rfl)]
    go_simp
    refine Calls.mono (C2.out w5 _ _ HB.out.2.1 HB.out.1) ?_
    rintro e w6 ⟨a6,c6,rfl,hB6,hb6⟩
    have H6:Box (Kb1 w w6 S K/\Bytes w6 a6 l C):=⟨HB.out.2.2.on hb6,hB6⟩
    refine hK.out _ _ hb6 ?_
    clear hb6 hB6
    clear hK KK
    try simp only [Act.put,pC,pD,pE,pF,pG,pH]
    refine Seq.take_ly (i:=10) rfl ?_
    try simp only [Act.put,pC,pD,pE,pF,pG,pH]
    refine Seq.take_ly (i:=11) rfl ?_
    try simp only [Act.put,pC,pD,pE,pF,pG,pH]
    refine Seq.take_ly (i:=12) rfl ?_
    try simp only [Act.put,pC,pD,pE,pF,pG,pH]
    refine Seq.take_ly (i:=13) rfl ?_
    try simp only [Act.put,pC,pD,pE,pF,pG,pH]
    refine Seq.take_ly (i:=14) rfl ?_
    try simp only [Act.put,pC,pD,pE,pF,pG,pH]
    refine wpAnyH_done (by kernel_rfl) ?_ _
    go_upto_region 14 with fail
    refine Seq.q1t (by kernel_rfl) (fun wd hd=>?_)
    refine Seq.take_ly (i:=0) rfl ?_
    try simp only [Act.put,pC,pD,pE,pF,pG]
    refine Seq.take_ly (i:=1) rfl ?_
    try simp only [Act.put,pC,pD,pE,pF,pG,pH]
    refine Seq.take_lx (i:=2) (v:=.string (strOfNums C)) rfl (fun w' hLat=>q3b (.tmp 61) rfl rfl ((H6.out.2.below hd).below hLat)) ?_
    try simp only [Act.put,pC,pD,pE,pF,pG,pH]
    refine Seq.take_ly (i:=3) rfl ?_
    try simp only [Act.put,pC,pD,pE,pF,pG,pH]
    refine Seq.take_ly (i:=4) rfl ?_
    try simp only [Act.put,pC,pD,pE,pF,pG,pH]
    refine Seq.take_ly (i:=5) rfl ?_
    try simp only [Act.put,pC,pD,pE,pF,pG,pH]
    refine wpAnyH_done (by kernel_rfl) ?_ _
    go_wp2
    go_ret3
    exact ⟨rfl,q0a H6.out.1.bel hd⟩
theorem z7k (K L:List Int) (p:Int) (n:Nat) (hL:Byt L) (hl:L.length=192) (hn:n=160∨n=176) (h:¬Fit L n) (w:World):
  Calls Tryz.prog 58 #[.agg (u8s K),.int .u32 p,.string (strOfNums L),.int .i64 (n:Int)] w fun e w'=>e=.returned (.tuple #[.int .u64 0,.string ByteArray.empty,.int .i64 11])/\Below w.heap.size w w':=by
 have hs:(strOfNums L).size=192:=by rw [q1w,hl]
 have HCs:Box (∀x,∃c w',(convert 9 57 (.string (strOfNums L))).run Tryz.prog x=.ok (.slice (some ⟨x.heap.size,0,none⟩) 192 c) w'/\Bytes w' (some ⟨x.heap.size,0,none⟩) 192 L/\Below x.heap.size x w'):=⟨fun x=>by
  have:=q5q x L hL
  rwa [hl] at this⟩
 have C1:Box (∀x a c,Bytes x a 192 L->Calls Tryz.prog 86 #[.slice a 192 c,.int .i64 0,.int .i64 8] x fun e w'=>e=.returned (.tuple #[.int .u64 (num L 0 8),.int .i64 0])/\x=w'):=⟨fun x a c hB=>z0t a 192 c L 0 8 x hB (by unfold maxLen;omega) (by omega) (by omega) (by omega)⟩
 have HI:Box (∀i:Nat,i<192->∀x,(Instr.index 9 (.string (strOfNums L)) (.int .i64 (i:Int))).run Tryz.prog x=.ok (.int .u8 (L.getD i 0)) x):=⟨fun i hi x=>q5h L hL i (by omega) x⟩
 by_cases h0:num L 0 8=0
 ·rcases hn with rfl | rfl
  ·exact z2m K p _ L hs _ rfl _ HCs C1 h0 w
  ·exact z3l K p _ L hs _ rfl _ HCs C1 h0 w
 ·by_cases h1:num L 0 8=18446744073709551615
  ·rcases hn with rfl | rfl
   ·exact z2e K p _ L hs _ rfl _ HCs C1 h1 w
   ·exact z1v K p _ L hs _ rfl _ HCs C1 h1 w
  ·obtain ⟨i,hi⟩:=Classical.not_forall.1 (fun hh=>h ⟨h0,h1,hh⟩)
   have hi1:8+n<=i:=Classical.byContradiction fun hx=>hi fun h=>absurd h hx
   have hi2:i<192:=Classical.byContradiction fun hx=>hi fun _ h=>absurd h hx
   have hi3:¬L.getD i 0=0:=fun hx=>hi fun _ _=>hx
   rcases hn with rfl | rfl
   ·exact z3j K p _ L hs _ rfl _ HCs C1 h0 h1 168 rfl HI i hi1 hi2 hi3 w
   ·exact z2k K p _ L hs _ rfl _ HCs C1 h0 h1 184 rfl HI i hi1 hi2 hi3 w
theorem ropen_ok (K L:List Int) (p:Int) (n:Nat) (hKl:K.length=32) (hKb:Byt K) (hp:W32 p) (hL:Byt L) (hl:L.length=192) (hn:n=160∨n=176) (h:Fit L n) (w:World):
  Calls Tryz.prog 58 #[.agg (u8s K),.int .u32 p,.string (strOfNums L),.int .i64 (n:Int)] w fun e w'=>e=.returned (.tuple #[.int .u64 (num L 0 8),.string (strOfNums (op K p L n)),.int .i64 0])/\Below w.heap.size w w':=by
 have hs:(strOfNums L).size=192:=by rw [q1w,hl]
 have HCs:Box (∀x,∃c w',(convert 9 57 (.string (strOfNums L))).run Tryz.prog x=.ok (.slice (some ⟨x.heap.size,0,none⟩) 192 c) w'/\Bytes w' (some ⟨x.heap.size,0,none⟩) 192 L/\Below x.heap.size x w'):=⟨fun x=>by
  have:=q5q x L hL
  rwa [hl] at this⟩
 have C1:Box (∀x a c,Bytes x a 192 L->Calls Tryz.prog 86 #[.slice a 192 c,.int .i64 0,.int .i64 8] x fun e w'=>e=.returned (.tuple #[.int .u64 (num L 0 8),.int .i64 0])/\x=w'):=⟨fun x a c hB=>z0t a 192 c L 0 8 x hB (by unfold maxLen;omega) (by omega) (by omega) (by omega)⟩
 have HI:Box (∀i:Nat,i<192->∀x,(Instr.index 9 (.string (strOfNums L)) (.int .i64 (i:Int))).run Tryz.prog x=.ok (.int .u8 (L.getD i 0)) x):=⟨fun i hi x=>q5h L hL i (by omega) x⟩
 have hMl:((L.take (8+n)).drop 8).length=n:=by rw [List.length_drop,List.length_take,hl];omega
 have hMb:Byt ((L.take (8+n)).drop 8):=q8b _ _ (q8g _ _ hL)
 have hss:∀x,(Instr.sliceAt 9 (.string (strOfNums L)) (some (.int .i64 8)) (some (.int .i64 ((8+n:Nat):Int))) none).run Tryz.prog x=.ok (.string (strOfNums ((L.take (8+n)).drop 8))) x:=fun x=>slice_str L 8 (8+n) (by omega) (by omega) x
 have HCv:Box (∀x,∃c w',(convert 9 57 (.string (strOfNums ((L.take (8+n)).drop 8)))).run Tryz.prog x=.ok (.slice (some ⟨x.heap.size,0,none⟩) n c) w'/\Bytes w' (some ⟨x.heap.size,0,none⟩) n ((L.take (8+n)).drop 8)/\Below x.heap.size x w'):=⟨fun x=>by
  have:=q5q x _ hMb
  rwa [hMl] at this⟩
 have C3:Box (∀x,Calls Tryz.prog 77 #[.int .u32 p,.int .u64 (num L 0 8)] x fun e w'=>e=.returned (.agg (u8s (non p (num L 0 8))))/\Below x.heap.size x w'):=⟨fun x=>z0b p _ x hp (num8 L hL)⟩
 have C2:Box (∀x a c,Below w.heap.size w x->Bytes x a n ((L.take (8+n)).drop 8)->Calls Tryz.prog 76 #[.agg (u8s K),.int .u32 0,.agg (u8s (non p (num L 0 8))),.slice a n c] x fun e w'=>∃a' c',e=.returned (.tuple #[.slice a' n c',.int .i64 0])/\Bytes w' a' n (op K p L n)/\Below x.heap.size x w'):=⟨fun x a c hx hB=>z2s a n c K _ _ 0 x hKb hKl (z4c p _) (q4p p _) ⟨by omega,by omega⟩ hB (by omega) (by omega)⟩
 rcases hn with rfl | rfl
 ·exact z6w K p _ L hs _ rfl _ HCs C1 _ _ _ _ hKl h.1 h.2.1 168 rfl HI h.2.2 hss w 160 HCv C3 C2
 ·exact z8f K p _ L hs _ rfl _ HCs C1 _ _ _ _ hKl h.1 h.2.1 184 rfl HI h.2.2 hss w 176 HCv C3 C2
end Go.Proofs.YtjejnlebpcjidaaGreatDoor.Seal
