/-
 ReplayLoads, of what comes in.
-/
import Derived.Test.YtjejnlebpcjidaaGreatDoorQ43
set_option linter.unusedVariables false
set_option maxRecDepth 100000
set_option maxRecDepth 100000
namespace Go.Proofs.YtjejnlebpcjidaaGreatDoor
open Go.RowKit Plain
theorem q8j (K:List Int) (sz:Int) (a:Option Addr) (n cap:Nat) (s:Jst) (od sl ix ov:Int) (w:World) (hT:Dig.Tabs w) (hT2:Seal.Tab w) (hn:¬n<=6) (hm:n<=9223372036854775807):
  Calls Tryz.prog 3 #[.agg (u8s K),.int .u8 sz,.slice a n cap,.agg (sa s),.int .u8 od,.int .i64 sl,.int .i64 ix,.int .u8 ov] w fun e w'=>e=.returned (.bool true)/\Below w.heap.size w w':=by
 obtain ⟨AK,hAK⟩:=nm (u8s K)
 obtain ⟨SA,hSA⟩:=nm (sa s)
 rw [hAK,hSA]
 obtain ⟨w1,hw1⟩:=nm ((w.alloc (.cells AK 23)).alloc (.cells SA 27))
 have hb1:Below w.heap.size w w1:=by rw [<-hw1];exact ((Below.refl _ _).alloc (Nat.le_refl _) _).alloc (by simp) _
 have HA:Box (Calls Tryz.prog 5 #[] w1 fun e w'=>e=.returned (.bool true)/\Below w1.heap.size w1 w'):=⟨z3e w1 (hT.below hb1) (hT2.below hb1)⟩
 have HB:Box (Below w.heap.size w w1):=⟨hb1⟩
 have hg:decide ((6:Int)<(n:Int))=true:=by simp;omega
 have hg2:(6:Int)<(n:Int):=by omega
 clear hT hT2 hb1 hAK hSA
 go_enter Tryz.func3,Tryz.ntmps3
 go_upto_region 1 with fail
 (try rw [hw1])
 clear hw1
 go_wp2_with (go_at_call 5;refine HA.out.mono ?_;rintro e x1 ⟨rfl,hb⟩;have H1:Box (Below w1.heap.size w1 x1):=⟨hb⟩;clear hb)
 go_ret
 exact ⟨rfl,q0a HB.out H1.out⟩
theorem q7y (K:List Int) (a1:Int) (a:Option Addr) (cap:Nat) (C:List Sx) (s:Jst) (a4 a5 a6 a7:Int) (w:World) (hT:Dig.Tabs w) (hT2:Seal.Tab w) (hl:K.length=32) (hK:Byt K) (w1:(Lit.int .u8 a1).wf=true) (h:Igss w a C) (y:C.length<=maxLen) (hs:OkS s) (w4:(Lit.int .u8 a4).wf=true) (w5:(Lit.int .i64 a5).wf=true) (w6:(Lit.int .i64 a6).wf=true) (w7:(Lit.int .u8 a7).wf=true):
  Calls Tryz.prog 3 #[.agg (u8s K),.int .u8 a1,.slice a C.length cap,.agg (sa s),.int .u8 a4,.int .i64 a5,.int .i64 a6,.int .u8 a7] w fun e w'=>e=.returned (.bool true)/\Below w.heap.size w w':=by
 have b1:=bounds_u8 w1
 have b4:=bounds_u8 w4
 have b6:=bounds_i64 w6
 have b7:=bounds_u8 w7
 obtain ⟨x1,rfl⟩:=Int.eq_ofNat_of_zero_le b1.1
 obtain ⟨x4,rfl⟩:=Int.eq_ofNat_of_zero_le b4.1
 obtain ⟨x7,rfl⟩:=Int.eq_ofNat_of_zero_le b7.1
 unfold maxLen at y
 by_cases h6:C.length<=6
 ·exact q7x K ⟨hl,hK⟩ x1 (by omega) a cap C s hs x4 (by omega) a5 a6 (by omega) x7 (by omega) w hT hT2 h h6
 ·exact q8j K _ a C.length cap s _ _ _ _ w hT hT2 h6 (by omega)
end Go.Proofs.YtjejnlebpcjidaaGreatDoor
