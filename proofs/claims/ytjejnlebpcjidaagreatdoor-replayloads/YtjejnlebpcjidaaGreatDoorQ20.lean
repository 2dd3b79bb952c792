/-
 What the Go functions same, Bytes, Choose and Find of package equal answer, for every argument.
-/
import Derived.Test.YtjejnlebpcjidaaGreatDoorRows
import Derived.WalkKit
import Derived.WalkSpells
import Derived.WalkLawsBesides
import Derived.Test.YtjejnlebpcjidaaGreatDoorQ00
set_option linter.unusedVariables false
set_option maxRecDepth 100000
set_option maxRecDepth 100000
namespace Go.Proofs.YtjejnlebpcjidaaGreatDoor
open Go.RowKit Plain
set_option maxHeartbeats 400000 in
theorem z8c (a b:Option Addr) (la ca lb cb:Nat) (A B:List Int) (w:World) (hA:A.length=la) (hB:B.length=lb) (hla:la<=9223372036854775807) (hlb:lb<=9223372036854775807) (h:la≠lb):
  Calls Tryz.prog 81 #[.slice a la ca,.slice b lb cb] w fun e w'=>e=.returned (.int .u64 (sm A B))/\w=w':=by
 rw [sm_len A B (by omega)]
 have hd:¬(la:Int)=(lb:Int):=by omega
 go_enter Tryz.func81,Tryz.ntmps81
 go_wp2
 go_ret
 exact ⟨rfl,rfl⟩
set_option maxHeartbeats 400000 in
theorem same_long (a b:Option Addr) (n ca cb:Nat) (A B:List Int) (w:World) (hA:Bytes w a n A) (hB:Bytes w b n B) (hn:n<=9223372036854775807):
  Calls Tryz.prog 81 #[.slice a n ca,.slice b n cb] w fun e w'=>e=.returned (.int .u64 (sm A B))/\w=w':=by
 have HE:Box (IntKind.u64.wrap (unl A B n-1) / 9223372036854775808=sm A B):=⟨sm_end A B hA.2.1 hB.2.1 n hA.1 hB.1⟩
 have HA:Box (Bytes w a n A):=⟨hA⟩
 have HB:Box (Bytes w b n B):=⟨hB⟩
 clear hA hB
 go_enter Tryz.func81,Tryz.ntmps81
 go_wp2
 go_loop [5,15] (fun t i=>∃k:Nat,k<=n/\i=.int .i64 k/\t=.int .u8 (unl A B k)) (fun _ i=>n-(intOf i).toNat)
 case atStart=>exact ⟨0,Nat.zero_le _,rfl,rfl⟩
 case round=>
  obtain ⟨k,hk,rfl,rfl⟩:=hrel
  by_cases hlt:k<n
  ·obtain ⟨b1,o1,e1,_,c1⟩:=HA.out.2.2 (by omega)
   obtain ⟨b2,o2,e2,_,c2⟩:=HB.out.2.2 (by omega)
   subst e1 e2
   have d1:=c1 k hlt
   have d2:=c2 k hlt
   clear c1 c2
   have hs:Box (bits .or .u8 (unl A B k) (bits .xor .u8 (A.getD k 0) (B.getD k 0))=unl A B (k+1)):=⟨rfl⟩
   generalize A.getD k 0=x at d1 hs
   generalize B.getD k 0=y at d2 hs
   generalize unl A B k=t at hs
   go_wp2
   go_round
   case rel=>exact ⟨k+1,by omega,by go_num,by rw [hs.out]⟩
   case measure=>simp [intOf];omega
  ·obtain rfl:k=n:=by omega
   have hu:=unl_bd A B k
   generalize unl A B k=t at hu HE
   go_wp2
   go_ret
   exact ⟨by rw [<-HE.out];rfl,rfl⟩
theorem same_any (a b:Option Addr) (la ca lb cb:Nat) (A B:List Int) (w:World) (hA:Bytes w a la A) (hB:Bytes w b lb B) (hla:la<=9223372036854775807) (hlb:lb<=9223372036854775807):
  Calls Tryz.prog 81 #[.slice a la ca,.slice b lb cb] w fun e w'=>e=.returned (.int .u64 (sm A B))/\w=w':=by
 by_cases h:la=lb
 ·subst h
  exact same_long a b la ca cb A B w hA hB hla
 ·exact z8c a b la ca lb cb A B w hA.1 hB.1 hla hlb h
set_option maxHeartbeats 400000 in
theorem bytes_any (a b:Option Addr) (la ca lb cb:Nat) (A B:List Int) (w:World) (hA:Bytes w a la A) (hB:Bytes w b lb B) (hla:la<=9223372036854775807) (hlb:lb<=9223372036854775807):
  Calls Tryz.prog 55 #[.slice a la ca,.slice b lb cb] w fun e w'=>e=.returned (.bool (decide (A=B)))/\w=w':=by
 have HS:Box (Calls Tryz.prog 81 #[.slice a la ca,.slice b lb cb] w fun e w'=>e=.returned (.int .u64 (sm A B))/\w=w'):=⟨same_any a b la ca lb cb A B w hA hB hla hlb⟩
 rw [<-sm_one A B]
 generalize sm A B=s at HS ⊢
 clear hA hB
 go_enter Tryz.func55,Tryz.ntmps55
 go_wp2_with (go_at_call 81;refine Calls.mono HS.out ?_;rintro e w' ⟨rfl,rfl⟩)
 go_ret
 exact ⟨rfl,rfl⟩
end Go.Proofs.YtjejnlebpcjidaaGreatDoor
