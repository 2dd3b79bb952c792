/-
 The disk's Tamper and Read, and the reference's, side by side. And what follows it.
-/
import Derived.Test.YtjejnlebpcjidaaGreatDoorQ01
import Derived.Test.YtjejnlebpcjidaaGreatDoorQ11
import Derived.Test.YtjejnlebpcjidaaGreatDoorQ12
import Derived.Test.YtjejnlebpcjidaaGreatDoorQ34
import Derived.Test.YtjejnlebpcjidaaGreatDoorQ21
set_option linter.unusedVariables false
set_option maxRecDepth 100000
set_option maxRecDepth 100000
namespace Go.Proofs.YtjejnlebpcjidaaGreatDoor.Disk
open Go.RowKit Go.Proofs.YtjejnlebpcjidaaGreatDoor.Plain Go.Proofs.YtjejnlebpcjidaaGreatDoor.Disk.Plain
set_option maxRecDepth 20000 in
set_option maxHeartbeats 1000000 in
theorem del_any (w:World) (p i S:Nat) (b:List Int) (hS:w.cell? ⟨S,0,none⟩=some (.int .i64 (i:Int))):
  Calls Tryz.prog 49 #[.agg (wc (p,b)).toArray,.pointer (some ⟨S,0,none⟩)] w fun e w'=>e=.returned (.bool (decide (p=i)))/\Below w.heap.size w w':=by
 have c0:(w.alloc (.cells (wc (p,b)).toArray 118)).cell? ⟨w.heap.size,0,none⟩=some (.int .i64 (p:Int)):=(z5s (q0g rfl)).1
 have cS:(w.alloc (.cells (wc (p,b)).toArray 118)).cell? ⟨S,0,none⟩=some (.int .i64 (i:Int)):=q6g _ hS
 have HE:Box (((p:Int)==(i:Int))=decide (p=i)):=⟨by
  by_cases h:p=i
  ·subst h;simp
  ·have h2:¬((p:Int)=(i:Int)):=by omega
   simp [h,h2]⟩
 have hb:Box (Below w.heap.size w (w.alloc (.cells (wc (p,b)).toArray 118))):=⟨(Below.refl _ _).alloc (Nat.le_refl _) _⟩
 clear hS
 go_enter Tryz.func49,Tryz.ntmps49
 go_wp2
 go_ret
 exact ⟨by rw [<-HE.out];rfl,hb.out⟩
set_option maxRecDepth 20000 in
set_option maxHeartbeats 2000000 in
theorem index_any (w:World) (a:Option Addr) (cap S i:Nat) (L:List (Nat × List Int)) (hL:Lens L) (hW:Ways w.heap.size w a L) (hl:L.length<1000000) (hS:w.cell? ⟨S,0,none⟩=some (.int .i64 (i:Int))):
  Calls Tryz.prog 80 #[.slice a L.length cap,.func (.func 49) #[] #[.pointer (some ⟨S,0,none⟩)]] w fun e w'=>Below w.heap.size w w'/\((e=.returned (.int .i64 (-1))/\∀j (h:j<L.length),L[j].1≠i)∨∃k:Nat,e=.returned (.int .i64 (k:Int))/\fst L i k):=by
 have HW:Box (Ways w.heap.size w a L):=⟨hW⟩
 have HS:Box (w.cell? ⟨S,0,none⟩=some (.int .i64 (i:Int))):=⟨hS⟩
 have hl2:L.length<9223372036854775807:=by omega
 clear hW hS
 go_enter Tryz.func80,Tryz.ntmps80
 go_wp2
 go_loopw [8] (fun j wr=>∃k:Nat,k<=L.length/\j=.int .i64 k/\Box (Below w.heap.size w wr/\∀q (h:q<L.length),q<k->L[q].1≠i)) (fun j _=>L.length-(intOf j).toNat)
 case atStart=>exact ⟨0,Nat.zero_le _,rfl,⟨Below.refl _ _,fun q _ hq=>by omega⟩⟩
 case round=>
  obtain ⟨k,hk,rfl,HI⟩:=hrel
  by_cases hlt:k<L.length
  ·obtain ⟨g,rfl,hg,hr⟩:=HW.out.below HI.out.1 (show 0<L.length by omega)
   have hrk:=hr k hlt
   have hlen:=hL L[k] (List.getElem_mem hlt)
   have hS2:wr.cell? ⟨S,0,none⟩=some (.int .i64 (i:Int)):=(HI.out.1.cell (p:=⟨S,0,none⟩) (World.block_lt_of_cell? w _ HS.out)).trans HS.out
   have HD:Box (Calls Tryz.prog 49 #[.agg (wc L[k]).toArray,.pointer (some ⟨S,0,none⟩)] wr fun e w'=>e=.returned (.bool (decide (L[k].1=i)))/\Below wr.heap.size wr w'):=⟨del_any wr L[k].1 i S L[k].2 hS2⟩
   have Hr:Box (wr.rangeAt g (k*193) (wc L[k])):=⟨hrk⟩
   have Hi:Box ((Tryz.prog.info? 118).map (·.size)=some (wc L[k]).length):=⟨by rw [q1d _ hlen];exact info84⟩
   have HX:Box (∀x,L[k].1=i ↔ L[k].1=i):=⟨fun _=>Iff.rfl⟩
   obtain ⟨x,hx⟩:=nm (L[k])
   rw [hx] at HD Hr Hi
   have Hx:Box (L[k]=x):=⟨hx⟩
   clear hr hrk hlen hS2 hx HX
   by_cases hp:x.1=i
   ·rw [show decide (x.1=i)=true by simpa using hp] at HD
    go_wp2_with (first
     | (refine wpList_load_mid rfl 118 _ rfl g (k*193) rfl (wc x) _ Hr.out Tryz.underlying118 rfl Hi.out ?_)
     | (go_at_call 49;refine HD.out.mono ?_;rintro e w3 ⟨rfl,hb3⟩;have B3:Box _:=⟨hb3⟩;clear hb3))
    go_ret
    exact ⟨HI.out.1.trans (B3.out.mono HI.out.1.size),.inr ⟨k,rfl,hlt,fun _=>by rw [Hx.out];exact hp,fun q hq hqk=>HI.out.2 q hq hqk⟩⟩
   ·rw [show decide (x.1=i)=false by simpa using hp] at HD
    go_wp2_with (first
     | (refine wpList_load_mid rfl 118 _ rfl g (k*193) rfl (wc x) _ Hr.out Tryz.underlying118 rfl Hi.out ?_)
     | (go_at_call 49;refine HD.out.mono ?_;rintro e w3 ⟨rfl,hb3⟩;have B3:Box _:=⟨hb3⟩;clear hb3))
    exact ⟨⟨k+1,by omega,by simp,⟨HI.out.1.trans (B3.out.mono HI.out.1.size),fun q hq hqk=>by
     by_cases e:q=k
     ·subst e;rw [Hx.out];exact hp
     ·exact HI.out.2 q hq (by omega)⟩⟩,by simp [intOf];omega⟩
  ·obtain rfl:k=L.length:=by omega
   go_wp2
   go_ret
   exact ⟨HI.out.1,.inl ⟨rfl,fun j h=>HI.out.2 j h h⟩⟩
set_option maxRecDepth 20000 in
set_option maxHeartbeats 2000000 in
theorem z4p (w:World) (g cap S i k0:Nat) (cur:Array Value) (L:List (Nat × List Int)) (hL:Lens L) (hg:w.heap[g]?=some (.cells cur 118 (0,0))) (hc:L.length<=cap) (hm:cap<=maxLen) (hs:cur.size=cap*193) (htk:cur.toList.take (L.length*193)=wcs L) (hl:L.length<1000000) (hS:w.cell? ⟨S,0,none⟩=some (.int .i64 (i:Int))) (hSg:S≠g)
  (HIx:Box (Calls Tryz.prog 80 #[.slice (some ⟨g,0,none⟩) L.length cap,.func (.func 49) #[] #[.pointer (some ⟨S,0,none⟩)]] w fun e w'=>Below w.heap.size w w'/\e=.returned (.int .i64 (k0:Int)))) (hk:fst L i k0):
  Calls Tryz.prog 48 #[.slice (some ⟨g,0,none⟩) L.length cap,.func (.func 49) #[] #[.pointer (some ⟨S,0,none⟩)]] w fun e w'=>
   e=.returned (.slice (some ⟨g,0,none⟩) (oth i L).length cap)/\w'.ownsRow 0 118 193 (.slice (some ⟨g,0,none⟩) (oth i L).length cap) (oth i L).length (wcs (oth i L))/\Turned (fun k=>k=g) w w':=by
 have hk0:=hk.1
 have hne:((k0:Int)==-1)=false:=by
  simp
 have HS:Box (∀wx,But g w wx->wx.cell? ⟨S,0,none⟩=some (.int .i64 (i:Int))):=⟨fun wx hb=>q2y hb hS hSg⟩
 have HK:Box (fst L i k0):=⟨hk⟩
 have HT:Box (cur.toList.take (L.length*193)=wcs L):=⟨htk⟩
 have HG:Box (∀wx,Below w.heap.size w wx->Dl w wx g cur i (k0+1) L):=⟨fun wx hb=>by
  refine ⟨⟨cur,(hb.block g (gE hg)).trans hg,rfl,?_,rfl⟩,But.of_below hb⟩
  rw [z2a i L k0 hk,List.length_take,Nat.min_eq_left (by omega),<-wcs_take L hL k0 (by omega),<-htk,List.take_take,Nat.min_eq_left (Nat.mul_le_mul_right _ (by omega))]⟩
 have HC:Box (L.length<=cap/\cap<=maxLen/\cur.size=cap*193):=⟨hc,hm,hs⟩
 have Ho:Box ((oth i (L.take (k0+1))).length=k0):=⟨by rw [z2a i L k0 hk,List.length_take];omega⟩
 have hl2:L.length<9223372036854775807:=by omega
 clear hg htk hS hk hc hm hs
 go_enter Tryz.func48,Tryz.ntmps48
 go_wp2_with (go_at_call 80;refine HIx.out.mono ?_;rintro e w1 ⟨hb1,rfl⟩;have D1:Box _:=⟨HG.out _ hb1⟩;clear hb1)
 have h0:(oth i (L.take (k0+1))).length<k0+1:=by rw [Ho.out];omega
 have HJ:Box (∀j,k0+1<=j->(oth i (L.take j)).length<j):=⟨fun j hj=>by
  obtain ⟨m,rfl⟩:∃m,j=k0+1+m:=⟨j-(k0+1),by omega⟩
  clear hj
  induction m with
  | zero=>exact h0
  | succ m ih=>
   by_cases hlt:k0+1+m<L.length
   ·rw [<-Nat.add_assoc,q7c i L _ hlt,List.length_append]
    split<;>simp<;>omega
   ·have:=z0q i (L.take (k0+1+(m+1)))
    rw [List.length_take] at this
    omega⟩
 clear HG h0
 go_loopw [5,6] (fun iv jv wr=>∃j:Nat,j<=L.length/\k0+1<=j/\jv=.int .i64 j/\iv=.int .i64 ((oth i (L.take j)).length:Int)/\Box (Dl w wr g cur i j L)) (fun _ jv _=>L.length-(intOf jv).toNat)
 case atStart=>exact ⟨k0+1,by omega,Nat.le_refl _,by simp,by rw [Ho.out],D1⟩
 case round=>
  clear D1
  obtain ⟨j,hj,hkj,rfl,rfl,HI⟩:=hrel
  have hoj:=HJ.out j hkj
  by_cases hlt:j<L.length
  ·have hrj:Box (wr.rangeAt g (j*193) (wc L[j])):=⟨HI.out.at_ hL hlt HT.out⟩
   have hlen:=hL L[j] (List.getElem_mem hlt)
   have hz:(wc (0,z192)).toArray.size=(wc L[j]).length:=by rw [q1d _ hlen];exact q1d _ q0y
   have HN:Box _:=⟨z0j wr (wc (0,z192)).toArray 118 (wc L[j]) hz⟩
   have Hi:Box ((Tryz.prog.info? 118).map (·.size)=some (wc L[j]).length):=⟨by rw [q1d _ hlen];exact info84⟩
   have Hi2:Box ((Tryz.prog.info? 118).map (·.size)=some (wc L[j]).toArray.size):=⟨by rw [List.size_toArray,q1d _ hlen];exact info84⟩
   have Ht:Box ((wr.alloc (.cells (wc (0,z192)).toArray 118)).there wr.heap.size 0 (wc L[j]).toArray.size):=⟨q0z (q0g rfl) (by rw [hz];simp)⟩
   have HD:Box (∀wx,Below wr.heap.size wr wx->Calls Tryz.prog 49 #[.agg (wc L[j]).toArray,.pointer (some ⟨S,0,none⟩)] wx fun e w'=>e=.returned (.bool (decide (L[j].1=i)))/\Below wx.heap.size wx w'):=⟨fun wx hb=>del_any wx L[j].1 i S L[j].2 (HS.out wx (HI.out.but.trans (But.of_below hb)))⟩
   have hfit:j*193<=cur.size:=by rw [HC.out.2.2];exact Nat.mul_le_mul_right _ (by have:=HC.out.1;omega)
   have HM:Box (∀wx,Below wr.heap.size wr wx->L[j].1≠i->Dl w (wx.setCells g ((oth i (L.take j)).length*193) (wc L[j]).toArray.toList) g cur i (j+1) L/\(oth i (L.take (j+1))).length=(oth i (L.take j)).length+1):=⟨fun wx hb hne=>HI.out.move hL hb hlt hoj hfit hne⟩
   have HSk:Box (∀wx,Below wr.heap.size wr wx->L[j].1=i->Dl w wx g cur i (j+1) L/\oth i (L.take (j+1))=oth i (L.take j)):=⟨fun wx hb he=>HI.out.skip hb hlt he⟩
   have HTg:Box (∀wx,Below wr.heap.size wr wx->wx.there g ((oth i (L.take j)).length*193) (wc L[j]).toArray.size):=⟨fun wx hb=>by
    obtain ⟨cs,h1,h2,_⟩:=HI.out.row
    refine q0z ((hb.block g (gE h1)).trans h1) ?_
    have hm:((oth i (L.take j)).length+1)*193<=j*193:=Nat.mul_le_mul_right _ hoj
    rw [List.size_toArray,q1d _ hlen,h2]
    omega⟩
   obtain ⟨x,hx⟩:=nm (L[j])
   rw [hx] at hrj HN Hi Hi2 Ht HD HM HSk HTg
   generalize hon:(oth i (L.take j)).length=on at HM HTg hoj ⊢
   have Hon:Box ((oth i (L.take j)).length=on):=⟨hon⟩
   clear hx hz hlen hfit HI hon HJ HT HS HIx
   by_cases hp:x.1=i
   ·rw [show decide (x.1=i)=true by simpa using hp] at HD
    go_wp2_with (first
     | (go_at_call 49;refine (HD.out _ HB.out.1).mono ?_;rintro e w3 ⟨rfl,hb3⟩;have B3:Box (Below wr.heap.size wr w3):=⟨HB.out.1.trans (hb3.mono HB.out.1.size)⟩;clear hb3)
     | (refine wpList_load_mid rfl 118 _ rfl wr.heap.size 0 rfl (wc x) _ HB.out.2 Tryz.underlying118 rfl Hi.out ?_)
     | (refine wpList_load_mid rfl 118 _ rfl g (j*193) rfl (wc x) _ hrj.out Tryz.underlying118 rfl Hi.out ?_)
     | (refine q0b rfl _ _ (q0e 118 rfl _ zero84) ?_)
     | (refine wpList_store_mid rfl 118 _ _ rfl wr.heap.size 0 (wc x).toArray rfl rfl Ht.out Hi2.out (all_oneCell_toArray (q6q _)) ?_;have HB:Box (Below wr.heap.size wr ((wr.alloc (.cells (wc (0,z192)).toArray 118)).setCells wr.heap.size 0 (wc x).toArray.toList)/\((wr.alloc (.cells (wc (0,z192)).toArray 118)).setCells wr.heap.size 0 (wc x).toArray.toList).rangeAt wr.heap.size 0 (wc x)):=⟨HN.out.1,z2b HN.out.2.2⟩;generalize (wr.alloc (.cells (wc (0,z192)).toArray 118)).setCells wr.heap.size 0 (wc x).toArray.toList=wx at HB ⊢;clear HN Ht))
    obtain ⟨q1,q2⟩:=HSk.out w3 B3.out hp
    exact ⟨⟨j+1,by omega,by omega,by simp,by rw [q2,Hon.out],⟨q1⟩⟩,by simp [intOf];omega⟩
   ·rw [show decide (x.1=i)=false by simpa using hp] at HD
    go_wp2_with (first
     | (refine wpList_store_mid rfl 118 _ _ rfl g (on*193) (wc x).toArray rfl rfl (HTg.out _ B3.out) Hi2.out (all_oneCell_toArray (q6q _)) ?_;have HF:Box _:=⟨HM.out _ B3.out hp⟩;generalize w3.setCells g (on*193) (wc x).toArray.toList=w4 at HF ⊢;clear HM)
     | (refine wpList_load_mid rfl 118 _ rfl wr.heap.size 0 rfl (wc x) _ R3.out Tryz.underlying118 rfl Hi.out ?_)
     | (go_at_call 49;refine (HD.out _ HB.out.1).mono ?_;rintro e w3 ⟨rfl,hb3⟩;have B3:Box (Below wr.heap.size wr w3):=⟨HB.out.1.trans (hb3.mono HB.out.1.size)⟩;have R3:Box (w3.rangeAt wr.heap.size 0 (wc x)):=⟨q2n HB.out.2 hb3⟩;clear hb3 HB)
     | (refine wpList_load_mid rfl 118 _ rfl wr.heap.size 0 rfl (wc x) _ HB.out.2 Tryz.underlying118 rfl Hi.out ?_)
     | (refine wpList_load_mid rfl 118 _ rfl g (j*193) rfl (wc x) _ hrj.out Tryz.underlying118 rfl Hi.out ?_)
     | (refine q0b rfl _ _ (q0e 118 rfl _ zero84) ?_)
     | (refine wpList_store_mid rfl 118 _ _ rfl wr.heap.size 0 (wc x).toArray rfl rfl Ht.out Hi2.out (all_oneCell_toArray (q6q _)) ?_;have HB:Box (Below wr.heap.size wr ((wr.alloc (.cells (wc (0,z192)).toArray 118)).setCells wr.heap.size 0 (wc x).toArray.toList)/\((wr.alloc (.cells (wc (0,z192)).toArray 118)).setCells wr.heap.size 0 (wc x).toArray.toList).rangeAt wr.heap.size 0 (wc x)):=⟨HN.out.1,z2b HN.out.2.2⟩;generalize (wr.alloc (.cells (wc (0,z192)).toArray 118)).setCells wr.heap.size 0 (wc x).toArray.toList=wx at HB ⊢;clear HN Ht))
    exact ⟨⟨j+1,by omega,by omega,by simp,by rw [HF.out.2];simp,⟨HF.out.1⟩⟩,by simp [intOf];omega⟩
  ·obtain rfl:j=L.length:=by omega
   rw [List.take_of_length_le (Nat.le_refl _)] at hoj ⊢
   have HX:Box _:=⟨HI.out.done hL HC.out.1 HC.out.2.1 HC.out.2.2 hoj⟩
   have hc:=HC.out.1
   have hs1:=z7j g L.length cap (oth i L).length hoj hc HC.out.2.1
   have hs2:=z7t g L.length cap (oth i L).length (by omega) hc (by omega)
   clear HI HJ HT HS HIx HC HK Ho
   generalize hon:(oth i L).length=on at hoj HX hs1 hs2 ⊢
   have Hon:Box ((oth i L).length=on):=⟨hon⟩
   clear hon
   go_wp2_with (refine z1y rfl _ rfl g (on*193) (L.length-on) (cap-on) (by omega) rfl HX.out.2.2 ?_)
   go_ret
   rw [Hon.out]
   exact ⟨rfl,HX.out.1,HX.out.2.1⟩
set_option maxRecDepth 20000 in
set_option maxHeartbeats 2000000 in
theorem delete_no (w:World) (a:Option Addr) (len cap S:Nat)
  (HIx:Box (Calls Tryz.prog 80 #[.slice a len cap,.func (.func 49) #[] #[.pointer (some ⟨S,0,none⟩)]] w fun e w'=>Below w.heap.size w w'/\e=.returned (.int .i64 (-1)))):
  Calls Tryz.prog 48 #[.slice a len cap,.func (.func 49) #[] #[.pointer (some ⟨S,0,none⟩)]] w fun e w'=>e=.returned (.slice a len cap)/\Below w.heap.size w w':=by
 go_enter Tryz.func48,Tryz.ntmps48
 go_wp2_with (go_at_call 80;refine HIx.out.mono ?_;rintro e w1 ⟨hb1,rfl⟩;have B1:Box _:=⟨hb1⟩;clear hb1)
 go_ret
 exact ⟨rfl,B1.out⟩
theorem z8g (w:World) (v:Value) (S i:Nat) (L:List (Nat × List Int)) (hL:Lens L) (hown:w.ownsRow 0 118 193 v L.length (wcs L)) (hl:L.length<1000000) (hS:w.cell? ⟨S,0,none⟩=some (.int .i64 (i:Int))) (hSg:v.ownBlock≠some S):
  Calls Tryz.prog 48 #[v,.func (.func 49) #[] #[.pointer (some ⟨S,0,none⟩)]] w fun e w'=>
   ∃v',e=.returned v'/\w'.ownsRow 0 118 193 v' (oth i L).length (wcs (oth i L))/\Turned (fun k=>v.ownBlock=some k) w w'/\∀k,v'.ownBlock=some k->v.ownBlock=some k:=by
 obtain ⟨a,cap,rfl⟩:=q0l hown
 have hix:=index_any w a cap S i L hL (own_ways hL hown) hl hS
 by_cases hall:∀j (h:j<L.length),L[j].1≠i
 ·refine (delete_no w a L.length cap S ⟨hix.mono ?_⟩).mono ?_
  ·rintro e w' ⟨h1,⟨h2,_⟩ | ⟨k,_,h3⟩⟩
   ·exact ⟨h1,h2⟩
   ·exact absurd (h3.2.1 h3.1) (hall k h3.1)
  ·rintro e w' ⟨rfl,hb⟩
   rw [oth_all i L hall]
   exact ⟨_,rfl,q0j hown (fun k hk=>hb.block k (hown.lt k hk).2),Turned.of_below hb,fun k hk=>hk⟩
 ·obtain ⟨k0,hk0⟩:∃k,fst L i k:=by
   have hex:∃j,∃h:j<L.length,L[j].1=i:=by
    apply Classical.byContradiction
    intro hn
    exact hall (fun j h e=>hn ⟨j,h,e⟩)
   obtain ⟨j,hj⟩:=hex
   obtain ⟨k,⟨hk1,hk2⟩,hk3⟩:=least (p:=fun j=>∃h:j<L.length,L[j].1=i) j hj
   exact ⟨k,hk1,fun _=>hk2,fun q hq hqk e=>hk3 q hqk ⟨hq,e⟩⟩
  have hpos:0<L.length:=by have:=hk0.1;omega
  rcases hown.2 with ⟨_,h0⟩ | ⟨g,cap',cur,h1,_,hg,hc,hm,hs,htk⟩
  ·omega
  ·simp only [Value.slice.injEq,true_and] at h1
   obtain ⟨rfl,rfl⟩:=h1
   have hSg':S≠g:=fun e=>hSg (by rw [e];rfl)
   refine (z4p w g cap S i k0 cur L hL hg hc hm hs htk hl hS hSg' ⟨hix.mono ?_⟩ hk0).mono ?_
   ·rintro e w' ⟨h1,⟨_,h3⟩ | ⟨k,h2,h3⟩⟩
    ·exact absurd (hk0.2.1 hk0.1) (h3 k0 hk0.1)
    ·rw [z7n h3 hk0] at h2
     exact ⟨h1,h2⟩
   ·rintro e w' ⟨rfl,h2,h3⟩
    exact ⟨_,rfl,h2,⟨h3.os,h3.tape,h3.output,h3.size,fun k hk hn=>h3.block k hk (fun e=>hn (by rw [e];rfl))⟩,fun k hk=>hk⟩
set_option maxRecDepth 20000 in
set_option maxHeartbeats 4000000 in
theorem tamper_ok (w:World) (D:Nat) (fp:Nat->Prop) (d:Dk) (h:Is w D fp d) (i:Nat) (a:Option Addr) (cap:Nat) (B:List Int) (hB:Bytes w a 192 B) (hap:∀ad,a=some ad->¬fp ad.block) (hi:i<d.n) (hu:d.uw.length<1000000):
  Calls Tryz.prog 17 #[.pointer (some ⟨D,0,none⟩),.int .i64 (i:Int),.slice a 192 cap] w fun e w'=>e=.returned (.int .i64 0)/\Nx D fp w w' (tpOk d i B):=by
 obtain ⟨P,uv,ov,h1,h2⟩:=h
 obtain ⟨S,HS⟩:∃S,Box (w.heap.size=S):=⟨_,⟨rfl⟩⟩
 have HBl:Box (Below w.heap.size w (w.alloc (.cells #[.int .i64 (i:Int)] 3))):=⟨(Below.refl _ _).alloc (Nat.le_refl _) _⟩
 have hA1:=h1.below HBl.out
 have H2:=z0d _ D P uv ov d hA1 i a 192 cap
 rw [show fit d i 192=0 by simp [fit,hsp,hi]] at H2
 have HH:Box _:=⟨H2⟩
 obtain ⟨bb,off,rfl,hbb,hcB⟩:=hB.2.2 (by omega)
 have hrng:w.rangeAt bb off (B.map (Value.int .u8)):=fun j v hv=>by
  have hj:j<B.length:=by simpa using (List.getElem?_eq_some_iff.1 hv).1
  rw [hcB j (by rw [<-hB.1];exact hj),<-hv]
  simp [hj]
 have hnf:¬foot D P uv ov bb:=fun hf=>hap _ rfl (h2 _ hf)
 obtain ⟨cs,hP,hPs⟩:=hA1.hp
 have hfit:i*192+192<=cs.size:=by
  rw [hPs.1,Nat.mul_comm,<-Nat.mul_succ]
  exact Nat.mul_le_mul_left _ hi
 have hPl:=h1.lt P (.inr (.inl rfl))
 have HTp:Box (Tp (w.alloc (.cells #[.int .i64 (i:Int)] 3)) D P S d.n i B bb off):=⟨⟨hA1.cells.1,h1.neP,by rw [<-HS.out,cell_of_row _ _ _ _ _ _ (q0g rfl)];rfl,by have:=HS.out;omega,World.rangeAt_alloc hrng _,fun e=>hnf (.inr (.inl e)),by rw [List.length_map,hB.1];exact info79,by rw [q0h,hB.1];exact info79,q0z hP (by rw [q0h,hB.1];exact hfit)⟩⟩
 have HF:Box (∀k,foot D P uv ov k->fp k):=⟨h2⟩
 have HIn:Box (i<d.n):=⟨hi⟩
 have HA:Box (At w D P uv ov d):=⟨h1⟩
 have HL:Box (d.uw.length<1000000/\Lens d.uw):=⟨hu,h1.lens⟩
 have HBy:Box (B.length=192/\Byt B):=⟨hB.1,hB.2.1⟩
 have ci:(w.alloc (.cells #[.int .i64 (i:Int)] 3)).cell? ⟨w.heap.size,0,none⟩=some (.int .i64 (i:Int)):=by rw [cell_of_row _ _ _ _ _ _ (q0g rfl)];rfl
 clear h1 h2 hA1 H2 hB hap hi hu hcB hrng hnf hP hPs hfit hPl
 go_enter Tryz.func17,Tryz.ntmps17
 go_upto_region 6 with (go_at_call 47;refine HH.out.mono ?_;rintro e w' ⟨rfl,rfl⟩)
 have HB2:Box (Below w.heap.size w (w.alloc (.cells #[.int .i64 (i:Int)] 3)).drew):=⟨HBl.out.drew⟩
 clear HBl HH ci
 rw [HS.out]
 generalize w.alloc (.cells #[.int .i64 (i:Int)] 3)=w1 at HTp HB2 ⊢
 rename_i KK ax
 refine z3h (P) (by kernel_rfl) (fun wd hwd=>?_)
 have GF:Box (Tp wd D P S d.n i B bb off):=⟨HTp.out.drew hwd⟩
 have hin:i<d.n:=HIn.out
 refine q2e (i:=0) (v:=?_) rfl (by kernel_rfl) (by kernel_rfl) (by kernel_rfl) (fun _ _ _ h=>h) (by rfl) ?_ ?_
 rotate_left
 ·intro w' hB;clear hB;go_simp<;>with_reducible rfl
 try simp only [Act.put,pC,pD,pE,pF,pG]
 refine q2e (i:=1) (v:=?_) rfl (by kernel_rfl) (by kernel_rfl) (by kernel_rfl) (fun _ _ _ h=>h) (by rfl) ?_ ?_
 rotate_left
 ·intro w' hB;clear hB;go_simp<;>with_reducible rfl
 try simp only [Act.put,pC,pD,pE,pF,pG,pH]
 refine q2e (i:=2) (v:=?_) rfl (by kernel_rfl) (by kernel_rfl) (by kernel_rfl) (fun _ _ _ h=>h) (by rfl) ?_ ?_
 rotate_left
 ·intro w' hB;clear hB;go_simp<;>with_reducible rfl
 try simp only [Act.put,pC,pD,pE,pF,pG,pH]
 refine q2e (i:=3) (v:=.slice (some ⟨P,0,none⟩) d.n d.n) rfl (by kernel_rfl) (by kernel_rfl) (by kernel_rfl) (fun _ _ _ h=>h) (by rfl) (fun w' hB=>q0w 81 _ _ rfl Tryz.underlying81 rfl _ rfl _ (q2y hB GF.out.c0 GF.out.n0)) ?_
 try simp only [Act.put,pC,pD,pE,pF,pG,pH]
 refine q2e (i:=4) (v:=.int .i64 (i:Int)) rfl (by kernel_rfl) (by kernel_rfl) (by kernel_rfl) (fun _ _ _ h=>h) (by rfl) (fun w' hB=>q0w 3 _ _ rfl Tryz.underlying3 rfl _ rfl _ (q2y hB GF.out.ci GF.out.ni)) ?_
 try simp only [Act.put,pC,pD,pE,pF,pG,pH]
 refine q2e (i:=5) (v:=?_) rfl (by kernel_rfl) (by kernel_rfl) (by kernel_rfl) (fun _ _ _ h=>h) (by rfl) ?_ ?_
 rotate_left
 ·intro w' hB;clear hB;go_simp<;>with_reducible rfl
 try simp only [Act.put,pC,pD,pE,pF,pG,pH]
 refine q2e (i:=6) (v:=.pointer (some ⟨bb,off,none⟩)) rfl (by kernel_rfl) (by kernel_rfl) (by kernel_rfl) (fun _ _ _ h=>h) (by rfl) (fun w' hB=>z0f w' _ rfl _ 192 cap rfl (Nat.le_refl _)) ?_
 try simp only [Act.put,pC,pD,pE,pF,pG,pH]
 refine q2e (i:=7) (v:=.agg (u8s B)) rfl (by kernel_rfl) (by kernel_rfl) (by kernel_rfl) (fun _ _ _ h=>h) (by rfl) (fun w' hB=>q0k 114 _ _ rfl Tryz.underlying114 rfl bb off rfl (B.map (Value.int .u8)) GF.out.iz (q3c hB GF.out.rb GF.out.nb)) ?_
 try simp only [Act.put,pC,pD,pE,pF,pG,pH]
 refine q2e (i:=8) (v:=?_) rfl (by kernel_rfl) (by kernel_rfl) (by kernel_rfl) (fun _ _ _ h=>h) (by rfl) ?_ ?_
 rotate_left
 ·intro w' hB;clear hB;go_simp<;>with_reducible rfl
 try simp only [Act.put,pC,pD,pE,pF,pG,pH]
 refine z6q (i:=9) rfl (by kernel_rfl) (by rfl) (by kernel_rfl) 114 _ _ rfl (i*192) (u8s B) rfl rfl GF.out.th GF.out.iy (q1r _) ?_
 show KK _ _
 refine ax _ _ ?_
 try simp only [Act.put,pF,pG,pH]
 have HLd:Box _:=⟨HA.out.laid (by rw [<-hwd] at HB2;exact HB2.out) i B HIn.out HBy.out⟩
 have HSc:Box ((wd.setCells P (i*192) (u8s B).toList).cell? ⟨S,0,none⟩=some (.int .i64 (i:Int))):=⟨q2y (q0t P (u8s B).toList (i*192) wd wd (But.refl _ _)) GF.out.ci GF.out.ni⟩
 generalize wd.setCells P (i*192) (u8s B).toList=w3 at HLd HSc ⊢
 have HDl:Box _:=⟨z8g w3 uv S i d.uw HL.out.2 HLd.out.1.hu HL.out.1 HSc.out (fun e=>by have:=HA.out.lt S (.inr (.inr (.inl e)));have:=HS.out;omega)⟩
 obtain ⟨-,c1,-,-,-,-,-⟩:=HLd.out.1.cells
 have HSt:Box (∀v' w4,w4.ownsRow 0 118 193 v' (oth i d.uw).length (wcs (oth i d.uw))->Turned (fun k=>uv.ownBlock=some k) w3 w4->(∀k,v'.ownBlock=some k->uv.ownBlock=some k)->_):=⟨fun v' w4 x1 x2 x3=>HLd.out.1.struck i x1 x2 x3⟩
 clear ax GF HTp HB2 hwd HSc
 go_wp2_with (go_at_call 48;refine HDl.out.mono ?_;rintro e w4 ⟨v',rfl,x1,x2,x3⟩;obtain ⟨va,vc,rfl⟩:=q0l x1;have HX:Box _:=⟨HSt.out _ w4 x1 x2 x3⟩;obtain ⟨-,-,-,d1,f1⟩:=HX.out;clear x1 x2 x3)
 go_ret
 refine ⟨rfl,?_⟩
 obtain ⟨y1,y2,y3,-,-⟩:=HX.out
 exact At.nx HF.out y1 (HLd.out.2.trans y2 (fun k hk=>.inl hk)) (fun k hk=>.inl (y3 k hk))
set_option maxRecDepth 20000 in
set_option maxHeartbeats 2000000 in
theorem z7z (w:World) (n:Nat) (vd vw vo:Value) (l:Int) (b:Bool) (Ld L:List (Nat × List Int)) (hd:Rw w vd Ld) (hw:Rw w vw L) (ho:vo.oneCell'=true) (hLd:Ld.length<1000000) (hL:L.length<1000000) (i:Nat) (B:List Int) (hx:rfit n (i:Int) B.length=0):
  Calls Tryz.prog 18 #[.agg (rv n vd vw l b vo).toArray,.int .i64 (i:Int),.string (strOfNums B)] w fun e w'=>∃vd' vw',e=.returned (.tuple #[.agg (rv n vd' vw' l b vo).toArray,.int .i64 0])/\Below w.heap.size w w'/\Rw w' vd' (Ld++[(i,B)])/\Rw w' vw' (oth i L):=by
 have HX:Box (rfit n (i:Int) B.length=0):=⟨hx⟩
 have HW:Box (Rw w vw L/\vo.oneCell'=true/\Rw w vd Ld/\Ld.length<1000000/\L.length<1000000):=⟨hw,ho,hd,hLd,hL⟩
 have hL9:L.length<9223372036854775807:=by omega
 clear hx ho hLd hL
 obtain ⟨ad,cd,rfl⟩:=q0l hd
 obtain ⟨aw,cw,rfl⟩:=q0l hw
 clear hd hw
 have H:Box (Bx w.heap.size w ((w.alloc (.cells (rv n (.slice ad Ld.length cd) (.slice aw L.length cw) l b vo).toArray 36)).alloc (.cells #[.int .i64 0,.slice none 0 0,.slice none 0 0,.int .i64 0,.bool false,.slice none 0 0] 36)) (rv n (.slice ad Ld.length cd) (.slice aw L.length cw) l b vo)):=⟨Bx.start w _ _ rfl⟩
 obtain ⟨S,HS⟩:∃S,Box (w.heap.size=S):=⟨_,⟨rfl⟩⟩
 go_enter Tryz.func18,Tryz.ntmps18
 go_upto_region 1 with fail
 rw [HS.out] at H ⊢
 generalize (w.alloc (.cells (rv n (.slice ad Ld.length cd) (.slice aw L.length cw) l b vo).toArray 36)).alloc (.cells #[.int .i64 0,.slice none 0 0,.slice none 0 0,.int .i64 0,.bool false,.slice none 0 0] 36)=w1 at H ⊢
 have HF:Box (Calls Tryz.prog 50 #[.agg (rv n (.slice ad Ld.length cd) (.slice aw L.length cw) l b vo).toArray,.int .i64 (i:Int),.string (strOfNums B)] w1 fun e w'=>e=.returned (.int .i64 0)/\Below w1.heap.size w1 w'):=⟨(q6z w1 n (.slice ad Ld.length cd) (.slice aw L.length cw) vo l b i (strOfNums B) B.length (q6v B)).mono fun e w' h=>⟨by rw [h.1,HX.out],h.2⟩⟩
 go_upto_region 4 with (first
  | (refine q0v rfl _ rfl S (rv n (.slice ad Ld.length cd) (.slice aw L.length cw) l b vo) rfl H.out.hB rfl ?_)
  | (go_at_call 50;refine HF.out.mono ?_;rintro e w2 ⟨rfl,hb2⟩;have H2:Box (Bx S w w2 (rv n (.slice ad Ld.length cd) (.slice aw L.length cw) l b vo)):=⟨H.out.on hb2⟩;clear hb2))
 clear HF
 have c1:w2.cell? ⟨S,1,none⟩=some (.slice ad Ld.length cd):=H2.out.cell 1
 have HM:Box (Calls Tryz.prog 51 #[(.slice ad Ld.length cd),.agg (rc (i,B)).toArray] w2 fun e w'=>∃v',e=.returned v'/\Rw w' v' (Ld++[(i,B)])/\Below w2.heap.size w2 w'/\∀k,v'.ownBlock=some k->w2.heap.size<=k):=⟨q8y w2 _ Ld (i,B) (H2.out.old HW.out.2.2.1) HW.out.2.2.2.1⟩
 go_upto_region 5 with (go_at_call 51;refine HM.out.mono ?_;rintro e w4 ⟨v4,rfl,r4,b4,o4⟩;obtain ⟨a4,c4,rfl⟩:=q0l r4;rw [List.length_append,List.length_singleton] at *;have H4:Box (Bx S w w4 (rv n (.slice ad Ld.length cd) (.slice aw L.length cw) l b vo)):=⟨H2.out.on b4⟩;have R4:Box (Rw w4 (.slice a4 (Ld.length+1) c4) (Ld++[(i,B)])/\∀k,(Value.slice a4 (Ld.length+1) c4).ownBlock=some k->S+2<=k):=⟨r4,fun k hk=>by have:=o4 k hk;have:=H2.out.lt;omega⟩;have q1:w4.cell? ⟨S,1,none⟩=some (.slice ad Ld.length cd):=H4.out.cell 1;have f1:=H4.out.froz 1;clear r4 b4 o4)
 have H5:Box (Tm S w (w4.setCell ⟨S,1,none⟩ (.slice a4 (Ld.length+1) c4)) (rv n (.slice a4 (Ld.length+1) c4) (.slice aw L.length cw) l b vo) (.slice a4 (Ld.length+1) c4) (.slice none 0 0) (Ld++[(i,B)]) (oth i (L.take 0))):=⟨⟨H4.out.put 1 _,q3o R4.out.1 (q2h (Turned.refl _ _) (fp:=fun k=>k=S) rfl _) (fun k e=>by omega) R4.out.2,Rw.nil _,fun q hq=>by simp [Value.ownBlock] at hq⟩⟩
 clear c1 q1 f1 H4 H2
 generalize w4.setCell ⟨S,1,none⟩ (.slice a4 (Ld.length+1) c4)=w5 at H5 ⊢
 go_wp2
 go_loopw [9,10] (fun lv jv wr=>∃k:Nat,k<=L.length/\jv=.int .i64 k/\Box (Tm S w wr (rv n (.slice a4 (Ld.length+1) c4) (.slice aw L.length cw) l b vo) (.slice a4 (Ld.length+1) c4) lv (Ld++[(i,B)]) (oth i (L.take k)))) (fun _ jv _=>L.length-(intOf jv).toNat)
 case atStart=>exact ⟨0,Nat.zero_le _,rfl,H5⟩
 case round=>
  obtain ⟨k,hk,rfl,HK⟩:=hrel
  clear H5
  obtain ⟨al,cl,rfl⟩:=q0l HK.out.rl
  have c2:wr.cell? ⟨S,2,none⟩=some (.slice aw L.length cw):=HK.out.bx.cell 2
  by_cases hlt:k<L.length
  ·obtain ⟨g,rfl,hg⟩:=HW.out.1.some_ (show 0<L.length by omega)
   have HXr:Box (wr.rangeAt g (k*2) (rc L[k])):=⟨Rw.range (HK.out.bx.old HW.out.1) k hlt⟩
   have q0:wr.cell? ⟨g,k*2,none⟩=some (.int .i64 (L[k].1:Int)):=HXr.out 0 _ rfl
   have HO:=q7c i L k hlt
   generalize L[k]=x at HXr q0 HO
   have HLN:Box (((oth i (L.take k)).length+1)*24<=140737488355328):=⟨by have h1:=z0q i (L.take k);have h2:=HW.out.2.2.2.2;rw [List.length_take] at h1;omega⟩
   by_cases hp:x.1=i
   ·have hpi:((x.1:Int)==(i:Int))=true:=by simp [hp]
    have HF:Box (oth i (L.take (k+1))=oth i (L.take k)):=⟨by rw [HO];simp [hp]⟩
    clear HO hp hg HXr
    go_wp2
    exact ⟨⟨k+1,by omega,by simp,⟨by rw [HF.out];exact HK.out⟩⟩,by simp [intOf];omega⟩
   ·have hpi:((x.1:Int)==(i:Int))=false:=by
     have:¬((x.1:Int)=(i:Int)):=by omega
     simp [this]
    have HF:Box (oth i (L.take (k+1))=oth i (L.take k)++[x]):=⟨by rw [HO];simp [hp]⟩
    clear HO hp hg
    generalize oth i (L.take k)=N at HF HLN HK ⊢
    go_wp2_with (first
     | (refine wpList_load_mid rfl 123 _ rfl g (k*2) rfl (rc x) _ HXr.out Tryz.underlying123 rfl infoW2 ?_)
     | (refine q0b rfl _ _ (q5f wr 33 123 (rc x).toArray (rc (0,[])).toArray 2 (by decide) (by decide) Tryz.underlying33 (by kernel_rfl) (by kernel_rfl) rfl rfl _ rfl rfl) ?_)
     | (at_builtin;refine q4w rfl _ _ 33 rfl 123 2 24 (.agg (rc (0,[])).toArray) Tryz.underlying33 infoW rfl (by decide) (.slice al N.length cl) N.length (rcs N) rfl (HK.out.rl.alloc _) ⟨wr.heap.size,0,none⟩ 1 1 (rc x) rfl rfl (q3d wr (rc x) _) (one_rc _) HLN.out (by decide) ?_;intro v3 w3 hown hgr hblk;have H3:Box (Tm S w w3 (rv n (.slice a4 (Ld.length+1) c4) (.slice (some ⟨g,0,none⟩) L.length cw) l b vo) (.slice a4 (Ld.length+1) c4) v3 (Ld++[(i,B)]) (N++[x])):=⟨HK.out.step hown hgr hblk⟩;obtain ⟨a3,c3,rfl⟩:=q0l hown;clear hown hgr hblk))
    exact ⟨⟨k+1,by omega,by simp,⟨by rw [HF.out];exact H3.out⟩⟩,by simp [intOf];omega⟩
  ·obtain rfl:k=L.length:=by omega
   obtain ⟨N,HN⟩:=nm (oth i (L.take L.length))
   rw [HN] at HK ⊢
   have HNN:Box (N=oth i L):=⟨by rw [<-HN,List.take_length]⟩
   clear HN
   have f2:=HK.out.bx.froz 2
   have H2:Box (Bx S w (wr.setCell ⟨S,2,none⟩ (.slice al N.length cl)) (rv n (.slice a4 (Ld.length+1) c4) (.slice al N.length cl) l b vo)):=⟨HK.out.bx.put 2 _⟩
   have R2:Box (Rw (wr.setCell ⟨S,2,none⟩ (.slice al N.length cl)) (.slice a4 (Ld.length+1) c4) (Ld++[(i,B)])/\Rw (wr.setCell ⟨S,2,none⟩ (.slice al N.length cl)) (.slice al N.length cl) N):=⟨q3o HK.out.r4 (q2h (Turned.refl _ _) (fp:=fun k=>k=S) rfl _) (fun k e=>by omega) R4.out.2,q3o HK.out.rl (q2h (Turned.refl _ _) (fp:=fun k=>k=S) rfl _) (fun k e=>by omega) (fun q hq=>(HK.out.nl q hq).1)⟩
   go_upto_region 12 with fail
   generalize wr.setCell ⟨S,2,none⟩ (.slice al N.length cl)=w6 at H2 R2 ⊢
   clear f2 c2
   go_wp2_with (first
    | (refine q0v rfl _ rfl S (rv n (.slice a4 (Ld.length+1) c4) (.slice al N.length cl) l b vo) rfl H2.out.hB rfl ?_)
    | (refine q2j rfl _ _ rfl S w _ (rv n (.slice a4 (Ld.length+1) c4) (.slice al N.length cl) l b vo) rfl rfl H2.out rfl (q4o rfl rfl HW.out.2.1) ?_;intro w7 h7 b7 t7))
   (try simp only [Exit.inBlock,Exit.then])
   refine bodyPost_ret (q4b rfl _ _ (S+1) _ rfl rfl h7) rfl ?_
   exact ⟨_,_,rfl,HS.out▸b7.below,q3o R2.out.1 t7 (fun k e=>by omega) R4.out.2,HNN.out▸q3o R2.out.2 t7 (fun k e=>by omega) (fun q hq=>(HK.out.nl q hq).1)⟩
end Go.Proofs.YtjejnlebpcjidaaGreatDoor.Disk
namespace Go.Proofs.YtjejnlebpcjidaaGreatDoor
open Go.RowKit
section late
variable {P:Program} {md:Region.Mode} {ops:Array Oper} {Q:Exit->Act->World->Prop} {S M:World->Prop} {c:Nat}
def wpLate (P:Program) (md:Region.Mode) (ops:Array Oper) (Q:Exit->Act->World->Prop) (S M:World->Prop) (c:Nat):Nat->Array Bool->Act->World->Prop
 | 0,L,a,w=>Region.ready md ops L=[]/\Q .normal a w
 | f+1,L,a,w=>(Region.ready md ops L=[]->Q .normal a w)/\∀i∈Region.ready md ops L,wpOp P ops Q i (fun b y=>(S y/\((L.setIfInBounds i true).getD c true=false->M y))/\wpLate P md ops Q S M c f (L.setIfInBounds i true) b y) a w
theorem late_of (f:Nat):∀(L:Array Bool) (a:Act) (w:World),L.getD c true=true->wpAnyH P md ops Q S f L a w->wpLate P md ops Q S M c f L a w:=by
 induction f with
 | zero=>intro L a w _ h;exact h
 | succ f ih=>
  intro L a w hc h
  refine ⟨h.1,fun i hi=>wpOp_mono (fun b y hy=>?_) (h.2 i hi)⟩
  have hc':(L.setIfInBounds i true).getD c true=true:=by
   by_cases e:i=c
   ·subst e
    rw [Array.getD_eq_getD_getElem?,Array.getElem?_setIfInBounds]
    by_cases q:i<L.size<;>simp [q]
   ·rw [getD_set_ne true e];exact hc
  exact ⟨⟨hy.1,fun h0=>by rw [hc'] at h0;cases h0⟩,ih _ b y hc' hy.2⟩
theorem late_held (f:Nat):∀(L:Array Bool) (a:Act) (w:World),wpLate P md ops Q S M c f L a w->wpAnyH P md ops Q S f L a w:=by
 induction f with
 | zero=>intro L a w h;exact h
 | succ f ih=>intro L a w h;exact ⟨h.1,fun i hi=>wpOp_mono (fun b y hy=>⟨hy.1.1,ih _ b y hy.2⟩) (h.2 i hi)⟩
theorem late_all {rs:List Nat} {f:Nat} {L:Array Bool} {a:Act} {w:World} (hr:Region.ready md ops L=rs) (hne:rs≠[]) (h:∀i∈rs,wpOp P ops Q i (fun b y=>(S y/\((L.setIfInBounds i true).getD c true=false->M y))/\wpLate P md ops Q S M c f (L.setIfInBounds i true) b y) a w):wpLate P md ops Q S M c (f+1) L a w:=
 ⟨fun h0=>absurd (hr▸h0) hne,hr▸h⟩
theorem z0c {i:Nat} {f:Nat} {L:Array Bool} {a:Act} {w:World} (hr:Region.ready md ops L=[i]) (h:wpOp P ops Q i (fun b y=>(S y/\((L.setIfInBounds i true).getD c true=false->M y))/\wpLate P md ops Q S M c f (L.setIfInBounds i true) b y) a w):wpLate P md ops Q S M c (f+1) L a w:=
 late_all hr (by simp) (fun j hj=>by rw [List.mem_singleton.1 hj];exact h)
def waits (md:Region.Mode) (ops:Array Oper) (c i:Nat):Bool:=match ops[c]? with | some o=>o.after.any (fun e=>Region.binds md e&&e.on==i) | none=>true
theorem z7y {i:Nat} {oi:Oper} {v:Value} (hi:ops[i]?=some oi) (hs:Region.noSelect ops=true) (hQ:∀k a w,Q (.panic k) (a.put oi.dst v) w->Q (.panic k) a w) (hci:c≠i) (hw:waits md ops c i=true):
  ∀(f:Nat) (L:Array Bool) (a:Act) (w:World),(∀j oj,ops[j]?=some oj->j≠i->L.getD j true=false->(∀e∈oj.after,Region.binds md e=true->e.on≠i)->oi.apart ops oj=true)->i∈Region.ready md ops L->L.getD c true=false->
   YieldsIf P ops (fun x=>S x/\M x) oi v a->(S w/\M w)->wpLate P md ops Q S M c f (L.setIfInBounds i true) (a.put oi.dst v) w->wpAnyH P md ops Q S (f+1) L a w:=by
 have hsel:=Region.noSelect_spec hs
 intro f
 induction f with
 | zero=>
  intro L a w _ hr _ hy hSM H
  refine ⟨fun h0=>(by rw [h0] at hr;cases hr),fun j hj=>?_⟩
  by_cases e:j=i
  ·subst e;exact hy.wpOp hi hSM ⟨hSM.1,H⟩
  ·have h1:=ready_mono hj e
   rw [H.1] at h1
   cases h1
 | succ f ih=>
  intro L a w hap hr hcL hy hSM H
  refine ⟨fun h0=>(by rw [h0] at hr;cases hr),fun j hj=>?_⟩
  by_cases e:j=i
  ·subst e
   refine hy.wpOp hi hSM ⟨hSM.1,?_⟩
   exact late_held _ _ _ _ H
  ·obtain ⟨hjL,oj,hoj,hall⟩:=mem_ready.1 hj
   have hiL:=(mem_ready.1 hr).1
   have hno:∀e∈oj.after,Region.binds md e=true->e.on≠i:=fun e he hb hq=>by
    have h1:=hall e he hb
    rw [hq] at h1
    simp only [Array.getD_eq_getD_getElem?] at h1 hiL
    cases h2:L[i]? with
    | none=>simp [h2] at h1
    | some b=>simp [h2] at h1 hiL;simp_all
   have hjc:j≠c:=fun q=>by
    subst q
    unfold waits at hw
    rw [hoj] at hw
    obtain ⟨e,he,hb⟩:=Array.any_eq_true'.1 hw
    simp only [Bool.and_eq_true,beq_iff_eq] at hb
    exact hno e he hb.1 hb.2
   have h1:=wpOp_putIf hoj (hap j oj hoj e hjL hno) (fun cs b=>hsel i oi cs b hi) (fun cs b=>hsel j oj cs b hoj) hQ hy (H.2 j (ready_mono hj e))
   refine wpOp_mono (fun b y h3=>?_) h1
   obtain ⟨hy',⟨hSy,hMy⟩,h4⟩:=h3
   have hc2:(L.setIfInBounds j true).getD c true=false:=by rw [getD_set_ne true hjc];exact hcL
   have hMy':M y:=hMy (by rw [getD_set_ne true hjc,getD_set_ne true (Ne.symm hci)];exact hcL)
   refine ⟨hSy,ih (L.setIfInBounds j true) b y (fun k ok hk hki hun hno'=>?_) (ready_mono hr (Ne.symm e)) hc2 hy' ⟨hSy,hMy'⟩ (by rw [Array.setIfInBounds_comm _ _ e];exact h4)⟩
   refine hap k ok hk hki ?_ hno'
   by_cases q:j=k
   ·subst q;exact hjL
   ·rw [getD_set_ne true q] at hun;exact hun
theorem take_late {i:Nat} {oi:Oper} {v:Value} {f:Nat} {L:Array Bool} {a:Act} {w:World} (c:Nat) (M:World->Prop) (hi:ops[i]?=some oi)
  (hs:Region.noSelect ops=true) (hf:Region.free md ops L i=true) (hr:(Region.ready md ops L).contains i=true)
  (hQ:∀k a w,Q (.panic k) (a.put oi.dst v) w->Q (.panic k) a w) (hw:Region.wanted oi (yielded ops a.tmps)=true) (hci:c≠i) (hwt:waits md ops c i=true) (hcL:L.getD c true=false)
  (hv:∀y,S y->M y->(execOp a.eval oi).run P y=.ok (.value v) y) (hS:S w) (hM:M w)
  (h:wpLate P md ops Q S M c f (L.setIfInBounds i true) (a.put oi.dst v) w):wpAnyH P md ops Q S (f+1) L a w:=
 z7y hi hs hQ hci hwt f L a w (Region.free_spec hi hf) (by simpa using hr) hcL (Or.inl ⟨hw,fun y h=>hv y h.1 h.2⟩) ⟨hS,hM⟩ h
theorem dag_in2 {f:Nat} {L:Array Bool} {a:Act} {w:World} (h:∀G:Nat->Array Bool->Act->World->Prop,G=wpAnyH P md ops Q S->∀A0:Act,A0=a->G f L A0 w):wpAnyH P md ops Q S f L a w:=h _ rfl _ rfl
theorem dag_to2 {G:Nat->Array Bool->Act->World->Prop} (hG:G=wpAnyH P md ops Q S) {f:Nat} {L L':Array Bool} {a a':Act} {w:World} (hL:L=L') (ha:a=a') (h:G f L' a' w):wpAnyH P md ops Q S f L a w:=by
 rw [hL,ha,<-hG]
 exact h
theorem act_to {K:Act->World->Prop} {a a':Act} {w:World} (ha:a=a') (h:K a' w):K a w:=ha▸h
theorem dag_in3 {f:Nat} {L:Array Bool} {l:List Value} {w:World} (h:∀G:Nat->Array Bool->Act->World->Prop,G=wpAnyH P md ops Q S->∀L0:List Value,L0=l->G f L {tmps:=L0.toArray,defers:=[]} w):wpAnyH P md ops Q S f L {tmps:=l.toArray,defers:=[]} w:=h _ rfl _ rfl
theorem q0r {G:Nat->Array Bool->Act->World->Prop} (hG:G=wpAnyH P md ops Q S) {f:Nat} {L L':Array Bool} {l l':List Value} {w:World} (hL:L=L') (ha:l=l') (h:G f L' {tmps:=l'.toArray,defers:=[]} w):wpAnyH P md ops Q S f L {tmps:=l.toArray,defers:=[]} w:=by
 rw [hL,ha,<-hG]
 exact h
theorem act_to3 {K:Act->World->Prop} {l l':List Value} {w:World} (ha:l=l') (h:K {tmps:=l'.toArray,defers:=[]} w):K {tmps:=l.toArray,defers:=[]} w:=ha▸h
end late
end Go.Proofs.YtjejnlebpcjidaaGreatDoor
