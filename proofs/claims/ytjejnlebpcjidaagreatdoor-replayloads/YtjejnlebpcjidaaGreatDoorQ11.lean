/-
 The reference of layer 6: Stop, Write, Read. And what follows it.
-/
import Derived.Test.YtjejnlebpcjidaaGreatDoorQ10
set_option linter.unusedVariables false
set_option maxRecDepth 100000
set_option maxRecDepth 100000
namespace Go.Proofs.YtjejnlebpcjidaaGreatDoor.Disk.Plain
end Go.Proofs.YtjejnlebpcjidaaGreatDoor.Disk.Plain
namespace Go.Proofs.YtjejnlebpcjidaaGreatDoor.Disk
open Go.RowKit Go.Proofs.YtjejnlebpcjidaaGreatDoor.Plain Go.Proofs.YtjejnlebpcjidaaGreatDoor.Disk.Plain
def rlf (i:Int):Int:=if i<0 then -1 else i
set_option maxRecDepth 20000 in
set_option maxHeartbeats 2000000 in
theorem rstop_any (w:World) (n:Nat) (vd vw vo:Value) (l:Int) (b:Bool) (hd:vd.oneCell'=true) (hw:vw.oneCell'=true) (ho:vo.oneCell'=true) (i:Int):
  Calls Tryz.prog 22 #[.agg (rv n vd vw l b vo).toArray,.int .i64 i] w fun e w'=>e=.returned (.agg (rv n vd vw (rlf i) b vo).toArray)/\Below w.heap.size w w':=by
 have H1:Box (vd.oneCell'=true/\vw.oneCell'=true/\vo.oneCell'=true):=⟨hd,hw,ho⟩
 clear hd hw ho
 have H:Box (Bx w.heap.size w ((w.alloc (.cells (rv n vd vw l b vo).toArray 36)).alloc (.cells #[.int .i64 0,.slice none 0 0,.slice none 0 0,.int .i64 0,.bool false,.slice none 0 0] 36)) (rv n vd vw l b vo)):=⟨Bx.start w _ _ rfl⟩
 obtain ⟨S,HS⟩:∃S,Box (w.heap.size=S):=⟨_,⟨rfl⟩⟩
 go_enter Tryz.func22,Tryz.ntmps22
 go_upto_region 1 with fail
 rw [HS.out] at H ⊢
 generalize (w.alloc (.cells (rv n vd vw l b vo).toArray 36)).alloc (.cells #[.int .i64 0,.slice none 0 0,.slice none 0 0,.int .i64 0,.bool false,.slice none 0 0] 36)=w1 at H ⊢
 have c3:w1.cell? ⟨S,3,none⟩=some (.int .i64 l):=H.out.cell 3
 have f3:=H.out.froz 3
 go_upto_region 2 with fail
 have H2:Box (Bx S w (w1.setCell ⟨S,3,none⟩ (.int .i64 i)) (rv n vd vw i b vo)):=⟨H.out.put 3 _⟩
 generalize w1.setCell ⟨S,3,none⟩ (.int .i64 i)=w2 at H2 ⊢
 clear c3 f3 H
 by_cases h0:i<0
 ·have E:Box (rlf i=-1):=⟨if_pos h0⟩
  have d0:decide (i<0)=true:=by simpa using h0
  clear h0
  have c3:w2.cell? ⟨S,3,none⟩=some (.int .i64 i):=H2.out.cell 3
  have f3:=H2.out.froz 3
  have H3:Box (Bx S w (w2.setCell ⟨S,3,none⟩ (.int .i64 (-1))) (rv n vd vw (-1) b vo)):=⟨H2.out.put 3 _⟩
  go_wp2_with (first
   | (refine q0v rfl _ rfl S (rv n vd vw (-1) b vo) rfl H3.out.hB rfl ?_)
   | (refine q2j rfl _ _ rfl S w _ (rv n vd vw (-1) b vo) rfl rfl H3.out rfl (q4o H1.out.1 H1.out.2.1 H1.out.2.2) ?_;intro w5 h5 b5 t5))
  (try simp only [Exit.inBlock,Exit.then])
  refine bodyPost_ret (q9i rfl _ _ (S+1) _ rfl rfl h5) rfl ?_
  exact ⟨by rw [E.out],HS.out▸b5.below⟩
 ·have E:Box (rlf i=i):=⟨if_neg h0⟩
  have d0:decide (i<0)=false:=by simpa using h0
  clear h0
  go_wp2_with (first
   | (refine q0v rfl _ rfl S (rv n vd vw i b vo) rfl H2.out.hB rfl ?_)
   | (refine q2j rfl _ _ rfl S w _ (rv n vd vw i b vo) rfl rfl H2.out rfl (q4o H1.out.1 H1.out.2.1 H1.out.2.2) ?_;intro w5 h5 b5 t5))
  (try simp only [Exit.inBlock,Exit.then])
  refine bodyPost_ret (q9i rfl _ _ (S+1) _ rfl rfl h5) rfl ?_
  exact ⟨by rw [E.out],HS.out▸b5.below⟩
set_option maxRecDepth 20000 in
set_option maxHeartbeats 2000000 in
theorem z4b (w:World) (n:Nat) (vd vw vo:Value) (l:Int) (hd:vd.oneCell'=true) (hw:vw.oneCell'=true) (ho:vo.oneCell'=true) (i:Int) (s:ByteArray):
  Calls Tryz.prog 23 #[.agg (rv n vd vw l true vo).toArray,.int .i64 i,.string s] w fun e w'=>e=.returned (.tuple #[.agg (rv n vd vw l true vo).toArray,.int .i64 13])/\Below w.heap.size w w':=by
 have H1:Box (vd.oneCell'=true/\vw.oneCell'=true/\vo.oneCell'=true):=⟨hd,hw,ho⟩
 clear hd hw ho
 have H:Box (Bx w.heap.size w ((w.alloc (.cells (rv n vd vw l true vo).toArray 36)).alloc (.cells #[.int .i64 0,.slice none 0 0,.slice none 0 0,.int .i64 0,.bool false,.slice none 0 0] 36)) (rv n vd vw l true vo)):=⟨Bx.start w _ _ rfl⟩
 obtain ⟨S,HS⟩:∃S,Box (w.heap.size=S):=⟨_,⟨rfl⟩⟩
 go_enter Tryz.func23,Tryz.ntmps23
 go_upto_region 1 with fail
 rw [HS.out] at H ⊢
 generalize (w.alloc (.cells (rv n vd vw l true vo).toArray 36)).alloc (.cells #[.int .i64 0,.slice none 0 0,.slice none 0 0,.int .i64 0,.bool false,.slice none 0 0] 36)=w1 at H ⊢
 have c4:w1.cell? ⟨S,4,none⟩=some (.bool true):=H.out.cell 4
 go_wp2_with (first
  | (refine q0v rfl _ rfl S (rv n vd vw l true vo) rfl H.out.hB rfl ?_)
  | (refine q2j rfl _ _ rfl S w _ (rv n vd vw l true vo) rfl rfl H.out rfl (q4o H1.out.1 H1.out.2.1 H1.out.2.2) ?_;intro w5 h5 b5 t5))
 (try simp only [Exit.inBlock,Exit.then])
 refine bodyPost_ret (q4b rfl _ _ (S+1) _ rfl rfl h5) rfl ?_
 exact ⟨rfl,HS.out▸b5.below⟩
set_option maxRecDepth 20000 in
set_option maxHeartbeats 2000000 in
theorem q8n (w:World) (n:Nat) (vd vw vo:Value) (hd:vd.oneCell'=true) (hw:vw.oneCell'=true) (ho:vo.oneCell'=true) (i:Int) (s:ByteArray) (len:Nat) (hs:s.size=len) (hx:rfit n i len=0):
  Calls Tryz.prog 23 #[.agg (rv n vd vw 0 false vo).toArray,.int .i64 i,.string s] w fun e w'=>e=.returned (.tuple #[.agg (rv n vd vw 0 true vo).toArray,.int .i64 13])/\Below w.heap.size w w':=by
 have HX:Box (rfit n i len=0):=⟨hx⟩
 clear hx
 have H1:Box (vd.oneCell'=true/\vw.oneCell'=true/\vo.oneCell'=true):=⟨hd,hw,ho⟩
 clear hd hw ho
 have H:Box (Bx w.heap.size w ((w.alloc (.cells (rv n vd vw 0 false vo).toArray 36)).alloc (.cells #[.int .i64 0,.slice none 0 0,.slice none 0 0,.int .i64 0,.bool false,.slice none 0 0] 36)) (rv n vd vw 0 false vo)):=⟨Bx.start w _ _ rfl⟩
 obtain ⟨S,HS⟩:∃S,Box (w.heap.size=S):=⟨_,⟨rfl⟩⟩
 go_enter Tryz.func23,Tryz.ntmps23
 go_upto_region 1 with fail
 rw [HS.out] at H ⊢
 generalize (w.alloc (.cells (rv n vd vw 0 false vo).toArray 36)).alloc (.cells #[.int .i64 0,.slice none 0 0,.slice none 0 0,.int .i64 0,.bool false,.slice none 0 0] 36)=w1 at H ⊢
 have c4:w1.cell? ⟨S,4,none⟩=some (.bool false):=H.out.cell 4
 have HF:Box (Calls Tryz.prog 50 #[.agg (rv n vd vw 0 false vo).toArray,.int .i64 i,.string s] w1 fun e w'=>e=.returned (.int .i64 0)/\Below w1.heap.size w1 w'):=⟨(q6z w1 n vd vw vo 0 false i s len hs).mono fun e w' h=>⟨by rw [h.1,HX.out],h.2⟩⟩
 go_upto_region 4 with (first
  | (refine q0v rfl _ rfl S (rv n vd vw 0 false vo) rfl H.out.hB rfl ?_)
  | (go_at_call 50;refine HF.out.mono ?_;rintro e w2 ⟨rfl,hb2⟩;have H2:Box (Bx S w w2 (rv n vd vw 0 false vo)):=⟨H.out.on hb2⟩;clear hb2))
 clear c4
 have c3:w2.cell? ⟨S,3,none⟩=some (.int .i64 0):=H2.out.cell 3
 have c4:w2.cell? ⟨S,4,none⟩=some (.bool false):=H2.out.cell 4
 have f4:=H2.out.froz 4
 have H3:Box (Bx S w (w2.setCell ⟨S,4,none⟩ (.bool true)) (rv n vd vw 0 true vo)):=⟨H2.out.put 4 _⟩
 go_wp2_with (first
  | (refine q0v rfl _ rfl S (rv n vd vw 0 true vo) rfl H3.out.hB rfl ?_)
  | (refine q2j rfl _ _ rfl S w _ (rv n vd vw 0 true vo) rfl rfl H3.out rfl (q4o H1.out.1 H1.out.2.1 H1.out.2.2) ?_;intro w5 h5 b5 t5))
 (try simp only [Exit.inBlock,Exit.then])
 refine bodyPost_ret (q4b rfl _ _ (S+1) _ rfl rfl h5) rfl ?_
 exact ⟨rfl,HS.out▸b5.below⟩
set_option maxRecDepth 20000 in
set_option maxHeartbeats 2000000 in
theorem z5b (w:World) (n:Nat) (vd vw vo:Value) (l:Int) (L:List (Nat × List Int)) (O:List (Int × Int)) (hd:vd.oneCell'=true) (hw:Rw w vw L) (ho:Ro w vo O) (hL:L.length<1000000) (hO:O.length<1000000) (k:Nat) (B:List Int) (hx:rfit n (k:Int) B.length=0) (hl:0<l) (hl9:l<=9223372036854775807):
  Calls Tryz.prog 23 #[.agg (rv n vd vw l false vo).toArray,.int .i64 (k:Int),.string (strOfNums B)] w fun e w'=>∃vw' vo',e=.returned (.tuple #[.agg (rv n vd vw' (l-1) false vo').toArray,.int .i64 0])/\Below w.heap.size w w'/\Rw w' vw' (L++[(k,B)])/\Ro w' vo' (O++[(2,(k:Int))]):=by
 have HX:Box (rfit n (k:Int) B.length=0):=⟨hx⟩
 have HW:Box (Rw w vw L/\Ro w vo O/\L.length<1000000/\O.length<1000000):=⟨hw,ho,hL,hO⟩
 have H1:Box (vd.oneCell'=true):=⟨hd⟩
 have d0:(l==0)=false:=by simp;omega
 have d1:decide (0<l)=true:=by simpa using hl
 have hw1:IntKind.i64.wrap (l-1)=l-1:=by rw [IntKind.wrap_i64];omega
 clear hl hl9
 clear hx hL hO hd
 obtain ⟨aw,cw,rfl⟩:=q0l hw
 obtain ⟨ao,co,rfl⟩:=q0l ho
 clear hw ho
 have H:Box (Bx w.heap.size w ((w.alloc (.cells (rv n vd (.slice aw L.length cw) l false (.slice ao O.length co)).toArray 36)).alloc (.cells #[.int .i64 0,.slice none 0 0,.slice none 0 0,.int .i64 0,.bool false,.slice none 0 0] 36)) (rv n vd (.slice aw L.length cw) l false (.slice ao O.length co))):=⟨Bx.start w _ _ rfl⟩
 obtain ⟨S,HS⟩:∃S,Box (w.heap.size=S):=⟨_,⟨rfl⟩⟩
 go_enter Tryz.func23,Tryz.ntmps23
 go_upto_region 1 with fail
 rw [HS.out] at H ⊢
 generalize (w.alloc (.cells (rv n vd (.slice aw L.length cw) l false (.slice ao O.length co)).toArray 36)).alloc (.cells #[.int .i64 0,.slice none 0 0,.slice none 0 0,.int .i64 0,.bool false,.slice none 0 0] 36)=w1 at H ⊢
 have c4:w1.cell? ⟨S,4,none⟩=some (.bool false):=H.out.cell 4
 have HF:Box (Calls Tryz.prog 50 #[.agg (rv n vd (.slice aw L.length cw) l false (.slice ao O.length co)).toArray,.int .i64 (k:Int),.string (strOfNums B)] w1 fun e w'=>e=.returned (.int .i64 0)/\Below w1.heap.size w1 w'):=⟨(q6z w1 n vd (.slice aw L.length cw) (.slice ao O.length co) l false k (strOfNums B) B.length (q6v B)).mono fun e w' h=>⟨by rw [h.1,HX.out],h.2⟩⟩
 go_upto_region 4 with (first
  | (refine q0v rfl _ rfl S (rv n vd (.slice aw L.length cw) l false (.slice ao O.length co)) rfl H.out.hB rfl ?_)
  | (go_at_call 50;refine HF.out.mono ?_;rintro e w2 ⟨rfl,hb2⟩;have H2:Box (Bx S w w2 (rv n vd (.slice aw L.length cw) l false (.slice ao O.length co))):=⟨H.out.on hb2⟩;clear hb2))
 clear c4 HF
 have c3:w2.cell? ⟨S,3,none⟩=some (.int .i64 l):=H2.out.cell 3
 have f3:=H2.out.froz 3
 go_upto_region 11 with fail
 have H3:Box (Bx S w (w2.setCell ⟨S,3,none⟩ (.int .i64 (l-1))) (rv n vd (.slice aw L.length cw) (l-1) false (.slice ao O.length co))):=⟨H2.out.put 3 _⟩
 clear c3 f3
 generalize w2.setCell ⟨S,3,none⟩ (.int .i64 (l-1))=w3 at H3 ⊢
 have c2:w3.cell? ⟨S,2,none⟩=some (.slice aw L.length cw):=H3.out.cell 2
 have HM:Box (Calls Tryz.prog 51 #[(.slice aw L.length cw),.agg (rc (k,B)).toArray] w3 fun e w'=>∃v',e=.returned v'/\Rw w' v' (L++[(k,B)])/\Below w3.heap.size w3 w'/\∀k,v'.ownBlock=some k->w3.heap.size<=k):=⟨q8y w3 _ L (k,B) (H3.out.old HW.out.1) HW.out.2.2.1⟩
 go_upto_region 12 with (go_at_call 51;refine HM.out.mono ?_;rintro e w4 ⟨v4,rfl,r4,b4,o4⟩;obtain ⟨a4,c4,rfl⟩:=q0l r4;rw [List.length_append,List.length_singleton] at *;have H4:Box (Bx S w w4 (rv n vd (.slice aw L.length cw) (l-1) false (.slice ao O.length co))):=⟨H3.out.on b4⟩;have R4:Box (Rw w4 (.slice a4 (L.length+1) c4) (L++[(k,B)])/\∀k,(Value.slice a4 (L.length+1) c4).ownBlock=some k->S+2<=k):=⟨r4,fun k hk=>by have:=o4 k hk;have:=H3.out.lt;omega⟩;have q2:w4.cell? ⟨S,2,none⟩=some (.slice aw L.length cw):=H4.out.cell 2;have f2:=H4.out.froz 2;clear r4 b4 o4)
 have H5:Box (Bx S w (w4.setCell ⟨S,2,none⟩ (.slice a4 (L.length+1) c4)) (rv n vd (.slice a4 (L.length+1) c4) (l-1) false (.slice ao O.length co))):=⟨H4.out.put 2 _⟩
 have R5:Box (Rw (w4.setCell ⟨S,2,none⟩ (.slice a4 (L.length+1) c4)) (.slice a4 (L.length+1) c4) (L++[(k,B)])):=⟨q3o R4.out.1 (q2h (Turned.refl _ _) (fp:=fun k=>k=S) rfl _) (fun k e=>by omega) R4.out.2⟩
 clear c2 q2 f2 H4
 generalize w4.setCell ⟨S,2,none⟩ (.slice a4 (L.length+1) c4)=w5 at H5 R5 ⊢
 have HN:Box (Calls Tryz.prog 52 #[.agg (rv n vd (.slice a4 (L.length+1) c4) (l-1) false (.slice ao O.length co)).toArray,.int .i64 2,.int .i64 (k:Int)] w5 fun e w'=>∃v',e=.returned (.agg (rv n vd (.slice a4 (L.length+1) c4) (l-1) false v').toArray)/\Ro w' v' (O++[(2,(k:Int))])/\Below w5.heap.size w5 w'/\∀k,v'.ownBlock=some k->w5.heap.size<=k):=⟨q5u w5 _ _ _ _ _ _ O 2 k H1.out rfl (H5.out.old HW.out.2.1) HW.out.2.2.2⟩
 go_wp2_with (first
  | (refine q0v rfl _ rfl S (rv n vd (.slice a4 (L.length+1) c4) (l-1) false (.slice ao O.length co)) rfl H5.out.hB rfl ?_)
  | (go_at_call 52;refine HN.out.mono ?_;rintro e w6 ⟨v6,rfl,r6,b6,o6⟩;have H6:Box (Bx S w w6 (rv n vd (.slice a4 (L.length+1) c4) (l-1) false (.slice ao O.length co))):=⟨H5.out.on b6⟩;have R6:Box (Rw w6 (.slice a4 (L.length+1) c4) (L++[(k,B)])/\Ro w6 v6 (O++[(2,(k:Int))])/\∀k,v6.ownBlock=some k->S+2<=k):=⟨R5.out.below b6,r6,fun k hk=>by have:=o6 k hk;have:=H5.out.lt;omega⟩;clear r6 b6 o6)
  | (refine q2j rfl _ _ rfl S w _ (rv n vd (.slice a4 (L.length+1) c4) (l-1) false v6) rfl rfl H6.out rfl (q4o H1.out rfl (q3y R6.out.2.1)) ?_;intro w7 h7 b7 t7))
 (try simp only [Exit.inBlock,Exit.then])
 refine bodyPost_ret (q4b rfl _ _ (S+1) _ rfl rfl h7) rfl ?_
 exact ⟨_,_,rfl,HS.out▸b7.below,q3o R6.out.1 t7 (fun k e=>by omega) R4.out.2,q3o R6.out.2.1 t7 (fun k e=>by omega) R6.out.2.2⟩
set_option maxRecDepth 20000 in
set_option maxHeartbeats 2000000 in
theorem rwrite_on (w:World) (n:Nat) (vd vw vo:Value) (l:Int) (L:List (Nat × List Int)) (O:List (Int × Int)) (hd:vd.oneCell'=true) (hw:Rw w vw L) (ho:Ro w vo O) (hL:L.length<1000000) (hO:O.length<1000000) (k:Nat) (B:List Int) (hx:rfit n (k:Int) B.length=0) (hl:l<0):
  Calls Tryz.prog 23 #[.agg (rv n vd vw l false vo).toArray,.int .i64 (k:Int),.string (strOfNums B)] w fun e w'=>∃vw' vo',e=.returned (.tuple #[.agg (rv n vd vw' l false vo').toArray,.int .i64 0])/\Below w.heap.size w w'/\Rw w' vw' (L++[(k,B)])/\Ro w' vo' (O++[(2,(k:Int))]):=by
 have HX:Box (rfit n (k:Int) B.length=0):=⟨hx⟩
 have HW:Box (Rw w vw L/\Ro w vo O/\L.length<1000000/\O.length<1000000):=⟨hw,ho,hL,hO⟩
 have H1:Box (vd.oneCell'=true):=⟨hd⟩
 have d0:(l==0)=false:=by simp;omega
 have d1:decide (0<l)=false:=by simp;omega
 clear hl
 clear hx hL hO hd
 obtain ⟨aw,cw,rfl⟩:=q0l hw
 obtain ⟨ao,co,rfl⟩:=q0l ho
 clear hw ho
 have H:Box (Bx w.heap.size w ((w.alloc (.cells (rv n vd (.slice aw L.length cw) l false (.slice ao O.length co)).toArray 36)).alloc (.cells #[.int .i64 0,.slice none 0 0,.slice none 0 0,.int .i64 0,.bool false,.slice none 0 0] 36)) (rv n vd (.slice aw L.length cw) l false (.slice ao O.length co))):=⟨Bx.start w _ _ rfl⟩
 obtain ⟨S,HS⟩:∃S,Box (w.heap.size=S):=⟨_,⟨rfl⟩⟩
 go_enter Tryz.func23,Tryz.ntmps23
 go_upto_region 1 with fail
 rw [HS.out] at H ⊢
 generalize (w.alloc (.cells (rv n vd (.slice aw L.length cw) l false (.slice ao O.length co)).toArray 36)).alloc (.cells #[.int .i64 0,.slice none 0 0,.slice none 0 0,.int .i64 0,.bool false,.slice none 0 0] 36)=w1 at H ⊢
 have c4:w1.cell? ⟨S,4,none⟩=some (.bool false):=H.out.cell 4
 have HF:Box (Calls Tryz.prog 50 #[.agg (rv n vd (.slice aw L.length cw) l false (.slice ao O.length co)).toArray,.int .i64 (k:Int),.string (strOfNums B)] w1 fun e w'=>e=.returned (.int .i64 0)/\Below w1.heap.size w1 w'):=⟨(q6z w1 n vd (.slice aw L.length cw) (.slice ao O.length co) l false k (strOfNums B) B.length (q6v B)).mono fun e w' h=>⟨by rw [h.1,HX.out],h.2⟩⟩
 go_upto_region 4 with (first
  | (refine q0v rfl _ rfl S (rv n vd (.slice aw L.length cw) l false (.slice ao O.length co)) rfl H.out.hB rfl ?_)
  | (go_at_call 50;refine HF.out.mono ?_;rintro e w2 ⟨rfl,hb2⟩;have H2:Box (Bx S w w2 (rv n vd (.slice aw L.length cw) l false (.slice ao O.length co))):=⟨H.out.on hb2⟩;clear hb2))
 clear c4 HF
 have c3:w2.cell? ⟨S,3,none⟩=some (.int .i64 l):=H2.out.cell 3
 have f3:=H2.out.froz 3
 go_upto_region 11 with fail
 have H3:Box (Bx S w w2 (rv n vd (.slice aw L.length cw) l false (.slice ao O.length co))):=⟨H2.out⟩
 clear c3 f3 H2
 generalize w2=w3 at H3 ⊢
 have c2:w3.cell? ⟨S,2,none⟩=some (.slice aw L.length cw):=H3.out.cell 2
 have HM:Box (Calls Tryz.prog 51 #[(.slice aw L.length cw),.agg (rc (k,B)).toArray] w3 fun e w'=>∃v',e=.returned v'/\Rw w' v' (L++[(k,B)])/\Below w3.heap.size w3 w'/\∀k,v'.ownBlock=some k->w3.heap.size<=k):=⟨q8y w3 _ L (k,B) (H3.out.old HW.out.1) HW.out.2.2.1⟩
 go_upto_region 12 with (go_at_call 51;refine HM.out.mono ?_;rintro e w4 ⟨v4,rfl,r4,b4,o4⟩;obtain ⟨a4,c4,rfl⟩:=q0l r4;rw [List.length_append,List.length_singleton] at *;have H4:Box (Bx S w w4 (rv n vd (.slice aw L.length cw) l false (.slice ao O.length co))):=⟨H3.out.on b4⟩;have R4:Box (Rw w4 (.slice a4 (L.length+1) c4) (L++[(k,B)])/\∀k,(Value.slice a4 (L.length+1) c4).ownBlock=some k->S+2<=k):=⟨r4,fun k hk=>by have:=o4 k hk;have:=H3.out.lt;omega⟩;have q2:w4.cell? ⟨S,2,none⟩=some (.slice aw L.length cw):=H4.out.cell 2;have f2:=H4.out.froz 2;clear r4 b4 o4)
 have H5:Box (Bx S w (w4.setCell ⟨S,2,none⟩ (.slice a4 (L.length+1) c4)) (rv n vd (.slice a4 (L.length+1) c4) l false (.slice ao O.length co))):=⟨H4.out.put 2 _⟩
 have R5:Box (Rw (w4.setCell ⟨S,2,none⟩ (.slice a4 (L.length+1) c4)) (.slice a4 (L.length+1) c4) (L++[(k,B)])):=⟨q3o R4.out.1 (q2h (Turned.refl _ _) (fp:=fun k=>k=S) rfl _) (fun k e=>by omega) R4.out.2⟩
 clear c2 q2 f2 H4
 generalize w4.setCell ⟨S,2,none⟩ (.slice a4 (L.length+1) c4)=w5 at H5 R5 ⊢
 have HN:Box (Calls Tryz.prog 52 #[.agg (rv n vd (.slice a4 (L.length+1) c4) l false (.slice ao O.length co)).toArray,.int .i64 2,.int .i64 (k:Int)] w5 fun e w'=>∃v',e=.returned (.agg (rv n vd (.slice a4 (L.length+1) c4) l false v').toArray)/\Ro w' v' (O++[(2,(k:Int))])/\Below w5.heap.size w5 w'/\∀k,v'.ownBlock=some k->w5.heap.size<=k):=⟨q5u w5 _ _ _ _ _ _ O 2 k H1.out rfl (H5.out.old HW.out.2.1) HW.out.2.2.2⟩
 go_wp2_with (first
  | (refine q0v rfl _ rfl S (rv n vd (.slice a4 (L.length+1) c4) l false (.slice ao O.length co)) rfl H5.out.hB rfl ?_)
  | (go_at_call 52;refine HN.out.mono ?_;rintro e w6 ⟨v6,rfl,r6,b6,o6⟩;have H6:Box (Bx S w w6 (rv n vd (.slice a4 (L.length+1) c4) l false (.slice ao O.length co))):=⟨H5.out.on b6⟩;have R6:Box (Rw w6 (.slice a4 (L.length+1) c4) (L++[(k,B)])/\Ro w6 v6 (O++[(2,(k:Int))])/\∀k,v6.ownBlock=some k->S+2<=k):=⟨R5.out.below b6,r6,fun k hk=>by have:=o6 k hk;have:=H5.out.lt;omega⟩;clear r6 b6 o6)
  | (refine q2j rfl _ _ rfl S w _ (rv n vd (.slice a4 (L.length+1) c4) l false v6) rfl rfl H6.out rfl (q4o H1.out rfl (q3y R6.out.2.1)) ?_;intro w7 h7 b7 t7))
 (try simp only [Exit.inBlock,Exit.then])
 refine bodyPost_ret (q4b rfl _ _ (S+1) _ rfl rfl h7) rfl ?_
 exact ⟨_,_,rfl,HS.out▸b7.below,q3o R6.out.1 t7 (fun k e=>by omega) R4.out.2,q3o R6.out.2.1 t7 (fun k e=>by omega) R6.out.2.2⟩
def rlat (Ld L:List (Nat × List Int)) (k:Nat):List Int:=(lastOf L k).getD (rat Ld k)
end Go.Proofs.YtjejnlebpcjidaaGreatDoor.Disk
namespace Go.Proofs.YtjejnlebpcjidaaGreatDoor.Disk.Plain
end Go.Proofs.YtjejnlebpcjidaaGreatDoor.Disk.Plain
namespace Go.Proofs.YtjejnlebpcjidaaGreatDoor.Disk
open Go.RowKit Go.Proofs.YtjejnlebpcjidaaGreatDoor.Plain Go.Proofs.YtjejnlebpcjidaaGreatDoor.Disk.Plain
section
variable {P:Program} {md:Region.Mode} {ops:Array Oper} {Q:Exit->Act->World->Prop}
end
theorem infoW2 {x:Nat × List Int}:(Tryz.prog.info? 123).map (·.size)=some (rc x).length:=by kernel_rfl
theorem Rw.range {w:World} {g cap:Nat} {L:List (Nat × List Int)} (h:Rw w (.slice (some ⟨g,0,none⟩) L.length cap) L) (k:Nat) (hk:k<L.length):w.rangeAt g (k*2) (rc L[k]):=by
 obtain ⟨g',c',e,_,hc⟩:=h.at_ (by omega)
 simp only [Value.slice.injEq,Option.some.injEq,Addr.mk.injEq,and_true,true_and] at e
 obtain ⟨rfl,rfl⟩:=e
 obtain ⟨h0,h1⟩:=hc k hk
 intro j v hv
 match j with
 | 0=>simp only [rc,List.getElem?_cons_zero,Option.some.injEq] at hv;subst hv;exact h0
 | 1=>simp only [rc,List.getElem?_cons_succ,List.getElem?_cons_zero,Option.some.injEq] at hv;subst hv;exact h1
 | j+2=>simp [rc] at hv
theorem Rw.some_ {w:World} {a:Option Addr} {c:Nat} {L:List (Nat × List Int)} (h:Rw w (.slice a L.length c) L) (h0:0<L.length):∃g,a=some ⟨g,0,none⟩/\g<w.heap.size:=by
 obtain ⟨g,cap,e,hg,_⟩:=h.at_ h0
 simp only [Value.slice.injEq,true_and] at e
 exact ⟨g,e.1,hg⟩
end Go.Proofs.YtjejnlebpcjidaaGreatDoor.Disk
namespace Go.Proofs.YtjejnlebpcjidaaGreatDoor.Disk.Plain
end Go.Proofs.YtjejnlebpcjidaaGreatDoor.Disk.Plain
namespace Go.Proofs.YtjejnlebpcjidaaGreatDoor.Disk
open Go.RowKit Go.Proofs.YtjejnlebpcjidaaGreatDoor.Plain Go.Proofs.YtjejnlebpcjidaaGreatDoor.Disk.Plain
def fst (L:List (Nat × List Int)) (i:Nat) (k:Nat):Prop:=k<L.length/\(∀h:k<L.length,L[k].1=i)/\∀j (h:j<L.length),j<k->L[j].1≠i
def oth (i:Nat) (L:List (Nat × List Int)):List (Nat × List Int):=L.filter (fun x=>!(decide (x.1=i)))
theorem oth_all (i:Nat) (L:List (Nat × List Int)) (h:∀j (h:j<L.length),L[j].1≠i):oth i L=L:=by
 rw [oth,List.filter_eq_self]
 intro x hx
 obtain ⟨j,hj,rfl⟩:=List.getElem_of_mem hx
 simpa using h j hj
theorem q7c (i:Nat) (L:List (Nat × List Int)) (j:Nat) (h:j<L.length):oth i (L.take (j+1))=oth i (L.take j)++(if L[j].1=i then [] else [L[j]]):=by
 rw [oth,<-List.take_append_getElem h,List.filter_append,oth]
 congr 1
 by_cases e:L[j].1=i<;>simp [e]
theorem z0q (i:Nat) (L:List (Nat × List Int)):(oth i L).length<=L.length:=List.length_filter_le _ _
theorem wcs_len (L:List (Nat × List Int)) (h:Lens L):(wcs L).length=L.length*193:=by
 rw [wcs,q6i _ 193 (fun x hx=>by obtain ⟨y,hy,rfl⟩:=List.mem_map.1 hx;exact q1d y (h y hy)),List.length_map]
theorem lens_oth {i:Nat} {L:List (Nat × List Int)} (h:Lens L):Lens (oth i L):=fun x hx=>h x (List.mem_filter.1 hx).1
theorem lens_take {L:List (Nat × List Int)} (h:Lens L) (j:Nat):Lens (L.take j):=fun x hx=>h x (List.mem_of_mem_take hx)
structure Dl (w wr:World) (g:Nat) (cur:Array Value) (i j:Nat) (L:List (Nat × List Int)):Prop where
 row:∃cs:Array Value,wr.heap[g]?=some (.cells cs 118 (0,0))/\cs.size=cur.size/\cs.toList.take ((oth i (L.take j)).length*193)=wcs (oth i (L.take j))/\cs.toList.drop (j*193)=cur.toList.drop (j*193)
 but:But g w wr
theorem z3r {α:Type} (L vs:List α) (o:Nat) (h:o+vs.length<=L.length):(splice L o vs).take (o+vs.length)=L.take o++vs:=by
 unfold splice
 rw [<-List.append_assoc,List.take_left' (by simp;omega)]
theorem z3z {α:Type} (L vs:List α) (o k:Nat) (h:o+vs.length<=L.length) (hk:o+vs.length<=k):(splice L o vs).drop k=L.drop k:=by
 unfold splice
 rw [<-List.append_assoc,List.drop_append,List.drop_of_length_le (by simp;omega),List.nil_append,List.drop_drop]
 congr 1
 simp
 omega
theorem q9n {α:Type} (L vs:List α) (o:Nat) (h:o+vs.length<=L.length):(splice L o vs).length=L.length:=by
 unfold splice
 simp
 omega
theorem Dl.move {w wr wx:World} {g:Nat} {cur:Array Value} {i j:Nat} {L:List (Nat × List Int)} (h:Dl w wr g cur i j L) (hL:Lens L) (hb:Below wr.heap.size wr wx) (hj:j<L.length) (hlt:(oth i (L.take j)).length<j) (hfit:j*193<=cur.size) (hne:L[j].1≠i):
  Dl w (wx.setCells g ((oth i (L.take j)).length*193) (wc L[j]).toArray.toList) g cur i (j+1) L/\(oth i (L.take (j+1))).length=(oth i (L.take j)).length+1:=by
 obtain ⟨cs,h1,h2,h3,h4⟩:=h.row
 have hg:g<wr.heap.size:=(gE h1)
 have hlen:(wc L[j]).toArray.toList.length=193:=q1d _ (hL _ (List.getElem_mem hj))
 have hm:((oth i (L.take j)).length+1)*193<=j*193:=Nat.mul_le_mul_right _ hlt
 have hf:(oth i (L.take j)).length*193+(wc L[j]).toArray.toList.length<=cs.toList.length:=by
  have hc:cs.toList.length=cur.size:=by rw [Array.length_toList,h2]
  rw [hlen,hc]
  omega
 have e1:oth i (L.take (j+1))=oth i (L.take j)++[L[j]]:=by rw [q7c i L j hj,if_neg hne]
 have hrow:=q1o g _ (wc L[j]).toArray.toList ((oth i (L.take j)).length*193) wx cs ((hb.block g hg).trans h1) (by rw [hlen,h2];omega)
 refine ⟨⟨⟨_,hrow,?_,?_,?_⟩,?_⟩,by rw [e1];simp⟩
 ·rw [List.size_toArray,q9n _ _ _ hf,Array.length_toList,h2]
 ·rw [e1,z6t,List.toList_toArray]
  have e2:(oth i (L.take j)++[L[j]]).length*193=(oth i (L.take j)).length*193+(wc L[j]).toArray.toList.length:=by rw [hlen];simp;omega
  rw [e2,z3r _ _ _ hf,h3]
 ·rw [List.toList_toArray,z3z _ _ _ _ hf (by rw [hlen];omega)]
  have h5:=congrArg (List.drop 193) h4
  rw [List.drop_drop,List.drop_drop] at h5
  rw [show (j+1)*193=j*193+193 by omega]
  exact h5
 ·exact q0t _ _ _ _ _ (h.but.trans ⟨hb.os,hb.tape,hb.output,hb.size,fun k hk _=>hb.block k hk⟩)
theorem Dl.skip {w wr wx:World} {g:Nat} {cur:Array Value} {i j:Nat} {L:List (Nat × List Int)} (h:Dl w wr g cur i j L) (hb:Below wr.heap.size wr wx) (hj:j<L.length) (hne:L[j].1=i):
  Dl w wx g cur i (j+1) L/\oth i (L.take (j+1))=oth i (L.take j):=by
 obtain ⟨cs,h1,h2,h3,h4⟩:=h.row
 have hg:g<wr.heap.size:=(gE h1)
 have e1:oth i (L.take (j+1))=oth i (L.take j):=by rw [q7c i L j hj,if_pos hne];simp
 refine ⟨⟨⟨cs,(hb.block g hg).trans h1,h2,by rw [e1];exact h3,?_⟩,h.but.trans ⟨hb.os,hb.tape,hb.output,hb.size,fun k hk _=>hb.block k hk⟩⟩,e1⟩
 have h5:=congrArg (List.drop 193) h4
 rw [List.drop_drop,List.drop_drop] at h5
 rw [show (j+1)*193=j*193+193 by omega]
 exact h5
theorem Dl.at_ {w wr:World} {g:Nat} {cur:Array Value} {i j:Nat} {L:List (Nat × List Int)} (h:Dl w wr g cur i j L) (hL:Lens L) (hj:j<L.length) (hcur:cur.toList.take (L.length*193)=wcs L):wr.rangeAt g (j*193) (wc L[j]):=by
 obtain ⟨cs,h1,h2,h3,h4⟩:=h.row
 intro q v hv
 have hq:q<193:=by
  have:=(List.getElem?_eq_some_iff.1 hv).1
  rw [q1d _ (hL _ (List.getElem_mem hj))] at this
  exact this
 have hm:(j+1)*193<=L.length*193:=Nat.mul_le_mul_right _ hj
 rw [cell_of_row _ _ _ _ _ _ h1,<-Array.getElem?_toList]
 have e1:cs.toList[j*193+q]?=(cs.toList.drop (j*193))[q]?:=by rw [List.getElem?_drop]
 rw [e1,h4,List.getElem?_drop]
 have e2:cur.toList[j*193+q]?=(cur.toList.take (L.length*193))[j*193+q]?:=by rw [List.getElem?_take,if_pos (by omega)]
 rw [e2,hcur,wcs,Nat.mul_comm j 193,q6h _ 193 (fun x hx=>by obtain ⟨y,hy,rfl⟩:=List.mem_map.1 hx;exact q1d y (hL y hy)) j (by simpa using hj) q hq]
 simpa using hv
end Go.Proofs.YtjejnlebpcjidaaGreatDoor.Disk
namespace Go.Proofs.YtjejnlebpcjidaaGreatDoor.Disk.Plain
end Go.Proofs.YtjejnlebpcjidaaGreatDoor.Disk.Plain
namespace Go.Proofs.YtjejnlebpcjidaaGreatDoor.Disk
open Go.RowKit Go.Proofs.YtjejnlebpcjidaaGreatDoor.Plain Go.Proofs.YtjejnlebpcjidaaGreatDoor.Disk.Plain
theorem z7j (g n cap i:Nat) (hi:i<n) (hc:n<=cap) (hm:cap<=maxLen) (x:World):(Instr.sliceAt 82 (.slice (some ⟨g,0,none⟩) n cap) (some (.int .i64 (i:Int))) none none).run Tryz.prog x=.ok (.slice (some ⟨g,i*193,none⟩) (n-i) (cap-i)) x:=by
 have hu:Tryz.prog.underlying 82=some (.slice (Tryz.prog.elem 82)):=by kernel_rfl
 rw [run_sliceAt_slice (P:=Tryz.prog) x 82 _ _ _ _ hu,run_slice_l (P:=Tryz.prog) x 82 _ n cap hu .i64 (i:Int) (by omega) (by omega)]
 have hs:(sizeOf (Tryz.prog.elem 82)).run Tryz.prog x=.ok 193 x:=by kernel_rfl
 rw [hs,Result.andThen_ok,sliced]
 simp [show ¬cap=i by omega,Addr.add_mid]
theorem z7t (g n cap i:Nat) (hi:i<=n) (hc:n<=cap) (h0:0<cap) (x:World):(Instr.sliceAt 82 (.slice (some ⟨g,0,none⟩) n cap) none (some (.int .i64 (i:Int))) none).run Tryz.prog x=.ok (.slice (some ⟨g,0,none⟩) i cap) x:=by
 have hu:Tryz.prog.underlying 82=some (.slice (Tryz.prog.elem 82)):=by kernel_rfl
 rw [run_sliceAt_slice (P:=Tryz.prog) x 82 _ _ _ _ hu,run_slice_h (P:=Tryz.prog) x 82 _ n cap hu .i64 (i:Int) (by omega) (by omega)]
 have hs:(sizeOf (Tryz.prog.elem 82)).run Tryz.prog x=.ok 193 x:=by kernel_rfl
 rw [hs,Result.andThen_ok,sliced]
 simp [show ¬cap=0 by omega,Addr.add_mid]
def clr (m:Nat):List Value:=(Builtin.zeroCells (wc (0,z192)).toArray m).toList
theorem q7j (m:Nat):(clr m).length=m*193:=by
 rw [clr,Array.length_toList,size_zeroCells,List.size_toArray,q1d _ q0y]
theorem one_clr (m:Nat):∀u∈clr m,u.oneCell'=true:=by
 intro u hu
 rw [clr,Builtin.zeroCells] at hu
 simp only [Array.toList_map,List.mem_map] at hu
 obtain ⟨q,_,rfl⟩:=hu
 have hs:(wc (0,z192)).toArray.size=193:=q1d _ q0y
 rw [hs]
 have hq:q%193<(wc (0,z192)).toArray.size:=by rw [hs];omega
 rw [getElem!_pos (wc (0,z192)).toArray (q%193) hq]
 exact q6q (0,z192) _ (by simp)
theorem z1y {ops:Array Oper} {rest:List Oper} {o:Oper} {act:Act} {w:World} {Q:Exit->Act->World->Prop} (hgd:o.guard=none) (x:Operand) (ho:o.op=.call {callee:=.builtin .clear,args:=#[x],argTypes:=#[82]}) (g off m c:Nat) (hm:0<m) (hx:act.eval x=.slice (some ⟨g,off,none⟩) m c)
  (ht:w.there g off (m*193)) (h:wpList Tryz.prog ops Q rest (act.put o.dst (.tuple #[])) (w.setCells g off (clr m))):wpList Tryz.prog ops Q (o::rest) act w:=by
 have hst:=run_storeCells_cells (P:=Tryz.prog) g off (clr m) 0 w (fun j hj=>by rw [q7j] at hj;simpa using (ht j hj).1) (fun j hj=>by rw [q7j] at hj;simpa using (ht j hj).2) (one_clr m)
 simp only [Nat.add_zero] at hst
 have hz:(zeroValue 118).run Tryz.prog w=.ok (.agg (wc (0,z192)).toArray) w:=by kernel_rfl
 obtain ⟨m',rfl⟩:∃m',m=m'+1:=⟨m-1,by omega⟩
 have hr:(Builtin.clear_ #[82] o.type #[.slice (some ⟨g,off,none⟩) (m'+1) c]).run Tryz.prog w=.ok (.tuple #[]) (w.setCells g off (clr (m'+1))):=by
  simp only [Builtin.clear_,List.getElem?_toArray,List.getElem?_cons_zero,Sem.run_bind,run_underlying Tryz.underlying82,Result.andThen_ok,hz,Value.cells,Sem.run_pure]
  rw [show (Builtin.zeroCells (wc (0,z192)).toArray (m'+1)).toList=clr (m'+1) from rfl,hst]
  rfl
 refine wpList_plain hgd fun _ hK=>?_
 unfold Oper.wp execOp
 simp only [ho,resolve,invoke,builtin,Sem.run_bind,Sem.run_pure,Result.andThen_ok,List.map_toArray,List.map_cons,List.map_nil,hx,hr]
 exact hK _ _ h
theorem wcs_take (L:List (Nat × List Int)) (h:Lens L) (k:Nat) (hk:k<=L.length):(wcs L).take (k*193)=wcs (L.take k):=by
 have e:wcs L=wcs (L.take k)++wcs (L.drop k):=by
  simp only [wcs]
  rw [<-List.flatten_append,<-List.map_append,List.take_append_drop]
 rw [e,List.take_left']
 rw [wcs_len _ (lens_take h k),List.length_take,Nat.min_eq_left hk]
theorem z2a (i:Nat) (L:List (Nat × List Int)) (k:Nat) (h:fst L i k):oth i (L.take (k+1))=L.take k:=by
 have hk:=h.1
 rw [q7c i L k hk,if_pos (h.2.1 hk),List.append_nil]
 refine oth_all i _ (fun j hj=>?_)
 have hj2:j<k:=by simp at hj;omega
 have:=h.2.2 j (by omega) hj2
 simpa using this
theorem Dl.done {w wr:World} {g cap:Nat} {cur:Array Value} {i:Nat} {L:List (Nat × List Int)} (h:Dl w wr g cur i L.length L) (hL:Lens L) (hc:L.length<=cap) (hm:cap<=maxLen) (hs:cur.size=cap*193) (hlt:(oth i L).length<L.length):
  (wr.setCells g ((oth i L).length*193) (clr (L.length-(oth i L).length))).ownsRow 0 118 193 (.slice (some ⟨g,0,none⟩) (oth i L).length cap) (oth i L).length (wcs (oth i L))/\Turned (fun k=>k=g) w (wr.setCells g ((oth i L).length*193) (clr (L.length-(oth i L).length)))/\wr.there g ((oth i L).length*193) ((L.length-(oth i L).length)*193):=by
 obtain ⟨cs,h1,h2,h3,h4⟩:=h.row
 rw [List.take_of_length_le (Nat.le_refl _)] at h3
 have hm1:L.length*193<=cap*193:=Nat.mul_le_mul_right _ hc
 have hsum:(oth i L).length*193+(L.length-(oth i L).length)*193=L.length*193:=by rw [<-Nat.add_mul,Nat.add_sub_cancel' (by omega)]
 have hcl:cs.toList.length=cap*193:=by rw [Array.length_toList,h2,hs]
 have hf:(oth i L).length*193+(clr (L.length-(oth i L).length)).length<=cs.toList.length:=by rw [q7j,hcl];omega
 have hrow:=q1o g _ (clr (L.length-(oth i L).length)) ((oth i L).length*193) wr cs h1 (by rw [<-Array.length_toList];exact hf)
 refine ⟨⟨by rw [wcs_len _ (lens_oth hL)],.inr ⟨g,cap,_,rfl,Nat.zero_le _,hrow,by omega,hm,?_,?_⟩⟩,?_,q0z h1 (by rw [h2,hs];omega)⟩
 ·rw [List.size_toArray,q9n _ _ _ hf,hcl]
 ·rw [List.toList_toArray]
  unfold splice
  rw [List.take_left' (by rw [List.length_take,hcl];omega),h3]
 ·have hb:=q0t g (clr (L.length-(oth i L).length)) ((oth i L).length*193) w wr h.but
  exact ⟨hb.os,hb.tape,hb.output,hb.size,fun k hk hn=>hb.block k hk hn⟩
theorem z2b {w:World} {g:Nat} {cs:List Value} {t:TypeId} (h:w.heap[g]?=some (.cells cs.toArray t (0,0))):w.rangeAt g 0 cs:=fun j v hv=>by
 rw [cell_of_row _ _ _ _ _ _ h,Nat.zero_add]
 simpa using hv
theorem q2n {w w':World} {g o:Nat} {cs:List Value} (h:w.rangeAt g o cs) (hb:Below w.heap.size w w'):w'.rangeAt g o cs:=fun j v hv=>by
 have:=h j v hv
 exact (hb.cell (p:=⟨g,o+j,none⟩) (World.block_lt_of_cell? w _ this)).trans this
theorem least {p:Nat->Prop} (n:Nat) (h:p n):∃k,p k/\∀j,j<k->¬p j:=by
 induction n using Nat.strongRecOn with
 | ind n ih=>
  by_cases hx:∃j,j<n/\p j
  ·obtain ⟨j,hj,hp⟩:=hx
   exact ih j hj hp
  ·exact ⟨n,h,fun j hj hp=>hx ⟨j,hj,hp⟩⟩
theorem z7n {L:List (Nat × List Int)} {i k q:Nat} (h:fst L i k) (h2:fst L i q):k=q:=by
 rcases Nat.lt_trichotomy k q with hl | hl | hl
 ·exact absurd (h.2.1 h.1) (h2.2.2 k h.1 hl)
 ·exact hl
 ·exact absurd (h2.2.1 h2.1) (h.2.2 q h2.1 hl)
theorem own_ways {w:World} {a:Option Addr} {cap:Nat} {L:List (Nat × List Int)} (hL:Lens L) (h:w.ownsRow 0 118 193 (.slice a L.length cap) L.length (wcs L)):Ways w.heap.size w a L:=by
 intro h0
 rcases h.2 with ⟨h1,h2⟩ | ⟨g,cap',cur,h1,hb,hg,_⟩
 ·omega
 ·simp only [Value.slice.injEq,true_and] at h1
  obtain ⟨rfl,rfl⟩:=h1
  refine ⟨g,rfl,(gE hg),fun k hk j v hv=>?_⟩
  have hj:j<193:=by
   have:=(List.getElem?_eq_some_iff.1 hv).1
   rw [q1d _ (hL _ (List.getElem_mem hk))] at this
   exact this
  have:=h.cells (g:=g) rfl (193*k+j) v (by
   rw [wcs,q6h _ 193 (fun x hx=>by obtain ⟨y,hy,rfl⟩:=List.mem_map.1 hx;exact q1d y (hL y hy)) k (by simpa using hk) j hj]
   simpa using hv)
  rw [Addr.add_lit,Nat.zero_add,Nat.mul_comm] at this
  exact this
end Go.Proofs.YtjejnlebpcjidaaGreatDoor.Disk
namespace Go.Proofs.YtjejnlebpcjidaaGreatDoor.Disk.Plain
end Go.Proofs.YtjejnlebpcjidaaGreatDoor.Disk.Plain
namespace Go.Proofs.YtjejnlebpcjidaaGreatDoor.Disk
open Go.RowKit Go.Proofs.YtjejnlebpcjidaaGreatDoor.Plain Go.Proofs.YtjejnlebpcjidaaGreatDoor.Disk.Plain
def tpOk (d:Dk) (i:Nat) (B:List Int):Dk:={d with pl:=upd d.pl i B,uw:=oth i d.uw}
structure Tp (wd:World) (D P S n i:Nat) (B:List Int) (bb off:Nat):Prop where
 c0:wd.cell? ⟨D,0,none⟩=some (.slice (some ⟨P,0,none⟩) n n)
 n0:D≠P
 ci:wd.cell? ⟨S,0,none⟩=some (.int .i64 (i:Int))
 ni:S≠P
 rb:wd.rangeAt bb off (B.map (Value.int .u8))
 nb:bb≠P
 iz:(Tryz.prog.info? 114).map (·.size)=some (B.map (Value.int .u8)).length
 iy:(Tryz.prog.info? 114).map (·.size)=some (u8s B).size
 th:wd.there P (i*192) (u8s B).size
theorem Tp.drew {w wd:World} {D P S n i:Nat} {B:List Int} {bb off:Nat} (h:Tp w D P S n i B bb off) (hwd:wd=w.drew):Tp wd D P S n i B bb off:=by
 subst hwd
 exact ⟨h.c0,h.n0,h.ci,h.ni,h.rb,h.nb,h.iz,h.iy,h.th⟩
theorem At.struck {w w2:World} {D P:Nat} {uv ov v':Value} {d:Dk} (h:At w D P uv ov d) (i:Nat) (hown:w2.ownsRow 0 118 193 v' (oth i d.uw).length (wcs (oth i d.uw))) (ht:Turned (fun k=>uv.ownBlock=some k) w w2) (hv:∀k,v'.ownBlock=some k->uv.ownBlock=some k):
  At (w2.setCell ⟨D,1,none⟩ v') D P v' ov {d with uw:=oth i d.uw}/\Turned (foot D P uv ov) w (w2.setCell ⟨D,1,none⟩ v')/\(∀k,foot D P v' ov k->foot D P uv ov k)/\w2.cell? ⟨D,1,none⟩=some uv/\w2.frozen? ⟨D,1,none⟩=false:=by
 obtain ⟨cs,h1,h2⟩:=h.hp
 have hlt:=h.lt
 have sm:∀k,k<w.heap.size->uv.ownBlock≠some k->w2.heap[k]?=w.heap[k]?:=fun k hk hn=>ht.block k hk hn
 have hD2:=sm D (hlt D (.inl rfl)) h.neU.1
 have hD:(w2.setCell ⟨D,1,none⟩ v').heap[D]?=_:=heap_setCell_same w2 D 1 _ _ v' (hD2.trans h.hd)
 have nD:v'.ownBlock≠some D:=fun e=>h.neU.1 (hv D e)
 have nP:v'.ownBlock≠some P:=fun e=>h.neU.2 (hv P e)
 have c1:=h.cells
 refine ⟨⟨hD,⟨cs,?_,h2⟩,h.hpl,h.hn,q0j hown (fun k hk=>heap_setCell_other w2 ⟨D,1,none⟩ k _ (q7t nD hk)),fun x hx=>h.huw x (List.mem_filter.1 hx).1,q0j h.ho (fun k hk=>?_),h.neP,⟨nD,nP⟩,h.neO,?_⟩,?_,?_,(World.cell?_of_block hD2).trans c1.2.1,(World.frozen?_of_block hD2).trans (c1.2.2.2.2.2.2 1)⟩
 ·rw [heap_setCell_other w2 ⟨D,1,none⟩ P _ (Ne.symm h.neP),sm P (hlt P (.inr (.inl rfl))) h.neU.2];exact h1
 ·rw [heap_setCell_other w2 ⟨D,1,none⟩ k _ (q7t h.neO.1 hk)]
  refine sm k (hlt k (.inr (.inr (.inr hk)))) (fun e=>?_)
  rcases h.neUO with hn | hn
  ·rw [hn] at e;cases e
  ·exact hn (by rw [hk,e])
 ·cases hu:v'.ownBlock with
  | none=>exact .inl rfl
  | some u=>
   refine .inr (fun e=>?_)
   have h5:=hv u hu
   rcases h.neUO with hn | hn
   ·rw [hn] at h5;cases h5
   ·exact hn (by rw [h5,e])
 ·exact ⟨ht.os,ht.tape,ht.output,by simpa using ht.size,fun k hk hn=>by
   rw [heap_setCell_other w2 ⟨D,1,none⟩ k _ (fun e=>hn (.inl e))]
   exact sm k hk (fun e=>hn (.inr (.inr (.inl e))))⟩
 ·rintro k (rfl | rfl | hk | hk)
  ·exact .inl rfl
  ·exact .inr (.inl rfl)
  ·exact .inr (.inr (.inl (hv k hk)))
  ·exact .inr (.inr (.inr hk))
end Go.Proofs.YtjejnlebpcjidaaGreatDoor.Disk
namespace Go.Proofs.YtjejnlebpcjidaaGreatDoor.Disk.Plain
end Go.Proofs.YtjejnlebpcjidaaGreatDoor.Disk.Plain
namespace Go.Proofs.YtjejnlebpcjidaaGreatDoor.Disk
open Go.RowKit Go.Proofs.YtjejnlebpcjidaaGreatDoor.Plain Go.Proofs.YtjejnlebpcjidaaGreatDoor.Disk.Plain
theorem Bx.grow {S:Nat} {w0 w w':World} {V:List Value} {o:Obj} {row:Option Nat} (h:Bx S w0 w V) (hg:(w.alloc o).grownBy w' row) (hr:∀q,row=some q->S+2<=q):Bx S w0 w' V:=by
 obtain ⟨Z,h1,h2⟩:=h.hR
 have hl:=h.lt
 have hb:∀k,k<w.heap.size->k<S+2->w'.heap[k]?=w.heap[k]?:=fun k hk hk2=>by
  rw [hg.block k (by simp;omega) (fun e=>by have:=hr k e.symm;omega),Below.heap_alloc w o k hk]
 refine ⟨(hb S (by omega) (by omega)).trans h.hB,⟨Z,(hb (S+1) (by omega) (by omega)).trans h1,h2⟩,⟨hg.os.trans h.tu.os,hg.tape.trans h.tu.tape,hg.output.trans h.tu.output,?_,fun k hk hn=>?_⟩,h.sz⟩
 ·have h3:=hg.size
  have h4:=h.tu.size
  simp at h3
  omega
 ·have hs:=h.sz
  rw [hb k (by have:=h.tu.size;omega) (by omega)]
  exact h.tu.block k hk hn
theorem own_grow {w w':World} {base n:Nat} {e:TypeId} {sz:Nat} {v:Value} {xs:List Value} {o:Obj} {row:Option Nat} (h:w.ownsRow base e sz v n xs) (hg:(w.alloc o).grownBy w' row) (hr:∀q,row=some q->v.ownBlock≠some q):w'.ownsRow base e sz v n xs:=
 q0j h (fun k hk=>by
  have hk2:=(h.lt k hk).2
  rw [hg.block k (by simp;omega) (fun e=>hr k e.symm hk),Below.heap_alloc w o k hk2])
structure Tm (S:Nat) (w wr:World) (V:List Value) (v4 lv:Value) (M N:List (Nat × List Int)):Prop where
 bx:Bx S w wr V
 r4:Rw wr v4 M
 rl:Rw wr lv N
 nl:∀q,lv.ownBlock=some q->S+2<=q/\v4.ownBlock≠some q
theorem Tm.step {S:Nat} {w wr w3:World} {V:List Value} {v4 lv v3:Value} {M N:List (Nat × List Int)} {x:Nat × List Int} {o:Obj} (h:Tm S w wr V v4 lv M N) (hown:w3.ownsRow 0 123 2 v3 (N.length+1) (rcs N++rc x)) (hg:(wr.alloc o).grownBy w3 lv.ownBlock) (hb:∀k,v3.ownBlock=some k->lv.ownBlock=some k∨(wr.alloc o).heap.size<=k):Tm S w w3 V v4 v3 M (N++[x]):=by
 refine ⟨h.bx.grow hg (fun q hq=>(h.nl q hq).1),own_grow h.r4 hg (fun q hq=>(h.nl q hq).2),?_,fun q hq=>?_⟩
 ·unfold Rw
  rw [z6l,List.length_append]
  exact hown
 ·rcases hb q hq with e | e
  ·exact h.nl q e
  ·simp at e
   have:=h.bx.lt
   exact ⟨by omega,fun e4=>by have:=(h.r4.lt q e4).2;omega⟩
end Go.Proofs.YtjejnlebpcjidaaGreatDoor.Disk
namespace Go.Proofs.YtjejnlebpcjidaaGreatDoor.Disk.Plain
end Go.Proofs.YtjejnlebpcjidaaGreatDoor.Disk.Plain
namespace Go.Proofs.YtjejnlebpcjidaaGreatDoor.Disk
open Go.RowKit Go.Proofs.YtjejnlebpcjidaaGreatDoor.Plain Go.Proofs.YtjejnlebpcjidaaGreatDoor.Disk.Plain
def Own4 (t:TypeId):Prop:=t=85∨t=114∨t=118∨t=161
def Fr (w w':World):Prop:=w.heap.size<=w'.heap.size/\∀(k:Nat) (cs:Array Value) (t:TypeId) (fr:Nat × Nat),w.heap[k]?=some (.cells cs t fr)->¬Own4 t->w'.heap[k]?=w.heap[k]?
theorem Fr.trans {a b c:World} (h:Fr a b) (g:Fr b c):Fr a c:=⟨Nat.le_trans h.1 g.1,fun k cs t fr hk ht=>by
 have h1:=h.2 k cs t fr hk ht
 exact (g.2 k cs t fr (h1.trans hk) ht).trans h1⟩
theorem Fr.below {a b:World} (h:Below a.heap.size a b):Fr a b:=⟨h.size,fun k cs t fr hk _=>h.block k (gE hk)⟩
theorem Fr.own {w w':World} (h:Fr w w') {base n:Nat} {e:TypeId} {sz:Nat} {v:Value} {xs:List Value} (ho:w.ownsRow base e sz v n xs) (he:¬Own4 e):w'.ownsRow base e sz v n xs:=
 q0j ho (fun k hk=>by
  rcases ho.2 with ⟨rfl,_⟩ | ⟨g,cap,cur,rfl,_,hg,_⟩
  ·simp [Value.ownBlock] at hk
  ·simp only [Value.ownBlock,Option.some.injEq] at hk
   subst hk
   exact h.2 _ _ _ _ hg he)
theorem Rv.fr {w w':World} {v:Value} {r:Rd} (h:Rv w v r) (f:Fr w w'):Rv w' v r:=by
 obtain ⟨vd,vw,vo,rfl,h1,h2,h3⟩:=h
 exact ⟨vd,vw,vo,rfl,f.own h1 (by unfold Own4;decide),f.own h2 (by unfold Own4;decide),f.own h3 (by unfold Own4;decide)⟩
def Cm (w0 w:World) (D:Nat) (d:Dk):Prop:=∃fp,Cx w0 w D fp d
theorem Cm.foot {w0 w:World} {D:Nat} {d:Dk} (h:Cm w0 w D d):∃fp,Cx w0 w D fp d/\∀(k:Nat) (cs:Array Value) (t:TypeId) (fr:Nat × Nat),w.heap[k]?=some (.cells cs t fr)->¬Own4 t->¬fp k:=by
 obtain ⟨fp,⟨P,uv,ov,h1,h2⟩,hb,hlo,hhi⟩:=h
 refine ⟨Go.Proofs.YtjejnlebpcjidaaGreatDoor.Disk.foot D P uv ov,⟨⟨P,uv,ov,h1,fun _ hk=>hk⟩,hb,fun k hk=>hlo k (h2 k hk),fun k hk=>h1.lt k hk⟩,fun k cs t fr hk ht hf=>ht ?_⟩
 rcases hf with rfl | rfl | hf | hf
 ·rw [h1.hd] at hk
  simp only [Option.some.injEq,Obj.cells.injEq] at hk
  exact .inl hk.2.1.symm
 ·obtain ⟨c,h3,_⟩:=h1.hp
  rw [h3] at hk
  simp only [Option.some.injEq,Obj.cells.injEq] at hk
  exact .inr (.inl hk.2.1.symm)
 ·rcases h1.hu.2 with ⟨e,_⟩ | ⟨g,cap,cur,e,_,hg,_⟩
  ·rw [e] at hf;simp [Value.ownBlock] at hf
  ·rw [e] at hf
   simp only [Value.ownBlock,Option.some.injEq] at hf
   subst hf
   rw [hg] at hk
   simp only [Option.some.injEq,Obj.cells.injEq] at hk
   exact .inr (.inr (.inl hk.2.1.symm))
 ·rcases h1.ho.2 with ⟨e,_⟩ | ⟨g,cap,cur,e,_,hg,_⟩
  ·rw [e] at hf;simp [Value.ownBlock] at hf
  ·rw [e] at hf
   simp only [Value.ownBlock,Option.some.injEq] at hf
   subst hf
   rw [hg] at hk
   simp only [Option.some.injEq,Obj.cells.injEq] at hk
   exact .inr (.inr (.inr hk.2.1.symm))
theorem Cm.step {w0 w w':World} {D:Nat} {d:Dk} (h:Cm w0 w D d) (hb:Below w.heap.size w w'):Cm w0 w' D d:=by
 obtain ⟨fp,c⟩:=h
 exact ⟨fp,c.step hb⟩
theorem z5o {w w':World} {fp fp':Nat->Prop} (hf:∀(k:Nat) (cs:Array Value) (t:TypeId) (fr:Nat × Nat),w.heap[k]?=some (.cells cs t fr)->¬Own4 t->¬fp k) (h:Fol w fp w' fp'):Fr w w':=
 ⟨h.t.size,fun k cs t fr hk ht=>h.t.block k (gE hk) (hf k cs t fr hk ht)⟩
structure J (k:Nat) (d:Dk) (r:Rd):Prop where
 n:r.n=d.n
 pl:∀i,rat r.done i=d.pl i
 way:r.way=d.uw
 down:r.down=d.down
 st:d.st=true->r.left=d.left
 no:d.st=false->r.left=-1
 lo:0<=d.left/\d.left<=9223372036854775807
 ops:r.ops=d.ops
 l1:r.done.length+r.way.length<=k
 l2:r.ops.length<=k
theorem J.on {k:Nat} {d:Dk} {r:Rd} (h:J k d r):J (k+1) d r:=⟨h.n,h.pl,h.way,h.down,h.st,h.no,h.lo,h.ops,by have:=h.l1;omega,by have:=h.l2;omega⟩
theorem j_new (n:Nat):J 0 (dk0 n) (rd0 n):=⟨rfl,fun _=>rfl,rfl,rfl,fun h=>by simp [dk0] at h,fun _=>rfl,by simp [dk0],rfl,Nat.le_refl _,Nat.le_refl _⟩
theorem rat_app (A L:List (Nat × List Int)) (i:Nat):rat (A++L) i=lay L (rat A) i:=by
 induction L using z6j with
 | nil=>simp [lay]
 | snoc L x ih=>
  rw [<-List.append_assoc,lay_snoc,rat,q8q,upd]
  by_cases e:x.1=i
  ·simp [e]
  ·rw [if_neg e,if_neg (fun h=>e h.symm),<-ih,rat]
theorem oneR {w:World} {v:Value} {L:List (Nat × List Int)} (h:Rw w v L):v.oneCell'=true:=q3y h
theorem oneO {w:World} {v:Value} {L:List (Int × Int)} (h:Ro w v L):v.oneCell'=true:=q3y h
theorem fit_r {k:Nat} {d:Dk} {r:Rd} (h:J k d r) (i:Int) (len:Nat):rfit r.n i len=fit d i len:=by
 rw [h.n]
 rfl
end Go.Proofs.YtjejnlebpcjidaaGreatDoor.Disk
