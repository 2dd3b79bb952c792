/-
 Strings of bytes, rows of bytes of a call's own, slices of them; what Pad of package word answers; nothing of sealing is said here. And what follows it.
-/
import Derived.Deep.OwnRows
import Derived.Laws.IdiomStrings
import Derived.Laws.Strings2
import Derived.Maps.AppendAt
import Derived.OpenShut
import Derived.Deep.Cut
import Derived.Test.YtjejnlebpcjidaaGreatDoorQ14
import Derived.Test.YtjejnlebpcjidaaGreatDoorQ01
set_option linter.unusedVariables false
set_option maxRecDepth 100000
set_option maxRecDepth 100000
namespace Go.Proofs.YtjejnlebpcjidaaGreatDoor.Seal
open Go.RowKit Go.Proofs.YtjejnlebpcjidaaGreatDoor.Plain Go.Proofs.YtjejnlebpcjidaaGreatDoor.Seal.Plain
theorem q4c {o:Oper} {a:Act} {w':World} (t:TypeId) (n:Nat) (hu:Tryz.prog.underlying t=some (.array n 5)) (ht:(Tryz.prog.info? t).map (·.size)=some n) (x:Operand) (ho:o.op=.load t x) (g:Nat) (hx:a.eval x=.pointer (some ⟨g,0,none⟩)) (X:List Int) (hX:X.length=n) (hg:w'.heap[g]?=some (.cells (u8s X) t (0,0))):
  (execOp a.eval o).run Tryz.prog w'=.ok (.value (.agg (u8s X))) w':=by
 have hs:(u8s X).size=n:=by rw [q0h,hX]
 unfold execOp
 simp only [ho,hx,Instr.loadAt,Instr.sureAddr,Sem.run_bind,Sem.run_pure,Result.andThen_ok,run_loadVar_row w' g t t (u8s X) (0,0) _ hg hu rfl (by rw [hs];exact ht)]
theorem q1w (L:List Int):(strOfNums L).size=L.length:=by
 show (strOfNums L).data.size=L.length
 simp [strOfNums]
theorem q7m {o:Oper} {a:Act} {w':World} (t:TypeId) (x:Operand) (lo hi:Option Operand) (ho:o.op=.slice t x lo hi none) (r:Value) (h:(Instr.sliceAt t (a.eval x) (lo.map a.eval) (hi.map a.eval) none).run Tryz.prog w'=.ok r w'):
  (execOp a.eval o).run Tryz.prog w'=.ok (.value r) w':=by
 unfold execOp
 simp only [ho,Option.map_none,Sem.run_bind,Sem.run_pure,h,Result.andThen_ok]
theorem z5t (a:Option Addr) (len cap n:Nat) (hn:n<=len) (hc:len<=cap):∃a',(∀x,(Instr.sliceAt 57 (.slice a len cap) (some (.int .i64 (n:Int))) none none).run Tryz.prog x=.ok (.slice a' (len-n) (cap-n)) x)/\∀x B,Bytes x a len B->Bytes x a' (len-n) (B.drop n):=by
 refine ⟨if cap=n then a else a.map (·.add (n*1)),fun x=>?_,fun x B hB=>?_⟩
 ·have hu:Tryz.prog.underlying 57=some (.slice (Tryz.prog.elem 57)):=by kernel_rfl
  rw [run_sliceAt_slice (P:=Tryz.prog) x 57 _ _ _ _ hu,run_slice_l (P:=Tryz.prog) x 57 a len cap hu .i64 (n:Int) (by omega) (by omega)]
  have hs:(sizeOf (Tryz.prog.elem 57)).run Tryz.prog x=.ok 1 x:=by kernel_rfl
  rw [hs,Result.andThen_ok,sliced]
  simp
 ·refine ⟨by rw [List.length_drop,hB.1],q8b B n hB.2.1,fun hp=>?_⟩
  obtain ⟨b,off,rfl,hlt,hcl⟩:=hB.2.2 (by omega)
  rw [if_neg (by omega)]
  refine ⟨b,off+n,by simp [Addr.add_mid],hlt,fun i hi=>?_⟩
  rw [Nat.add_assoc,hcl (n+i) (by omega)]
  simp [List.getD,List.getElem?_drop]
def Tw (w x:World) (S:Nat) (K N:List Int):Prop:=x.heap[S]?=some (.cells (u8s K) 23 (0,0))/\x.heap[S+1]?=some (.cells (u8s N) 157 (0,0))/\Below w.heap.size w x
theorem Tw.on {w x y:World} {S:Nat} {K N:List Int} (h:Tw w x S K N) (hb:Below x.heap.size x y):Tw w y S K N:=⟨q2f h.1 hb,q2f h.2.1 hb,q0a h.2.2 hb⟩
theorem q3j {w:World} {base n c:Nat} {v:Value} {xs:List Value} {ty:TypeId} (h:w.ownsRow base 5 1 v n xs):(Builtin.append_ #[57,57] ty #[v,.slice none 0 c]).run Tryz.prog w=.ok v w:=by
 obtain ⟨i0,hi,hz0,hz1,hz2⟩:=info_parts Tryz.info5
 rcases h.2 with ⟨rfl,rfl⟩ | ⟨g,cap',cur,rfl,_,_,hle,_⟩
 ·simp [Builtin.append_,run_underlying Tryz.underlying57,sizeOf,typeInfo,hi,Builtin.lenOf,Builtin.firstCells]
 ·simp [Builtin.append_,run_underlying Tryz.underlying57,sizeOf,typeInfo,hi,Builtin.lenOf,Builtin.firstCells,hle,storeCells]
theorem q1m {ops:Array Oper} {rest:List Oper} {o:Oper} {act:Act} {w:World} {Q:Exit->Act->World->Prop} (hgd:o.guard=none) (s x:Operand)
  (ho:o.op=.call {callee:=.builtin .append,args:=#[s,x],argTypes:=#[57,57]}) (base n m c:Nat) (v:Value) (A L:List Int) (a:Option Addr) (w0:World)
  (hs:act.eval s=v) (hx:act.eval x=.slice a m c) (hown:w.ownsRow base 5 1 v n (A.map (Value.int .u8))) (hb:Bytes w a m L) (hl:n+m<=140737488355328) (hbel:Below base w0 w) (hbase:base<=w.heap.size)
  (h:∀v' w',Box (w'.ownsRow base 5 1 v' (n+m) ((A++L).map (Value.int .u8))/\Below base w0 w'/\base<=w'.heap.size)->wpList Tryz.prog ops Q rest (act.put o.dst v') w'):wpList Tryz.prog ops Q (o::rest) act w:=by
 obtain ⟨i0,hi,hz0,hz1,hz2⟩:=info_parts Tryz.info5
 cases a with
 | none=>
  have hm:m=0:=by
   by_cases hm:m=0
   ·exact hm
   ·obtain ⟨_,_,he,_⟩:=hb.2.2 (by omega)
    cases he
  subst hm
  obtain rfl:L=[]:=List.eq_nil_of_length_eq_zero hb.1
  refine wpList_plain hgd fun _ hK=>?_
  unfold Oper.wp execOp
  simp only [ho,resolve,invoke,builtin,Sem.run_bind,Sem.run_pure,Result.andThen_ok,List.map_toArray,List.map_cons,List.map_nil,hs,hx,q3j hown]
  exact hK _ _ (h v w ⟨by simpa using hown,hbel,hbase⟩)
 | some ad=>
  refine wpList_append_own w hgd s x 57 ho base 5 i0 (.int .u8 0) 1 1 Tryz.underlying57 hi hz0 hz1 hz2 rfl (by decide) v n _ hs hown ad m c (L.map (Value.int .u8)) hx (by simp [hb.1]) (hb.news) (ints_oneCell _ _) (by unfold maxLen;omega) (by omega) hbase ?_
  intro v' w' h1 h2 _
  have:=h2.size
  exact h v' w' ⟨by rw [List.map_append];exact h1,hbel.grown h2 hbase (q2c hown),by omega⟩
set_option maxHeartbeats 400000 in
theorem pad_ok (a:Option Addr) (len cap:Nat) (L:List Int) (n:Nat) (w:World) (hb:Bytes w a len L) (h1:1<=n) (h2:n<=2147483648):
  Calls Tryz.prog 97 #[.slice a len cap,.int .i64 n] w fun e w'=>∃g,e=.returned (.slice (some ⟨g,0,none⟩) n n)/\Out w w' (some ⟨g,0,none⟩) n n (padTo L n):=by
 obtain ⟨i0,hi,hz0,hz1,hz2⟩:=info_parts Tryz.info5
 have hlm:n<=maxLen:=by unfold maxLen;omega
 have hLl:=hb.1
 have hn1:¬(n:Int)<1:=by omega
 have hn2:¬(2147483648:Int)<(n:Int):=by omega
 go_enter Tryz.func97,Tryz.ntmps97
 go_wp2_with (first | (at_make;refine wpList_make_full _ rfl (.tmp 13) (.tmp 13) 57 rfl _ 5 i0 (.int .u8 0) 1 Tryz.underlying57 hi hz0 hz1 _ _ _ _ n rfl rfl rfl rfl (by rw [hz2];omega) hlm (Nat.le_refl _) ?_;intro w1 hown hgrow;have HR:=q5y hown;clear hown;have hbl:=(Below.refl w.heap.size w).grown hgrow (Nat.le_refl _) (by simp);have hb1:=hb.below hbl) | (refine wpList_copy_splice rfl (.tmp 15) (.tmp 16) 57 57 rfl 5 Tryz.underlying57 size5 _ _ _ _ _ _ rfl rfl w.heap.size 0 _ 5 HR ((L.take n).map (Value.int .u8)) (z6z L n len hLl) (fun h=>⟨rfl,hb1.src_take n (pos_cut L n len hLl h)⟩) (fit_cut L n) (ints_oneCell _ _) w.heap.size w hbl (Nat.le_refl _) ?_;intro w2 HG2 hB2))
 have HG:=HG2.out
 rw [z6y L n] at HG
 clear HR hgrow HG2 hb1 hb
 go_ret
 exact ⟨_,rfl,Out.of_row (q4g L n) hlm (Nat.le_refl _) HG hB2⟩
theorem slice_mid (a:Option Addr) (len cap lo hi:Nat) (h1:lo<=hi) (hn:hi<=len) (hc:len<=cap):∃a',(∀x,(Instr.sliceAt 57 (.slice a len cap) (some (.int .i64 (lo:Int))) (some (.int .i64 (hi:Int))) none).run Tryz.prog x=.ok (.slice a' (hi-lo) (cap-lo)) x)/\∀x B,Bytes x a len B->Bytes x a' (hi-lo) ((B.take hi).drop lo):=by
 refine ⟨if cap=lo then a else a.map (·.add (lo*1)),fun x=>?_,fun x B hB=>?_⟩
 ·have hu:Tryz.prog.underlying 57=some (.slice (Tryz.prog.elem 57)):=by kernel_rfl
  rw [run_sliceAt_slice (P:=Tryz.prog) x 57 _ _ _ _ hu,run_slice_lh (P:=Tryz.prog) x 57 a len cap hu .i64 .i64 (lo:Int) (hi:Int) (by omega) (by omega) (by omega)]
  have hs:(sizeOf (Tryz.prog.elem 57)).run Tryz.prog x=.ok 1 x:=by kernel_rfl
  rw [hs,Result.andThen_ok,sliced]
  simp
 ·refine ⟨by rw [List.length_drop,List.length_take,hB.1];omega,q8b _ lo (q8g B hi hB.2.1),fun hp=>?_⟩
  obtain ⟨b,off,rfl,hlt,hcl⟩:=hB.2.2 (by omega)
  rw [if_neg (by omega)]
  refine ⟨b,off+lo,by simp [Addr.add_mid],hlt,fun i hi'=>?_⟩
  rw [Nat.add_assoc,hcl (lo+i) (by omega)]
  simp [List.getD,List.getElem?_drop,show lo+i<hi by omega]
theorem z3m (z:Int) (h:0<=z/\z<=255):((UInt8.ofNat z.toNat).toNat:Int)=z:=by simp;omega
theorem q4x (L:List Int):(strOfNums L).data=(L.map fun n=>UInt8.ofNat n.toNat).toArray:=rfl
theorem q5q (w:World) (L:List Int) (hL:Byt L):∃c w',(convert 9 57 (.string (strOfNums L))).run Tryz.prog w=.ok (.slice (some ⟨w.heap.size,0,none⟩) L.length c) w'/\Bytes w' (some ⟨w.heap.size,0,none⟩) L.length L/\Below w.heap.size w w':=by
 have h:=run_bytes_of_string (P:=Tryz.prog) w 9 57 5 (strOfNums L) Tryz.underlying9 Tryz.underlying57 Tryz.underlying5
 rw [q1w] at h
 refine ⟨_,_,h,⟨rfl,hL,fun hp=>⟨w.heap.size,0,rfl,by simp,fun i hi=>?_⟩⟩,((Below.refl _ _).drew).alloc (Nat.le_refl _) _⟩
 have ha:(w.drew.alloc (.cells (bytesRow (strOfNums L) (grownCap w L.length 0 5)) 5 ((bytesRow (strOfNums L) (grownCap w L.length 0 5)).size,(bytesRow (strOfNums L) (grownCap w L.length 0 5)).size+1))).heap[w.heap.size]?=some (.cells (bytesRow (strOfNums L) (grownCap w L.length 0 5)) 5 ((bytesRow (strOfNums L) (grownCap w L.length 0 5)).size,(bytesRow (strOfNums L) (grownCap w L.length 0 5)).size+1)):=q0g rfl
 rw [cell_of_row _ _ _ _ _ _ ha,Nat.zero_add]
 have hb:=hL i
 have hg:L.getD i 0=L[i]:=by simp [List.getD,hi]
 rw [hg] at hb ⊢
 unfold bytesRow
 rw [Array.getElem?_append_left (by simp [q4x];exact hi)]
 simp [q4x,hi]
 omega
theorem q5h (L:List Int) (hL:Byt L) (i:Nat) (hi:i<L.length) (w:World):(Instr.index 9 (.string (strOfNums L)) (.int .i64 (i:Int))).run Tryz.prog w=.ok (.int .u8 (L.getD i 0)) w:=by
 rw [run_index_string w 9 _ .i64 (i:Int) Tryz.underlying9,dif_pos ⟨by omega,by rw [q1w];omega⟩]
 have hb:=hL i
 have hg:L.getD i 0=L[i]:=by simp [List.getD,hi]
 rw [hg] at hb ⊢
 have e:((strOfNums L)[(i:Int).toNat]'(by rw [q1w];omega))=UInt8.ofNat (L[i]).toNat:=by
  simp only [Int.toNat_natCast]
  show (strOfNums L).data[i]'_=_
  simp [q4x]
 rw [e,z3m _ hb]
theorem slice_str (L:List Int) (lo hi:Nat) (h1:lo<=hi) (h2:hi<=L.length) (w:World):(Instr.sliceAt 9 (.string (strOfNums L)) (some (.int .i64 (lo:Int))) (some (.int .i64 (hi:Int))) none).run Tryz.prog w=.ok (.string (strOfNums ((L.take hi).drop lo))) w:=by
 rw [run_sliceAt_string w 9 _ _ _ _ Tryz.underlying9,run_slice_string w 9 _ .i64 .i64 _ _ Tryz.underlying9 (by omega) (by omega) (by rw [q1w];omega)]
 have e:(strOfNums L).extract (lo:Int).toNat (hi:Int).toNat=strOfNums ((L.take hi).drop lo):=by
  simp only [Int.toNat_natCast]
  have:=ByteArray.extract_mk (L.map fun n=>UInt8.ofNat n.toNat) lo hi
  unfold strOfNums
  rw [this]
  simp [List.drop_take]
 rw [e]
end Go.Proofs.YtjejnlebpcjidaaGreatDoor.Seal
namespace Go.Proofs.YtjejnlebpcjidaaGreatDoor.Seal
open Go.RowKit Go.Proofs.YtjejnlebpcjidaaGreatDoor.Plain Go.Proofs.YtjejnlebpcjidaaGreatDoor.Seal.Plain
theorem q4z (n:Int) (w:World) (h:n=160∨n=176):Calls Tryz.prog 95 #[.int .i64 n] w fun e w'=>e=.returned (.bool true)/\w=w':=by
 rcases h with rfl | rfl
 all_goals
  go_enter Tryz.func95,Tryz.ntmps95
  go_wp2
  go_ret
  exact ⟨rfl,rfl⟩
set_option maxRecDepth 20000 in
set_option maxHeartbeats 1000000 in
theorem scrypt_in (K X B:List Int) (p v:Int) (a:Option Addr) (len cap:Nat) (w:World) (hKl:K.length=32)
  (C1:Box (∀x,Calls Tryz.prog 116 #[.int .u32 p,.int .u64 v] x fun e w'=>e=.returned (.agg (u8s X))/\Below x.heap.size x w'))
  (C2:Box (∀x,Below w.heap.size w x->Calls Tryz.prog 115 #[.agg (u8s K),.int .u32 0,.agg (u8s X),.slice a len cap] x fun e w'=>∃a',e=.returned (.tuple #[.slice a' len len,.int .i64 0])/\Bytes w' a' len (cr K 0 X B len)/\Below x.heap.size x w')):
  Calls Tryz.prog 96 #[.agg (u8s K),.int .u32 p,.int .u64 v,.slice a len cap] w fun e w'=>∃a',e=.returned (.slice a' len len)/\Bytes w' a' len (cr K 0 X B len)/\Below w.heap.size w w':=by
 obtain ⟨S,hS⟩:=nm w.heap.size
 have HS:Hid (w.heap.size=S):=hS
 have H0:Box ((w.alloc (.cells (u8s K) 23)).heap[S]?=some (.cells (u8s K) 23 (0,0))/\Below w.heap.size w (w.alloc (.cells (u8s K) 23))):=⟨q0g hS,(Below.refl _ _).alloc (Nat.le_refl _) _⟩
 clear hS
 go_enter Tryz.func96,Tryz.ntmps96
 go_upto_region 1 with fail
 rw [HS.out]
 generalize w.alloc (.cells (u8s K) 23)=x0 at H0 ⊢
 refine Seq.q1t (by kernel_rfl) (fun wd hd=>?_)
 refine Seq.take_lx (i:=0) (v:=.agg (u8s K)) rfl (fun w' hLat=>q4c 23 32 Tryz.underlying23 size32 (.tmp 4) rfl S rfl K hKl (q2f (q2f H0.out.1 hd) hLat)) ?_
 try simp only [Act.put,pC,pD,pE,pF,pG]
 refine Seq.take_ly (i:=1) rfl ?_
 try simp only [Act.put,pC,pD,pE,pF,pG,pH]
 refine Seq.take_ly (i:=2) rfl ?_
 try simp only [Act.put,pC,pD,pE,pF,pG,pH]
 refine Seq.take_ly (i:=4) rfl ?_
 try simp only [Act.put,pC,pD,pE,pF,pG,pH]
 refine Seq.q1k (i:=3) rfl (by kernel_rfl) (fun KK hK=>?_)
 rw [if_pos (by rfl)]
 go_simp
 refine Calls.mono (C1.out wd) ?_
 rintro e w2 ⟨rfl,hb2⟩
 have H2:Box (Below w.heap.size w w2):=⟨q0a (q0a H0.out.2 hd) hb2⟩
 refine hK.out _ _ hb2 ?_
 clear hb2
 clear hK KK
 try simp only [Act.put,pC,pD,pE,pF,pG,pH]
 refine Seq.q1k (i:=5) rfl (by kernel_rfl) (fun KK hK=>?_)
 rw [if_pos (by rfl)]
 go_simp
 refine Calls.mono (C2.out w2 H2.out) ?_
 rintro e w3 ⟨a3,rfl,hB3,hb3⟩
 have H3:Box (Bytes w3 a3 len (cr K 0 X B len)/\Below w.heap.size w w3):=⟨hB3,q0a H2.out hb3⟩
 refine hK.out _ _ hb3 ?_
 clear hb3 hB3
 clear hK KK
 try simp only [Act.put,pC,pD,pE,pF,pG,pH]
 refine Seq.take_ly (i:=6) rfl ?_
 try simp only [Act.put,pC,pD,pE,pF,pG,pH]
 refine Seq.take_ly (i:=7) rfl ?_
 try simp only [Act.put,pC,pD,pE,pF,pG,pH]
 refine Seq.take_ly (i:=8) rfl ?_
 try simp only [Act.put,pC,pD,pE,pF,pG,pH]
 refine Seq.take_ly (i:=9) rfl ?_
 try simp only [Act.put,pC,pD,pE,pF,pG,pH]
 refine Seq.take_ly (i:=10) rfl ?_
 try simp only [Act.put,pC,pD,pE,pF,pG,pH]
 refine wpAnyH_done (by kernel_rfl) ?_ _
 go_wp2
 go_ret
 exact ⟨a3,rfl,H3.out.1,H3.out.2⟩
theorem q9l (K B:List Int) (p v:Int) (a:Option Addr) (len cap:Nat) (w:World) (hT:Tab w) (hKl:K.length=32) (hKb:Byt K) (hp:W32 p) (hv:0<=v/\v<=18446744073709551615) (hB:Bytes w a len B) (hl:len<=1000):
  Calls Tryz.prog 96 #[.agg (u8s K),.int .u32 p,.int .u64 v,.slice a len cap] w fun e w'=>∃a',e=.returned (.slice a' len len)/\Bytes w' a' len (cr K 0 (non p v) B len)/\Below w.heap.size w w':=
 scrypt_in K (non p v) B p v a len cap w hKl ⟨fun x=>nonce_any p v x hp hv⟩ ⟨fun x hx=>crypt_ok a len cap K (non p v) B 0 x hKb hKl (z4c p v) (q4p p v) ⟨by omega,by omega⟩ (hT.below hx) (hB.below hx) (by omega) (by omega)⟩
def sl (K:List Int) (p v:Int) (B:List Int):List Int:=padTo (bytesOf v 8++cr K 0 (non p v) B B.length) 192
theorem length_sl (K:List Int) (p v:Int) (B:List Int):(sl K p v B).length=192:=q4g _ _
theorem q8w (L:List Int) (n:Nat) (h:Byt L):Byt (padTo L n):=q1x _ _ (q8g L n h) (q2g _)
theorem byt_sl (K:List Int) (p v:Int) (B:List Int):Byt (sl K p v B):=q8w _ _ (q1x _ _ (q1e v 8) (q8t _ _ _ _ _))
theorem z4u {w0 w w':World} {a:Option Addr} {n c:Nat} {L:List Int} (h:Out w w' a n c L) (hb:Below w0.heap.size w0 w):Out w0 w' a n c L:=by
 refine ⟨h.1,⟨h.2.1.1,?_⟩,hb.trans (h.2.2.mono hb.size)⟩
 rcases h.2.1.2 with h3 | ⟨g,cap',cur,h3,hb',r⟩
 ·exact .inl h3
 ·exact .inr ⟨g,cap',cur,h3,Nat.le_trans hb.size hb',r⟩
set_option maxRecDepth 20000 in
set_option maxHeartbeats 2000000 in
theorem seal_in (K C:List Int) (p v:Int) (a:Option Addr) (len cap:Nat) (w:World) (hKl:K.length=32) (hC:Byt C) (hl:len<=184) (hv0:¬v=0) (hv1:¬v=18446744073709551615) (hv:0<=v/\v<=18446744073709551615)
  (HF:Box (∀x,Calls Tryz.prog 95 #[.int .i64 (len:Int)] x fun e w'=>e=.returned (.bool true)/\x=w'))
  (C1:Box (∀x,Below w.heap.size w x->Calls Tryz.prog 96 #[.agg (u8s K),.int .u32 p,.int .u64 v,.slice a len cap] x fun e w'=>∃a',e=.returned (.slice a' len len)/\Bytes w' a' len C/\Below x.heap.size x w')):
  Calls Tryz.prog 74 #[.agg (u8s K),.int .u32 p,.int .u64 v,.slice a len cap] w fun e w'=>∃g,e=.returned (.tuple #[.slice (some ⟨g,0,none⟩) 192 192,.int .i64 0])/\Out w w' (some ⟨g,0,none⟩) 192 192 (padTo (bytesOf v 8++C) 192):=by
 obtain ⟨S,hS⟩:=nm w.heap.size
 have HS:Hid (w.heap.size=S):=hS
 have H0:Box ((w.alloc (.cells (u8s K) 23)).heap[S]?=some (.cells (u8s K) 23 (0,0))/\Below w.heap.size w (w.alloc (.cells (u8s K) 23))):=⟨q0g hS,(Below.refl _ _).alloc (Nat.le_refl _) _⟩
 have g0:(v==0)=false:=by simpa using hv0
 have g1:(v==18446744073709551615)=false:=by simpa using hv1
 have C2:Box (∀x,Calls Tryz.prog 63 #[.int .u64 v,.int .i64 8] x fun e w'=>∃g,e=.returned (.slice (some ⟨g,0,none⟩) 8 8)/\Out x w' (some ⟨g,0,none⟩) 8 8 (bytesOf v 8)):=⟨fun x=>z5m v 8 x hv.1 hv.2 (by omega) (by omega)⟩
 have C3:Box (∀x a c,Bytes x a (8+len) (bytesOf v 8++C)->Calls Tryz.prog 97 #[.slice a (8+len) c,.int .i64 192] x fun e w'=>∃g,e=.returned (.slice (some ⟨g,0,none⟩) 192 192)/\Out x w' (some ⟨g,0,none⟩) 192 192 (padTo (bytesOf v 8++C) 192)):=⟨fun x a c hx=>pad_ok a (8+len) c _ 192 x hx (by omega) (by omega)⟩
 have HC:Box (Byt (bytesOf v 8++C)):=⟨q1x _ _ (q1e v 8) hC⟩
 clear hS hv hC hv0 hv1
 go_enter Tryz.func74,Tryz.ntmps74
 go_upto_region 1 with fail
 rw [HS.out]
 generalize w.alloc (.cells (u8s K) 23)=x0 at H0 ⊢
 go_wp2_with (first
  | (go_at_call 97;refine (C3.out w4 a4 c4 (q2p H4.out.1 HC.out)).mono ?_;rintro e w5 ⟨g5,rfl,ho⟩;have H5:Box (Out w w5 (some ⟨g5,0,none⟩) 192 192 (padTo (bytesOf v 8++C) 192)):=⟨z4u ho H4.out.2⟩;clear ho)
  | (refine q1m rfl (.tmp 27) (.tmp 28) rfl w2.heap.size 8 len len _ (bytesOf v 8) C a2 w2 rfl rfl H3.out.1 H3.out.2.1 (by omega) H3.out.2.2.1 H3.out.2.2.1.size ?_;intro v4 w4 HV;obtain ⟨a4,c4,hv4⟩:=q1z HV.out.1;subst hv4;have H4:Box (w4.ownsRow w2.heap.size 5 1 (.slice a4 (8+len) c4) (8+len) ((bytesOf v 8++C).map (Value.int .u8))/\Below w.heap.size w w4):=⟨HV.out.1,H2.out.2.trans (HV.out.2.1.mono H2.out.2.size)⟩;clear HV)
  | (go_at_call 63;refine (C2.out w2).mono ?_;rintro e w3 ⟨g3,rfl,ho⟩;have H3:Box (w3.ownsRow w2.heap.size 5 1 (.slice (some ⟨g3,0,none⟩) 8 8) 8 ((bytesOf v 8).map (Value.int .u8))/\Bytes w3 a2 len C/\Below w2.heap.size w2 w3/\Below w.heap.size w w3):=⟨ho.2.1,H2.out.1.below ho.2.2,ho.2.2,q0a H2.out.2 ho.2.2⟩;clear ho)
  | (go_at_call 96;refine Calls.mono (C1.out x0 H0.out.2) ?_;rintro e w2 ⟨a2,rfl,hB,hb⟩;have H2:Box (Bytes w2 a2 len C/\Below w.heap.size w w2):=⟨hB,q0a H0.out.2 hb⟩;clear hB hb)
  | (refine q4a S K hKl H0.out.1 rfl (.tmp 4) rfl rfl ?_)
  | (go_at_call 95;refine (HF.out _).mono ?_;rintro e w' ⟨rfl,rfl⟩))
 go_ret2
 exact ⟨g5,rfl,H5.out⟩
theorem seal_ok (K B:List Int) (p v:Int) (a:Option Addr) (len cap:Nat) (w:World) (hT:Tab w) (hKl:K.length=32) (hKb:Byt K) (hp:W32 p) (hv0:¬v=0) (hv1:¬v=18446744073709551615) (hv:0<=v/\v<=18446744073709551615) (hB:Bytes w a len B) (hl:len=160∨len=176):
  Calls Tryz.prog 74 #[.agg (u8s K),.int .u32 p,.int .u64 v,.slice a len cap] w fun e w'=>∃g,e=.returned (.tuple #[.slice (some ⟨g,0,none⟩) 192 192,.int .i64 0])/\Out w w' (some ⟨g,0,none⟩) 192 192 (sl K p v B):=by
 unfold sl
 rw [hB.1]
 exact seal_in K _ p v a len cap w hKl (q8t _ _ _ _ _) (by omega) hv0 hv1 hv ⟨fun x=>q4z _ x (by omega)⟩ ⟨fun x hx=>q9l K B p v a len cap x (hT.below hx) hKl hKb hp hv (hB.below hx) (by omega)⟩
end Go.Proofs.YtjejnlebpcjidaaGreatDoor.Seal
namespace Go.Proofs.YtjejnlebpcjidaaGreatDoor.Seal
open Go.RowKit Go.Proofs.YtjejnlebpcjidaaGreatDoor.Plain Go.Proofs.YtjejnlebpcjidaaGreatDoor.Seal.Plain
theorem set_any (z:Int) (w:World):Calls Tryz.prog 122 #[.int .u8 z] w fun e w'=>e=.returned (.bool (z != 0))/\w=w':=by
 go_enter Tryz.func122,Tryz.ntmps122
 go_wp2
 go_ret
 exact ⟨rfl,rfl⟩
set_option maxRecDepth 20000 in
set_option maxHeartbeats 1000000 in
theorem index_no (a:Option Addr) (len cap:Nat) (L:List Int) (w:World) (hB:Bytes w a len L) (hl:len<=1000) (h:∀i,i<len->L.getD i 0=0):
  Calls Tryz.prog 134 #[.slice a len cap,.func (.func 122) #[] #[]] w fun e w'=>e=.returned (.int .i64 (-1))/\w=w':=by
 have HL:Box (∀k,k<len->∃b off,a=some ⟨b,off,none⟩/\w.cell? ⟨b,off+k,none⟩=some (.int .u8 0)):=⟨fun k hk=>by
  obtain ⟨b,off,ha,_,hc⟩:=hB.2.2 (by omega)
  have:=hc k hk
  rw [h k hk] at this
  exact ⟨b,off,ha,this⟩⟩
 have HC:Box (∀x,Calls Tryz.prog 122 #[.int .u8 0] x fun e w'=>e=.returned (.bool false)/\x=w'):=⟨fun x=>set_any 0 x⟩
 clear hB h
 go_enter Tryz.func134,Tryz.ntmps134
 go_wp2
 go_loop [8] (fun i=>∃k:Nat,k<=len/\i=.int .i64 k) (fun i=>len-(intOf i).toNat)
 case atStart=>exact ⟨0,by omega,rfl⟩
 case round=>
  obtain ⟨k,hk,rfl⟩:=hrel
  by_cases hlt:k<len
  ·obtain ⟨b,off,rfl,hcell⟩:=HL.out k hlt
   go_wp2_with (go_at_call 122;refine (HC.out _).mono ?_;rintro e w' ⟨rfl,rfl⟩)
   go_round
   case rel=>exact ⟨k+1,by omega,by go_num⟩
   case measure=>simp [intOf];omega
  ·obtain rfl:k=len:=by omega
   go_wp2
   go_ret
   exact ⟨rfl,rfl⟩
set_option maxRecDepth 20000 in
set_option maxHeartbeats 1000000 in
theorem index_yes (a:Option Addr) (len cap:Nat) (L:List Int) (w:World) (hB:Bytes w a len L) (hl:len<=1000) (i:Nat) (hi:i<len) (h:¬L.getD i 0=0):
  Calls Tryz.prog 134 #[.slice a len cap,.func (.func 122) #[] #[]] w fun e w'=>∃r:Nat,e=.returned (.int .i64 (r:Int))/\w=w':=by
 obtain ⟨b,off,rfl,_,hc⟩:=hB.2.2 (by omega)
 have HL:Box (∀k,k<len->w.cell? ⟨b,off+k,none⟩=some (.int .u8 (L.getD k 0))):=⟨hc⟩
 have HC:Box (∀x z,Calls Tryz.prog 122 #[.int .u8 z] x fun e w'=>e=.returned (.bool (z != 0))/\x=w'):=⟨fun x z=>set_any z x⟩
 have HI:Box (¬L.getD i 0=0):=⟨h⟩
 clear hB h hc
 go_enter Tryz.func134,Tryz.ntmps134
 go_wp2
 go_loop [8] (fun v=>∃k:Nat,k<=i/\v=.int .i64 k) (fun v=>len-(intOf v).toNat)
 case atStart=>exact ⟨0,by omega,rfl⟩
 case round=>
  obtain ⟨k,hk,rfl⟩:=hrel
  have hlt:k<len:=by omega
  have hcell:=HL.out k hlt
  by_cases hz:L.getD k 0=0
  ·rw [hz] at hcell
   have hki:¬k=i:=fun e=>HI.out (by rw [<-e];exact hz)
   have hc0:Box (∀x,Calls Tryz.prog 122 #[.int .u8 0] x fun e w'=>e=.returned (.bool false)/\x=w'):=⟨fun x=>HC.out x 0⟩
   clear hz
   go_wp2_with (go_at_call 122;refine (hc0.out _).mono ?_;rintro e w' ⟨rfl,rfl⟩)
   go_round
   case rel=>exact ⟨k+1,by omega,by go_num⟩
   case measure=>simp [intOf];omega
  ·have hc0:Box (∀x,Calls Tryz.prog 122 #[.int .u8 (L.getD k 0)] x fun e w'=>e=.returned (.bool true)/\x=w'):=⟨fun x=>by
    have:=HC.out x (L.getD k 0)
    rwa [show (L.getD k 0 != 0)=true by simpa using hz] at this⟩
   clear hz HI HL HC
   generalize L.getD k 0=z at hcell hc0
   go_wp2_with (go_at_call 122;refine (hc0.out _).mono ?_;rintro e w' ⟨rfl,rfl⟩)
   go_ret
   exact ⟨k,rfl,rfl⟩
theorem z4i (a:Option Addr) (len cap:Nat) (L:List Int) (w:World) (hB:Bytes w a len L) (hl:len<=1000) (h:∀i,i<len->L.getD i 0=0):
  Calls Tryz.prog 123 #[.slice a len cap,.func (.func 122) #[] #[]] w fun e w'=>e=.returned (.bool false)/\w=w':=by
 have HI:Box (∀x,x=w->Calls Tryz.prog 134 #[.slice a len cap,.func (.func 122) #[] #[]] x fun e w'=>e=.returned (.int .i64 (-1))/\x=w'):=⟨fun x hx=>by subst hx;exact index_no a len cap L x hB hl h⟩
 clear h hB
 go_enter Tryz.func123,Tryz.ntmps123
 go_wp2_with (go_at_call 134;refine (HI.out _ rfl).mono ?_;rintro e w' ⟨rfl,rfl⟩)
 go_ret
 exact ⟨rfl,rfl⟩
theorem z3f (a:Option Addr) (len cap:Nat) (L:List Int) (w:World) (hB:Bytes w a len L) (hl:len<=1000) (i:Nat) (hi:i<len) (h:¬L.getD i 0=0):
  Calls Tryz.prog 123 #[.slice a len cap,.func (.func 122) #[] #[]] w fun e w'=>e=.returned (.bool true)/\w=w':=by
 have HI:Box (∀x,x=w->Calls Tryz.prog 134 #[.slice a len cap,.func (.func 122) #[] #[]] x fun e w'=>∃r:Nat,e=.returned (.int .i64 (r:Int))/\x=w'):=⟨fun x hx=>by subst hx;exact index_yes a len cap L x hB hl i hi h⟩
 clear h hB hi
 go_enter Tryz.func123,Tryz.ntmps123
 go_wp2_with (go_at_call 134;refine (HI.out _ rfl).mono ?_;rintro e w' ⟨r,rfl,rfl⟩;have hr:(0:Int)<=(r:Int):=Int.natCast_nonneg r)
 go_ret
 exact ⟨rfl,rfl⟩
set_option maxRecDepth 20000 in
set_option maxHeartbeats 1000000 in
theorem open_zero (K:List Int) (p v:Int) (n:Nat) (a:Option Addr) (cap:Nat) (w:World) (hn:n=160∨n=176) (hv:v=0)
  (C1:Box (∀x,Below w.heap.size w x->Calls Tryz.prog 121 #[.slice a 192 cap,.int .i64 0,.int .i64 8] x fun e w'=>e=.returned (.tuple #[.int .u64 v,.int .i64 0])/\x=w')):
  Calls Tryz.prog 101 #[.agg (u8s K),.int .u32 p,.slice a 192 cap,.int .i64 (n:Int)] w fun e w'=>e=.returned (.tuple #[.int .u64 0,.slice none 0 0,.int .i64 11])/\Below w.heap.size w w':=by
 have H0:Box (Below w.heap.size w (w.alloc (.cells (u8s K) 23))):=⟨(Below.refl _ _).alloc (Nat.le_refl _) _⟩
 have HF:Box (∀x,Calls Tryz.prog 95 #[.int .i64 (n:Int)] x fun e w'=>e=.returned (.bool true)/\x=w'):=⟨fun x=>q4z _ x (by omega)⟩
 subst hv
 clear hn
 go_enter Tryz.func101,Tryz.ntmps101
 go_upto_region 1 with fail
 generalize w.alloc (.cells (u8s K) 23)=x0 at H0 ⊢
 go_wp2_with (first
  | (go_at_call 121;refine (C1.out x0 H0.out).mono ?_;rintro e w' ⟨rfl,rfl⟩)
  | (go_at_call 95;refine (HF.out _).mono ?_;rintro e w' ⟨rfl,rfl⟩))
 go_ret3
 exact ⟨rfl,H0.out⟩
set_option maxRecDepth 20000 in
set_option maxHeartbeats 1000000 in
theorem open_worn (K:List Int) (p v:Int) (n:Nat) (a:Option Addr) (cap:Nat) (w:World) (hn:n=160∨n=176) (hv:v=18446744073709551615)
  (C1:Box (∀x,Below w.heap.size w x->Calls Tryz.prog 121 #[.slice a 192 cap,.int .i64 0,.int .i64 8] x fun e w'=>e=.returned (.tuple #[.int .u64 v,.int .i64 0])/\x=w')):
  Calls Tryz.prog 101 #[.agg (u8s K),.int .u32 p,.slice a 192 cap,.int .i64 (n:Int)] w fun e w'=>e=.returned (.tuple #[.int .u64 0,.slice none 0 0,.int .i64 11])/\Below w.heap.size w w':=by
 have H0:Box (Below w.heap.size w (w.alloc (.cells (u8s K) 23))):=⟨(Below.refl _ _).alloc (Nat.le_refl _) _⟩
 have HF:Box (∀x,Calls Tryz.prog 95 #[.int .i64 (n:Int)] x fun e w'=>e=.returned (.bool true)/\x=w'):=⟨fun x=>q4z _ x (by omega)⟩
 subst hv
 clear hn
 go_enter Tryz.func101,Tryz.ntmps101
 go_upto_region 1 with fail
 generalize w.alloc (.cells (u8s K) 23)=x0 at H0 ⊢
 go_wp2_with (first
  | (go_at_call 121;refine (C1.out x0 H0.out).mono ?_;rintro e w' ⟨rfl,rfl⟩)
  | (go_at_call 95;refine (HF.out _).mono ?_;rintro e w' ⟨rfl,rfl⟩))
 go_ret3
 exact ⟨rfl,H0.out⟩
set_option maxRecDepth 20000 in
set_option maxHeartbeats 1000000 in
theorem open_tail (K:List Int) (p v:Int) (n:Nat) (a:Option Addr) (cap:Nat) (w:World) (hn:n=160∨n=176) (m:Nat) (hm:8+n=m) (hv0:¬v=0) (hv1:¬v=18446744073709551615) (a1:Option Addr) (hsl:∀x,(Instr.sliceAt 57 (.slice a 192 cap) (some (.int .i64 (m:Int))) none none).run Tryz.prog x=.ok (.slice a1 (192-m) (cap-m)) x)
  (C2:Box (∀x,Below w.heap.size w x->Calls Tryz.prog 123 #[.slice a1 (192-m) (cap-m),.func (.func 122) #[] #[]] x fun e w'=>e=.returned (.bool true)/\x=w'))
  (C1:Box (∀x,Below w.heap.size w x->Calls Tryz.prog 121 #[.slice a 192 cap,.int .i64 0,.int .i64 8] x fun e w'=>e=.returned (.tuple #[.int .u64 v,.int .i64 0])/\x=w')):
  Calls Tryz.prog 101 #[.agg (u8s K),.int .u32 p,.slice a 192 cap,.int .i64 (n:Int)] w fun e w'=>e=.returned (.tuple #[.int .u64 0,.slice none 0 0,.int .i64 11])/\Below w.heap.size w w':=by
 have H0:Box (Below w.heap.size w (w.alloc (.cells (u8s K) 23))):=⟨(Below.refl _ _).alloc (Nat.le_refl _) _⟩
 have HF:Box (∀x,Calls Tryz.prog 95 #[.int .i64 (n:Int)] x fun e w'=>e=.returned (.bool true)/\x=w'):=⟨fun x=>q4z _ x (by omega)⟩
 have g0:(v==0)=false:=by simpa using hv0
 have g1:(v==18446744073709551615)=false:=by simpa using hv1
 have e8:IntKind.i64.wrap (8+(n:Int))=(m:Int):=by rw [IntKind.wrap_i64];omega
 clear hn hm hv0 hv1
 go_enter Tryz.func101,Tryz.ntmps101
 go_upto_region 1 with fail
 generalize w.alloc (.cells (u8s K) 23)=x0 at H0 ⊢
 go_wp2_with (first
  | (go_at_call 123;refine (C2.out x0 H0.out).mono ?_;rintro e w' ⟨rfl,rfl⟩)
  | (go_at_call 121;refine (C1.out x0 H0.out).mono ?_;rintro e w' ⟨rfl,rfl⟩)
  | (go_at_call 95;refine (HF.out _).mono ?_;rintro e w' ⟨rfl,rfl⟩))
 go_ret3
 exact ⟨rfl,H0.out⟩
set_option maxRecDepth 20000 in
set_option maxHeartbeats 1000000 in
theorem open_in (K D:List Int) (p v:Int) (n:Nat) (a:Option Addr) (cap:Nat) (w:World) (hKl:K.length=32) (hn:n=160∨n=176) (m:Nat) (hm:8+n=m) (hv0:¬v=0) (hv1:¬v=18446744073709551615) (a1 a2:Option Addr)
  (hsl:∀x,(Instr.sliceAt 57 (.slice a 192 cap) (some (.int .i64 (m:Int))) none none).run Tryz.prog x=.ok (.slice a1 (192-m) (cap-m)) x)
  (hsm:∀x,(Instr.sliceAt 57 (.slice a 192 cap) (some (.int .i64 8)) (some (.int .i64 (m:Int))) none).run Tryz.prog x=.ok (.slice a2 (m-8) (cap-8)) x)
  (C2:Box (∀x,Below w.heap.size w x->Calls Tryz.prog 123 #[.slice a1 (192-m) (cap-m),.func (.func 122) #[] #[]] x fun e w'=>e=.returned (.bool false)/\x=w'))
  (C3:Box (∀x,Below w.heap.size w x->Calls Tryz.prog 96 #[.agg (u8s K),.int .u32 p,.int .u64 v,.slice a2 (m-8) (cap-8)] x fun e w'=>∃a',e=.returned (.slice a' n n)/\Bytes w' a' n D/\Below x.heap.size x w'))
  (C1:Box (∀x,Below w.heap.size w x->Calls Tryz.prog 121 #[.slice a 192 cap,.int .i64 0,.int .i64 8] x fun e w'=>e=.returned (.tuple #[.int .u64 v,.int .i64 0])/\x=w')):
  Calls Tryz.prog 101 #[.agg (u8s K),.int .u32 p,.slice a 192 cap,.int .i64 (n:Int)] w fun e w'=>∃a',e=.returned (.tuple #[.int .u64 v,.slice a' n n,.int .i64 0])/\Bytes w' a' n D/\Below w.heap.size w w':=by
 obtain ⟨S,hS⟩:=nm w.heap.size
 have HS:Hid (w.heap.size=S):=hS
 have H1:Box ((w.alloc (.cells (u8s K) 23)).heap[S]?=some (.cells (u8s K) 23 (0,0))/\Below w.heap.size w (w.alloc (.cells (u8s K) 23))):=⟨q0g hS,(Below.refl _ _).alloc (Nat.le_refl _) _⟩
 have HF:Box (∀x,Calls Tryz.prog 95 #[.int .i64 (n:Int)] x fun e w'=>e=.returned (.bool true)/\x=w'):=⟨fun x=>q4z _ x (by omega)⟩
 have g0:(v==0)=false:=by simpa using hv0
 have g1:(v==18446744073709551615)=false:=by simpa using hv1
 have e8:IntKind.i64.wrap (8+(n:Int))=(m:Int):=by rw [IntKind.wrap_i64];omega
 clear hn hm hv0 hv1 hS
 go_enter Tryz.func101,Tryz.ntmps101
 go_upto_region 1 with fail
 rw [HS.out]
 generalize w.alloc (.cells (u8s K) 23)=x0 at H1 ⊢
 go_upto_region 9 with (first
  | (go_at_call 123;refine (C2.out x0 H1.out.2).mono ?_;rintro e w' ⟨rfl,rfl⟩)
  | (go_at_call 121;refine (C1.out x0 H1.out.2).mono ?_;rintro e w' ⟨rfl,rfl⟩)
  | (go_at_call 95;refine (HF.out _).mono ?_;rintro e w' ⟨rfl,rfl⟩))
 clear C1 C2 HF hsl
 refine Seq.q1t (by kernel_rfl) (fun wd hd=>?_)
 refine Seq.take_ly (i:=0) rfl ?_
 try simp only [Act.put,pC,pD,pE,pF,pG]
 refine Seq.take_lx (i:=1) (v:=.agg (u8s K)) rfl (fun w' hLat=>q4c 23 32 Tryz.underlying23 size32 (.tmp 4) rfl S rfl K hKl (q2f (q2f H1.out.1 hd) hLat)) ?_
 try simp only [Act.put,pC,pD,pE,pF,pG,pH]
 refine Seq.take_ly (i:=2) rfl ?_
 try simp only [Act.put,pC,pD,pE,pF,pG,pH]
 refine Seq.take_ly (i:=3) rfl ?_
 try simp only [Act.put,pC,pD,pE,pF,pG,pH]
 refine Seq.take_ly (i:=4) rfl ?_
 try simp only [Act.put,pC,pD,pE,pF,pG,pH]
 refine Seq.take_ly (i:=5) rfl ?_
 try simp only [Act.put,pC,pD,pE,pF,pG,pH]
 refine Seq.take_ly (i:=6) rfl ?_
 try simp only [Act.put,pC,pD,pE,pF,pG,pH]
 refine Seq.take_lx (i:=7) (v:=.slice a2 (m-8) (cap-8)) rfl (fun w' hLat=>q7m 57 (.tmp 43) (some (.const (.int .i64 8))) (some (.tmp 45)) rfl _ (hsm w')) ?_
 try simp only [Act.put,pC,pD,pE,pF,pG,pH]
 refine Seq.q1k (i:=8) rfl (by kernel_rfl) (fun KK hK=>?_)
 rw [if_pos (by rfl)]
 go_simp
 refine Calls.mono (C3.out wd (q0a H1.out.2 hd)) ?_
 rintro e w3 ⟨a3,rfl,hB3,hb3⟩
 have H3:Box (Bytes w3 a3 n D/\Below w.heap.size w w3):=⟨hB3,q0a (q0a H1.out.2 hd) hb3⟩
 refine hK.out _ _ hb3 ?_
 clear hb3 hB3
 clear hK KK
 try simp only [Act.put,pC,pD,pE,pF,pG,pH]
 refine Seq.take_ly (i:=9) rfl ?_
 try simp only [Act.put,pC,pD,pE,pF,pG,pH]
 refine Seq.take_ly (i:=10) rfl ?_
 try simp only [Act.put,pC,pD,pE,pF,pG,pH]
 refine Seq.take_ly (i:=11) rfl ?_
 try simp only [Act.put,pC,pD,pE,pF,pG,pH]
 refine wpAnyH_done (by kernel_rfl) ?_ _
 go_wp2
 go_ret3
 exact ⟨a3,rfl,H3.out.1,H3.out.2⟩
def Fit (L:List Int) (n:Nat):Prop:=¬num L 0 8=0/\¬num L 0 8=18446744073709551615/\∀i,8+n<=i->i<192->L.getD i 0=0
def op (K:List Int) (p:Int) (L:List Int) (n:Nat):List Int:=cr K 0 (non p (num L 0 8)) ((L.take (8+n)).drop 8) n
theorem length_op (K:List Int) (p:Int) (L:List Int) (n:Nat):(op K p L n).length=n:=q2q _ _ _ _ _
theorem byt_op (K:List Int) (p:Int) (L:List Int) (n:Nat):Byt (op K p L n):=q8t _ _ _ _ _
theorem num8 (L:List Int) (h:Byt L):0<=num L 0 8/\num L 0 8<=18446744073709551615:=by
 have:=q8x L 0 h 8
 simp at this
 omega
theorem open_form (K L:List Int) (p:Int) (n:Nat) (a:Option Addr) (cap:Nat) (w:World) (hn:n=160∨n=176) (hB:Bytes w a 192 L) (hc:192<=cap) (h:¬Fit L n):
  Calls Tryz.prog 101 #[.agg (u8s K),.int .u32 p,.slice a 192 cap,.int .i64 (n:Int)] w fun e w'=>e=.returned (.tuple #[.int .u64 0,.slice none 0 0,.int .i64 11])/\Below w.heap.size w w':=by
 have C1:Box (∀x,Below w.heap.size w x->Calls Tryz.prog 121 #[.slice a 192 cap,.int .i64 0,.int .i64 8] x fun e w'=>e=.returned (.tuple #[.int .u64 (num L 0 8),.int .i64 0])/\x=w'):=⟨fun x hx=>z6d a 192 cap L 0 8 x (hB.below hx) (by unfold maxLen;omega) (by omega) (by omega) (by omega)⟩
 by_cases h0:num L 0 8=0
 ·exact open_zero K p _ n a cap w hn h0 C1
 ·by_cases h1:num L 0 8=18446744073709551615
  ·exact open_worn K p _ n a cap w hn h1 C1
  ·obtain ⟨i,hi⟩:=Classical.not_forall.1 (fun hh=>h ⟨h0,h1,hh⟩)
   have hi1:8+n<=i:=Classical.byContradiction fun hx=>hi fun h=>absurd h hx
   have hi2:i<192:=Classical.byContradiction fun hx=>hi fun _ h=>absurd h hx
   have hi3:¬L.getD i 0=0:=fun hx=>hi fun _ _=>hx
   obtain ⟨a1,hsl,hsb⟩:=z5t a 192 cap (8+n) (by omega) hc
   refine open_tail K p _ n a cap w hn (8+n) rfl h0 h1 a1 hsl ⟨fun x hx=>z3f a1 _ _ (L.drop (8+n)) x (hsb x L (hB.below hx)) (by omega) (i-(8+n)) (by omega) ?_⟩ C1
   simp only [List.getD,List.getElem?_drop]
   rw [show 8+n+(i-(8+n))=i by omega]
   exact hi3
theorem open_ok (K L:List Int) (p:Int) (n:Nat) (a:Option Addr) (cap:Nat) (w:World) (hT:Tab w) (hKl:K.length=32) (hKb:Byt K) (hp:W32 p) (hn:n=160∨n=176) (hB:Bytes w a 192 L) (hc:192<=cap) (h:Fit L n):
  Calls Tryz.prog 101 #[.agg (u8s K),.int .u32 p,.slice a 192 cap,.int .i64 (n:Int)] w fun e w'=>∃a',e=.returned (.tuple #[.int .u64 (num L 0 8),.slice a' n n,.int .i64 0])/\Bytes w' a' n (op K p L n)/\Below w.heap.size w w':=by
 have C1:Box (∀x,Below w.heap.size w x->Calls Tryz.prog 121 #[.slice a 192 cap,.int .i64 0,.int .i64 8] x fun e w'=>e=.returned (.tuple #[.int .u64 (num L 0 8),.int .i64 0])/\x=w'):=⟨fun x hx=>z6d a 192 cap L 0 8 x (hB.below hx) (by unfold maxLen;omega) (by omega) (by omega) (by omega)⟩
 obtain ⟨a1,hsl,hsb⟩:=z5t a 192 cap (8+n) (by omega) hc
 obtain ⟨a2,hsm,hmb⟩:=slice_mid a 192 cap 8 (8+n) (by omega) (by omega) hc
 refine open_in K (op K p L n) p _ n a cap w hKl hn (8+n) rfl h.1 h.2.1 a1 a2 hsl hsm ⟨fun x hx=>z4i a1 _ _ (L.drop (8+n)) x (hsb x L (hB.below hx)) (by omega) fun i hi=>?_⟩ ⟨fun x hx=>?_⟩ C1
 ·simp only [List.getD,List.getElem?_drop]
  exact h.2.2 (8+n+i) (by omega) (by omega)
 ·have hmx:=hmb x L (hB.below hx)
  rw [show 8+n-8=n by omega] at hmx ⊢
  exact q9l K _ p _ a2 n (cap-8) x (hT.below hx) hKl hKb hp (num8 L hB.2.1) hmx (by omega)
end Go.Proofs.YtjejnlebpcjidaaGreatDoor.Seal
namespace Go.Proofs.YtjejnlebpcjidaaGreatDoor.Seal
open Go.RowKit Go.Proofs.YtjejnlebpcjidaaGreatDoor.Plain Go.Proofs.YtjejnlebpcjidaaGreatDoor.Seal.Plain
theorem sl_at (K:List Int) (p v:Int) (B:List Int) (n i:Nat) (hB:B.length=n) (hn:n<=184) (hi:i<192):(sl K p v B).getD i 0=if i<8 then byteAt v i else if i<8+n then xr (B.getD (i-8) 0) (stm K 0 (non p v) (i-8)) else 0:=by
 have hl:(bytesOf v 8++cr K 0 (non p v) B n).length=8+n:=by rw [List.length_append,q0f,q2q]
 unfold sl padTo
 rw [hB,List.take_of_length_le (by omega),q2o,hl]
 by_cases h8:i<8
 ·rw [if_pos (by omega),if_pos h8,q2o,if_pos (by rw [q0f];exact h8),q2m v 8 i h8]
 ·rw [if_neg h8]
  by_cases hn':i<8+n
  ·rw [if_pos hn',if_pos hn',q2o,if_neg (by rw [q0f];exact h8),q0f,cr_at _ _ _ _ _ _ (by omega)]
  ·rw [if_neg hn',if_neg hn']
   simp only [List.getD,List.getElem?_replicate]
   split<;>simp
theorem sl_num (K:List Int) (p v:Int) (B:List Int) (n:Nat) (hB:B.length=n) (hn:n<=184) (hv:0<=v/\v<=18446744073709551615):num (sl K p v B) 0 8=v:=by
 rw [z2d (sl K p v B) (bytesOf v 8) 0 0 8 (fun t ht=>by
  rw [sl_at K p v B n (0+t) hB hn (by omega),if_pos (by omega),q2m v 8 (0+t) (by omega)])]
 have h:=q9d v 8 8 (by omega)
 have h2:v%2 ^ (8*8)=v:=Int.emod_eq_of_lt hv.1 (by omega)
 rw [h2] at h
 exact h
theorem sl_fit (K:List Int) (p v:Int) (B:List Int) (n:Nat) (hB:B.length=n) (hn:n<=184) (hv:0<=v/\v<=18446744073709551615) (h0:¬v=0) (h1:¬v=18446744073709551615):Fit (sl K p v B) n:=by
 unfold Fit
 rw [sl_num K p v B n hB hn hv]
 exact ⟨h0,h1,fun i h1 h2=>by rw [sl_at K p v B n i hB hn h2,if_neg (by omega),if_neg (by omega)]⟩
theorem mid_at (L:List Int) (n i:Nat) (h:i<n):((L.take (8+n)).drop 8).getD i 0=L.getD (8+i) 0:=by
 simp only [List.getD,List.getElem?_drop,List.getElem?_take]
 rw [if_pos (by omega)]
theorem op_sl (K:List Int) (p v:Int) (B:List Int) (n:Nat) (hB:B.length=n) (hb:Byt B) (hn:n<=184) (hv:0<=v/\v<=18446744073709551615):op K p (sl K p v B) n=B:=by
 unfold op
 rw [sl_num K p v B n hB hn hv]
 apply eq_getD _ _ n (q2q _ _ _ _ _) hB
 intro i hi
 rw [cr_at _ _ _ _ _ _ hi,mid_at _ _ _ hi,sl_at K p v B n (8+i) hB hn (by omega),if_neg (by omega),if_pos (by omega),show 8+i-8=i by omega,xr_xr _ _ (hb i) (stm_bd _ _ _ _)]
end Go.Proofs.YtjejnlebpcjidaaGreatDoor.Seal
