/-
 The reference's Append, where its disk tells no error: it comes to what the program's comes to.
-/
import Derived.Deep.QuietTactic
import Derived.Test.YtjejnlebpcjidaaGreatDoorQ29
set_option linter.unusedVariables false
set_option maxRecDepth 100000
set_option maxRecDepth 100000
namespace Go.Proofs.YtjejnlebpcjidaaGreatDoor
open Go.RowKit Plain
structure Rz (w y:World) (S:Nat) (V J:List Value):Prop where
 b0:y.heap[S]?=some (.cells V.toArray 36 (0,0))
 b1:y.heap[S+1]?=some (.cells J.toArray 44 (0,0))
 b2:∃Z:List Value,y.heap[S+2]?=some (.cells Z.toArray 36 (0,0))/\Z.length=6
 b3:∃Z:List Value,y.heap[S+3]?=some (.cells Z.toArray 44 (0,0))/\Z.length=70
 b4:∃Z:List Value,y.heap[S+4]?=some (.cells Z.toArray 42 (0,0))/\Z.length=34
 bl:Below w.heap.size w y
 sz:w.heap.size=S
theorem Rz.lt {w y:World} {S:Nat} {V J:List Value} (h:Rz w y S V J):S+5<=y.heap.size:=by
 obtain ⟨Z,h4,_⟩:=h.b4
 have:=(gE h4)
 omega
theorem Rz.but {w y z:World} {S B:Nat} {V J:List Value} (h:Rz w y S V J) (hb:But B y z) (hB:S<=B) (hB2:S+5<=B):Rz w z S V J:=by
 have hl:=h.lt
 have e:∀k,k<S+5->z.heap[k]?=y.heap[k]?:=fun k hk=>hb.block k (by omega) (by omega)
 obtain ⟨Z2,h2,l2⟩:=h.b2
 obtain ⟨Z3,h3,l3⟩:=h.b3
 obtain ⟨Z4,h4,l4⟩:=h.b4
 exact ⟨(e S (by omega)).trans h.b0,(e _ (by omega)).trans h.b1,⟨Z2,(e _ (by omega)).trans h2,l2⟩,⟨Z3,(e _ (by omega)).trans h3,l3⟩,⟨Z4,(e _ (by omega)).trans h4,l4⟩,h.bl.trans (hb.below (by rw [h.sz];exact hB) h.bl.size),h.sz⟩
theorem Rz.below {w y z:World} {S:Nat} {V J:List Value} (h:Rz w y S V J) (hb:Below y.heap.size y z):Rz w z S V J:=h.but (B:=y.heap.size) (But.of_below hb) (by have:=h.lt;omega) h.lt
theorem Rz.set1 {w y z:World} {S:Nat} {V J J':List Value} (h:Rz w y S V J) (hb:But (S+1) y z) (h1:z.heap[S+1]?=some (.cells J'.toArray 44 (0,0))):Rz w z S V J':=by
 have hl:=h.lt
 have e:∀k,k<S+5->k≠S+1->z.heap[k]?=y.heap[k]?:=fun k hk hn=>hb.block k (by omega) hn
 obtain ⟨Z2,h2,l2⟩:=h.b2
 obtain ⟨Z3,h3,l3⟩:=h.b3
 obtain ⟨Z4,h4,l4⟩:=h.b4
 exact ⟨(e S (by omega) (by omega)).trans h.b0,h1,⟨Z2,(e _ (by omega) (by omega)).trans h2,l2⟩,⟨Z3,(e _ (by omega) (by omega)).trans h3,l3⟩,⟨Z4,(e _ (by omega) (by omega)).trans h4,l4⟩,h.bl.trans (hb.below (by rw [h.sz];omega) h.bl.size),h.sz⟩
theorem Rz.set0 {w y z:World} {S:Nat} {V V' J:List Value} (h:Rz w y S V J) (hb:But S y z) (h1:z.heap[S]?=some (.cells V'.toArray 36 (0,0))):Rz w z S V' J:=by
 have hl:=h.lt
 have e:∀k,k<S+5->k≠S->z.heap[k]?=y.heap[k]?:=fun k hk hn=>hb.block k (by omega) hn
 obtain ⟨Z2,h2,l2⟩:=h.b2
 obtain ⟨Z3,h3,l3⟩:=h.b3
 obtain ⟨Z4,h4,l4⟩:=h.b4
 exact ⟨h1,(e _ (by omega) (by omega)).trans h.b1,⟨Z2,(e _ (by omega) (by omega)).trans h2,l2⟩,⟨Z3,(e _ (by omega) (by omega)).trans h3,l3⟩,⟨Z4,(e _ (by omega) (by omega)).trans h4,l4⟩,h.bl.trans (hb.below (by rw [h.sz];omega) h.bl.size),h.sz⟩
theorem q0q {y:World} {g:Nat} {cs:List Value} {t:TypeId} {fr:Nat × Nat} (h:y.heap[g]?=some (.cells cs.toArray t fr)):y.rangeAt g 0 cs:=fun j v hv=>by
 rw [cell_of_row _ _ _ _ _ _ h]
 simpa using hv
theorem q2s {y:World} {g k:Nat} {cs:List Value} {t:TypeId} {fr:Nat × Nat} {v:Value} (h:y.heap[g]?=some (.cells cs.toArray t fr)) (hv:cs[k]?=some v):y.cell? ⟨g,k,none⟩=some v:=by
 rw [cell_of_row _ _ _ _ _ _ h]
 simpa using hv
theorem froz_at {y:World} {g k:Nat} {cs:List Value} {t:TypeId} (h:y.heap[g]?=some (.cells cs.toArray t (0,0))):y.frozen? ⟨g,k,none⟩=false:=frozen_of_row y g _ _ _ h
theorem z4y {K:List Int} {f n x y:Int} {s:Jst} (hK:K.length=32) (hs:OkS s):(rq K f n s x y)[32]?=some (.int .i64 f)/\(rq K f n s x y)[33]?=some (.int .u64 n)/\(rq K f n s x y)[35]?=some (.int .u64 (s.count:Int))/\(rq K f n s x y)[68]?=some (.int .u64 x)/\(rq K f n s x y)[69]?=some (.int .u64 y):=by
 have hl:(scs s).length=34:=q0u hs
 refine ⟨?_,?_,?_,?_,?_⟩
 ·simp [rq,hK]
 ·rw [rq,List.getElem?_append_right (by simp [hK])]
  simp [hK]
 ·rw [rq,List.getElem?_append_right (by simp [hK])]
  simp [hK,scs]
 ·simp [rq,hK,hl]
 ·simp [rq,hK,hl]
theorem z5l {w:World} {g:Nat} {t:TypeId} {K:List Int} {f n x y:Int} {s:Jst} (h:w.heap[g]?=some (.cells (rq K f n s x y).toArray t (0,0))) (hK:K.length=32) (hs:OkS s):w.rangeAt g 0 (K.map (Value.int .u8))/\w.rangeAt g 34 (scs s):=by
 have hl:(scs s).length=34:=q0u hs
 refine ⟨fun j v hv=>q2s h ?_,fun j v hv=>q2s h ?_⟩
 ·have hj:=(List.getElem?_eq_some_iff.1 hv).1
  rw [rq,Nat.zero_add,List.getElem?_append_left hj]
  exact hv
 ·have hj:=(List.getElem?_eq_some_iff.1 hv).1
  have e:(rq K f n s x y)[34+j]?=(scs s++[.int .u64 x,.int .u64 y])[j]?:=by
   rw [rq,List.getElem?_append_right (by simp [hK];omega),List.length_map,hK,show 34+j-32=j+2 by omega]
   rfl
  rw [e,List.getElem?_append_left hj]
  exact hv
structure Ri (w y:World) (S X:Nat) (j:Jt) (d:Disk.Dk) (P:List (Int × List Int)) (k i:Nat) (rs:Value) (V:List Value) (r:Disk.Rd):Prop where
 rz:Rz w y S V (rq j.key (j.first:Int) (j.size:Int) j.st (apL j (d,j.nx,0,j.st) ((ofP P).take i)).2.1 j.lim)
 bx:y.heap[X]?=some (.cells (scs (apL j (d,j.nx,0,j.st) ((ofP P).take i)).2.2.2).toArray 42 (0,0))
 hx:S+5<=X
 rv:Disk.Rv y (.agg V.toArray) r
 dj:Disk.J (k+i) (apL j (d,j.nx,0,j.st) ((ofP P).take i)).1 r
 rr:y.ownsRow w.heap.size 107 3 rs P.length ((ofP P).map rrc).flatten
end Go.Proofs.YtjejnlebpcjidaaGreatDoor
