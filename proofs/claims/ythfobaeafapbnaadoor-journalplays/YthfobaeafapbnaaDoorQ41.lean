/-
 JournalPlays: an act, and what is played so far, in memory. And what follows it.
-/
import Derived.Test.YthfobaeafapbnaaDoorQ40
import Derived.Test.YthfobaeafapbnaaDoorQ33
import Derived.Deep.Slices
import Derived.Deep.Grids
import Derived.Test.YthfobaeafapbnaaDoorQ34
set_option linter.unusedVariables false
set_option maxRecDepth 100000
namespace Go.Proofs.YthfobaeafapbnaaDoor
open Go.RowKit Plain
structure Ac where
 kind : Int
 la : Option Addr
 lc : Nat
 L : List Im
 short : Bool
 st : Jst
 lim : Int
 aft : Int
 ka : Option Addr
 kl : Nat
 kc : Nat
 K : List Bool
def acs (A : Ac) : List Value := .int .i64 A.kind :: .slice A.la A.L.length A.lc :: .bool A.short :: (scs A.st ++ [.int .u64 A.lim, .int .i64 A.aft, .slice A.ka A.kl A.kc])
structure OkA (x0 : World) (A : Ac) : Prop where
 im : ∀ x, Below x0.heap.size x0 x -> Imgs x A.la A.L
 l8 : A.L.length <= 8
 st : OkS A.st
 lim : 0 <= A.lim /\ A.lim <= 18446744073709551615
 bo : ∀ x, Below x0.heap.size x0 x -> Disk.Bools x A.ka A.kl A.K
 bn : ∀ ad, A.ka = some ad -> 0 < A.kl -> ad.block < x0.heap.size
 bl : A.kl <= maxLen
theorem len_acs (A : Ac) (h : OkS A.st) : (acs A).length = 40 := by simp [acs, len_scs h]
theorem infoAc : (Tryd.prog.info? 53).map (·.size) = some 40 := by kernel_rfl
theorem infoP : (Tryd.prog.info? 49).map (·.size) = some 144 := by kernel_rfl
def pqs (V Q A B : List Value) : List Value := V ++ (Q ++ (A ++ B))
theorem len_pqs {V Q A B : List Value} (h1 : V.length = 6) (h2 : Q.length = 70) (h3 : A.length = 34) (h4 : B.length = 34) : (pqs V Q A B).length = 144 := by simp [pqs, h1, h2, h3, h4]
theorem splice_at {α : Type} (A B C D : List α) (h : B.length = D.length) : splice (A ++ (B ++ C)) A.length D = A ++ (D ++ C) := by
 unfold splice
 rw [List.take_left, <- h, <- List.drop_drop, List.drop_left, List.drop_left]
theorem pqs0 {V V' Q A B : List Value} (h : V.length = V'.length) : splice (pqs V Q A B) 0 V' = pqs V' Q A B := splice_at [] V (Q ++ (A ++ B)) V' h
theorem pqs1 {V Q Q' A B : List Value} (h1 : V.length = 6) (h : Q.length = Q'.length) : splice (pqs V Q A B) 6 Q' = pqs V Q' A B := by
 have := splice_at V Q (A ++ B) Q' h
 rw [h1] at this
 exact this
theorem pqs2 {V Q A A' B : List Value} (h1 : V.length = 6) (h2 : Q.length = 70) (h : A.length = A'.length) : splice (pqs V Q A B) 76 A' = pqs V Q A' B := by
 have := splice_at (V ++ Q) A B A' h
 rw [List.length_append, h1, h2, List.append_assoc, List.append_assoc] at this
 exact this
theorem pqs3 {V Q A B B' : List Value} (h1 : V.length = 6) (h2 : Q.length = 70) (h3 : A.length = 34) (h : B.length = B'.length) : splice (pqs V Q A B) 110 B' = pqs V Q A B' := by
 have := splice_at (V ++ (Q ++ A)) B [] B' h
 rw [List.length_append, List.length_append, h1, h2, h3, List.append_nil, List.append_nil] at this
 simpa [pqs] using this
theorem range_cut {y : World} {p : Nat} {A B C : List Value} {t : TypeId} (h : y.heap[p]? = some (.cells (A ++ (B ++ C)).toArray t (0, 0))) : y.rangeAt p A.length B := fun i v hv => by
 have hi := (List.getElem?_eq_some_iff.1 hv).1
 refine cell_at h ?_
 rw [List.getElem?_append_right (by omega), Nat.add_sub_cancel_left, List.getElem?_append_left hi]
 exact hv
theorem prange0 {y : World} {p : Nat} {V Q A B : List Value} {t : TypeId} (h : y.heap[p]? = some (.cells (pqs V Q A B).toArray t (0, 0))) : y.rangeAt p 0 V := range_cut (A := []) h
theorem prange1 {y : World} {p : Nat} {V Q A B : List Value} {t : TypeId} (h : y.heap[p]? = some (.cells (pqs V Q A B).toArray t (0, 0))) (h1 : V.length = 6) : y.rangeAt p 6 Q := by
 have := range_cut h
 rwa [h1] at this
theorem prange2 {y : World} {p : Nat} {V Q A B : List Value} {t : TypeId} (h : y.heap[p]? = some (.cells (pqs V Q A B).toArray t (0, 0))) (h1 : V.length = 6) (h2 : Q.length = 70) : y.rangeAt p 76 A := by
 have := range_cut (A := V ++ Q) (B := A) (C := B) (by rw [List.append_assoc]; exact h)
 rwa [List.length_append, h1, h2] at this
theorem prange3 {y : World} {p : Nat} {V Q A B : List Value} {t : TypeId} (h : y.heap[p]? = some (.cells (pqs V Q A B).toArray t (0, 0))) (h1 : V.length = 6) (h2 : Q.length = 70) (h3 : A.length = 34) : y.rangeAt p 110 B := by
 have := range_cut (A := V ++ (Q ++ A)) (B := B) (C := []) (by simpa [pqs] using h)
 rwa [List.length_append, List.length_append, h1, h2, h3] at this
def rqj (j : Jt) : List Value := rq j.key (j.first : Int) (j.size : Int) j.st j.nx j.lim
theorem len_rqj {j : Jt} (ok : j.Ok) : (rqj j).length = 70 := len_rq _ _ _ _ _ _ ok.key ok.st
def ZPl : List Value := pqs (Disk.rv 0 (.slice none 0 0) (.slice none 0 0) 0 false (.slice none 0 0)) (rq z32 0 0 zs 0 0) (scs zs) (scs zs)
theorem zeroP : (Tryd.prog.info? 49).map (·.zero) = some (some (.agg ZPl.toArray)) := by kernel_rfl
theorem len_ZPl : ZPl.length = 144 := by kernel_rfl
structure Sbx (x0 w y : World) (S J D : Nat) (j : Jt) (d : Disk.Dk) (A : Ac) (PC : List Value) : Prop where
 sc : Sc x0 y J D j d
 p : y.heap[S]? = some (.cells PC.toArray 49 (0, 0))
 a : y.heap[S + 1]? = some (.cells (acs A).toArray 53 (0, 0))
 z : y.heap[S + 2]? = some (.cells ZPl.toArray 49 (0, 0))
 kj : Kj w y
 lo : x0.heap.size <= S
 sz : w.heap.size = S
theorem Sbx.on {x0 w y z : World} {S J D : Nat} {j j' : Jt} {d d' : Disk.Dk} {A : Ac} {PC : List Value} (h : Sbx x0 w y S J D j d A PC) (c : Sc x0 z J D j' d') (k : Kj y z) : Sbx x0 w z S J D j' d' A PC :=
 ⟨c, k.2 _ _ _ _ h.p (by unfold Disk.Own4; decide) (by decide), k.2 _ _ _ _ h.a (by unfold Disk.Own4; decide) (by decide), k.2 _ _ _ _ h.z (by unfold Disk.Own4; decide) (by decide), h.kj.trans k, h.lo, h.sz⟩
theorem Sbx.below {x0 w y z : World} {S J D : Nat} {j : Jt} {d : Disk.Dk} {A : Ac} {PC : List Value} (h : Sbx x0 w y S J D j d A PC) (hb : Below y.heap.size y z) : Sbx x0 w z S J D j d A PC := h.on (h.sc.below hb) (Kj.below hb)
theorem Sbx.put {x0 w y z : World} {S J D : Nat} {j : Jt} {d : Disk.Dk} {A : Ac} {PC PC' : List Value} (h : Sbx x0 w y S J D j d A PC) (hb : But S y z) (hr : z.heap[S]? = some (.cells PC'.toArray 49 (0, 0))) : Sbx x0 w z S J D j d A PC' :=
 ⟨h.sc.but hb h.p (by unfold Disk.Own4; decide) (by decide) h.lo, hr, (hb.block _ (Array.getElem?_eq_some_iff.1 h.a).1 (by omega)).trans h.a, (hb.block _ (Array.getElem?_eq_some_iff.1 h.z).1 (by omega)).trans h.z,
  ⟨Nat.le_trans h.kj.1 hb.size, fun k cs t fr hk h1 h2 => by
   have hlt := (Array.getElem?_eq_some_iff.1 hk).1
   have hsz := h.sz
   have hy := h.kj.2 k cs t fr hk h1 h2
   exact (hb.block k (Array.getElem?_eq_some_iff.1 hy).1 (by omega)).trans hy⟩, h.lo, h.sz⟩
theorem Sbx.arr {x0 w y : World} {S J D : Nat} {j : Jt} {d : Disk.Dk} {A : Ac} {PC : List Value} (h : Sbx x0 w y S J D j d A PC) (hs : OkS A.st) :
  y.cell? ⟨S + 1, 0, none⟩ = some (.int .i64 A.kind) /\ y.cell? ⟨S + 1, 1, none⟩ = some (.slice A.la A.L.length A.lc) /\ y.cell? ⟨S + 1, 2, none⟩ = some (.bool A.short) /\ y.rangeAt (S + 1) 3 (scs A.st) /\ y.cell? ⟨S + 1, 37, none⟩ = some (.int .u64 A.lim) /\ y.cell? ⟨S + 1, 38, none⟩ = some (.int .i64 A.aft) /\ y.cell? ⟨S + 1, 39, none⟩ = some (.slice A.ka A.kl A.kc) := by
 have hl := len_scs hs
 refine ⟨cell_at h.a rfl, cell_at h.a rfl, cell_at h.a rfl, ?_, cell_at h.a ?_, cell_at h.a ?_, cell_at h.a ?_⟩
 ·exact range_cut (A := [.int .i64 A.kind, .slice A.la A.L.length A.lc, .bool A.short]) h.a
 ·rw [acs, List.getElem?_cons_succ, List.getElem?_cons_succ, List.getElem?_cons_succ, List.getElem?_append_right (by omega), hl]
  rfl
 ·rw [acs, List.getElem?_cons_succ, List.getElem?_cons_succ, List.getElem?_cons_succ, List.getElem?_append_right (by omega), hl]
  rfl
 ·rw [acs, List.getElem?_cons_succ, List.getElem?_cons_succ, List.getElem?_cons_succ, List.getElem?_append_right (by omega), hl]
  rfl
def StK (x0 w : World) (J D k : Nat) (d : Disk.Dk) (e : Ending) (z : World) : Prop :=
 ∃ (V' : List Value) (j' : Jt) (d' : Disk.Dk) (r' : Disk.Rd) (s' : Jst), e = .returned (.tuple #[.agg (pqs V' (rqj j') (scs s') (scs s')).toArray, .bool true]) /\ Sc x0 z J D j' d' /\ d'.n = d.n /\ Disk.Rv z (.agg V'.toArray) r' /\ Disk.J (k + 8) d' r' /\ OkS s' /\ Kj w z
theorem low3 (x : Int) : ∃ u : Nat, bits .and .i64 x 7 = (u : Int) /\ u <= 7 := by
 have h1 : (BitVec.ofInt 64 x &&& BitVec.ofInt 64 7).toNat <= 7 := by
  rw [BitVec.toNat_and]
  exact Nat.le_trans Nat.and_le_right (by decide)
 refine ⟨(BitVec.ofInt 64 x &&& BitVec.ofInt 64 7).toNat, ?_, h1⟩
 unfold Go.bits
 show IntKind.i64.wrap ((BitVec.ofInt 64 x &&& BitVec.ofInt 64 7).toNat : Int) = _
 rw [IntKind.wrap_i64]
 omega
theorem img_okS {w w' : World} {M : List Im} {sh : Bool} {v : Value} {X : List Im} (h : Ig w w' sh M M.length v X) (hM : ∀ m ∈ M, Byt m.bs) : (∀ x ∈ X.map pl, Byt x.2 /\ N64 x.1) /\ ∀ m ∈ X, m.bl <= 100000 := by
 refine ⟨fun x hx => ?_, fun m hm => ?_⟩
 ·obtain ⟨m, hm, rfl⟩ := List.mem_map.1 hx
  have o := h.im.byt m hm
  exact ⟨o.byt, o.num⟩
 ·have h2 := (h.im.byt m hm).byi.1.1
  have hx2 : pl m ∈ X.map pl := List.mem_map_of_mem hm
  rw [h.pls, List.take_of_length_le (by simp [len_imgP])] at hx2
  obtain ⟨i, hi, e⟩ := List.getElem_of_mem hx2
  rw [len_imgP] at hi
  rw [get_imgP _ _ _ hi] at e
  have h3 := congrArg (fun x => x.2.length) e
  simp only [length_padTo] at h3
  have h4 : (pl m).2.length = m.bl := h2
  have h5 : szP sh i <= 160 := by unfold szP; split <;> omega
  omega
structure St33 (x5 y : World) (b1 b2 b3 : Nat) (V2 J2 : List Value) (SY : Array Value) (v : Value) (r : Disk.Rd) : Prop where
 t1 : y.there b1 0 V2.toArray.size
 t2 : (y.setCells b1 0 V2).there b2 0 J2.toArray.size
 t3 : ((y.setCells b1 0 V2).setCells b2 0 J2).there b3 0 SY.size
 s1 : Below x5.heap.size x5 (y.setCells b1 0 V2)
 s2 : Below x5.heap.size x5 ((y.setCells b1 0 V2).setCells b2 0 J2)
 s3 : Below x5.heap.size x5 (((y.setCells b1 0 V2).setCells b2 0 J2).setCells b3 0 SY.toList)
 rv : Disk.Rv (((y.setCells b1 0 V2).setCells b2 0 J2).setCells b3 0 SY.toList) v r
 r1 : (((y.setCells b1 0 V2).setCells b2 0 J2).setCells b3 0 SY.toList).heap[b1]? = some (.cells V2.toArray 36 (0, 0))
 r2 : (((y.setCells b1 0 V2).setCells b2 0 J2).setCells b3 0 SY.toList).heap[b2]? = some (.cells J2.toArray 44 (0, 0))
 r3 : (((y.setCells b1 0 V2).setCells b2 0 J2).setCells b3 0 SY.toList).heap[b3]? = some (.cells SY 42 (0, 0))
theorem st33 {x5 y : World} {b1 b2 b3 : Nat} {V2 J2 : List Value} {ZD ZJ ZS SY : Array Value} {v : Value} {r : Disk.Rd} (hS : Below x5.heap.size x5 y) (n1 : Nb y b1 ZD 36) (n2 : Nb y b2 ZJ 44) (n3 : Nb y b3 ZS 42) (g1 : x5.heap.size <= b1) (g2 : x5.heap.size <= b2) (g3 : x5.heap.size <= b3) (l1 : ZD.size = V2.length) (l2 : ZJ.size = J2.length) (l3 : ZS.size = SY.size) (hv : Disk.Rv y v r) : St33 x5 y b1 b2 b3 V2 J2 SY v r := by
 have e12 : b1 ≠ b2 := ne_typed n1 n2 (by decide)
 have e13 : b1 ≠ b3 := ne_typed n1 n3 (by decide)
 have e23 : b2 ≠ b3 := ne_typed n2 n3 (by decide)
 have m1 : y.heap[b1]? = some (.cells ZD.toList.toArray 36 (0, 0)) := by rw [Array.toArray_toList]; exact n1
 have p1 := put_row (C := V2) m1 (by rw [Array.length_toList, l1])
 have m2 : (y.setCells b1 0 V2).heap[b2]? = some (.cells ZJ.toList.toArray 44 (0, 0)) := by
  rw [p1.2.block b2 (Array.getElem?_eq_some_iff.1 n2).1 (Ne.symm e12), Array.toArray_toList]; exact n2
 have p2 := put_row (C := J2) m2 (by rw [Array.length_toList, l2])
 have m3 : ((y.setCells b1 0 V2).setCells b2 0 J2).heap[b3]? = some (.cells ZS.toList.toArray 42 (0, 0)) := by
  have hq := (Array.getElem?_eq_some_iff.1 n3).1
  rw [p2.2.block b3 (Nat.lt_of_lt_of_le hq p1.2.size) (Ne.symm e23), p1.2.block b3 hq (Ne.symm e13), Array.toArray_toList]; exact n3
 have p3 := put_row (C := SY.toList) m3 (by rw [Array.length_toList, Array.length_toList, l3])
 have s1 := below_but hS p1.2 g1 hS.size
 have s2 := below_but s1 p2.2 g2 s1.size
 have s3 := below_but s2 p3.2 g3 s2.size
 have q1 := (Array.getElem?_eq_some_iff.1 p1.1).1
 have q2 := (Array.getElem?_eq_some_iff.1 p2.1).1
 refine ⟨there_put m1 (by rw [Array.length_toList, l1]), there_put m2 (by rw [Array.length_toList, l2]), by have := there_put (C := SY.toList) m3 (by rw [Array.length_toList, Array.length_toList, l3]); rwa [Array.toArray_toList] at this, s1, s2, s3, rv_but (rv_but (rv_but hv p1.2 m1 (by decide) (by decide)) p2.2 m2 (by decide) (by decide)) p3.2 m3 (by decide) (by decide), ?_, ?_, by have := p3.1; rwa [Array.toArray_toList] at this⟩
 ·rw [p3.2.block b1 (Nat.lt_of_lt_of_le q1 p2.2.size) e13, p2.2.block b1 q1 e12]; exact p1.1
 ·rw [p3.2.block b2 q2 e23]; exact p2.1
theorem al_arm {x y : World} {o : Oper} {a : Act} {K : Act -> World -> Prop} {Q : Exit -> Act -> World -> Prop} (t : TypeId) (ho : o.op = .alloc t) (Z : Array Value) (hz : (Tryd.prog.info? t).map (·.zero) = some (some (.agg Z))) (hS : Below x.heap.size x y)
  (h : ∀ b z, Nb z b Z t -> x.heap.size <= b -> Below y.heap.size y z -> Below x.heap.size x z -> K (a.put o.dst (.pointer (some ⟨b, 0, none⟩))) z) : Oper.wp Tryd.prog o a y (fun a' w' => Below x.heap.size x w' /\ K a' w') Q := by
 unfold Oper.wp
 rw [exec_alloc t ho Z hz]
 have hn := nb_new y Z t
 exact ⟨below_to hS hn.2, h _ _ hn.1 hS.size hn.2 (below_to hS hn.2)⟩
theorem Sbx.st {x0 w y : World} {S J D off : Nat} {j : Jt} {d : Disk.Dk} {A : Ac} {PC PC' vs : List Value} (h : Sbx x0 w y S J D j d A PC) (e : splice PC off vs = PC') (hl : off + vs.length <= PC.length) :
  y.there S off vs.length /\ Sbx x0 w (y.setCells S off vs) S J D j d A PC' /\ But S y (y.setCells S off vs) := by
 have hb := But.setCells vs off (But.refl S y)
 exact ⟨there_row h.p (by simpa using hl), h.put hb (by rw [setCells_row S _ vs off PC y h.p hl, e]), hb⟩
theorem Sbx.fin {x0 w y z : World} {S J D : Nat} {j : Jt} {d : Disk.Dk} {A : Ac} {PC : List Value} (h : Sbx x0 w y S J D j d A PC) (hb : But (S + 2) y z) : Sc x0 z J D j d /\ Kj w z :=
 ⟨h.sc.but hb h.z (by unfold Disk.Own4; decide) (by decide) (by have := h.lo; omega), ⟨Nat.le_trans h.kj.1 hb.size, fun k cs t fr hk h1 h2 => by
  have hlt := (Array.getElem?_eq_some_iff.1 hk).1
  have hsz := h.sz
  have hy := h.kj.2 k cs t fr hk h1 h2
  exact (hb.block k (Array.getElem?_eq_some_iff.1 hy).1 (by omega)).trans hy⟩⟩
theorem pqs_all {V Q : List Value} (s s' : Jst) (h1 : V.toArray.all (·.oneCell') = true) (h2 : Q.toArray.all (·.oneCell') = true) : (pqs V Q (scs s) (scs s')).toArray.all (·.oneCell') = true := by
 have h3 := all_sa s
 have h4 := all_sa s'
 simp only [sa, List.all_toArray'] at h1 h2 h3 h4 ⊢
 simp only [pqs, List.all_append, h1, h2, h3, h4, Bool.and_true]
theorem rv_all {y : World} {V : List Value} {r : Disk.Rd} (h : Disk.Rv y (.agg V.toArray) r) : V.toArray.all (·.oneCell') = true := by
 obtain ⟨V', e, _, ha⟩ := rv_form h
 have e2 : V = V' := by simpa using e
 rw [e2]
 exact ha
structure OkA0 (w : World) (A : Ac) : Prop where
 im : Imgs w A.la A.L
 lL : A.L.length <= maxLen
 st : OkS A.st
 lim : 0 <= A.lim /\ A.lim <= 18446744073709551615
 bo : Bools w A.ka A.kl A.K
 bl : A.kl <= maxLen
structure Ats (w : World) (a : Option Addr) (L : List Ac) : Prop where
 at_ : 0 < L.length -> ∃ b o, a = some ⟨b, o, none⟩ /\ b < w.heap.size /\ ∀ i (h : i < L.length), w.rangeAt b (o + i * 40) (acs L[i])
 ok : ∀ A ∈ L, OkA0 w A
theorem OkA0.to {w x : World} {A : Ac} (h : OkA0 w A) (hb : Below w.heap.size w x) (h8 : A.L.length <= 8) : OkA x A :=
 ⟨fun y hy => h.im.below (below_to hb hy), h8, h.st, h.lim, fun y hy => h.bo.below (below_to hb hy), fun ad e h0 => by
  obtain ⟨b, off, e2, h2, _⟩ := h.bo.2 h0
  rw [e2] at e
  cases e
  exact Nat.lt_of_lt_of_le h2 hb.size, h.bl⟩
theorem Ats.below {w x : World} {a : Option Addr} {L : List Ac} (h : Ats w a L) (hb : Below w.heap.size w x) : ∀ i (hi : i < L.length), ∃ b o, a = some ⟨b, o, none⟩ /\ b < w.heap.size /\ x.rangeAt b (o + i * 40) (acs L[i]) := fun i hi => by
 obtain ⟨b, o, e, hlt, hr⟩ := h.at_ (by omega)
 exact ⟨b, o, e, hlt, range_below hb (hr i hi) hlt⟩
open Go.WideShapes Go.ChangeShapes
theorem cellsI : Tryd.prog.cellsOf 3 = 1 := by kernel_rfl
theorem cellsB : Tryd.prog.cellsOf 4 = 1 := by kernel_rfl
theorem cellsAc : Tryd.prog.cellsOf 53 = 40 := by kernel_rfl
theorem cellsIs : Tryd.prog.cellsOf 50 = 1 := by kernel_rfl
theorem cellsBs : Tryd.prog.cellsOf 51 = 1 := by kernel_rfl
theorem open_actL {H : Type} {enc : TypeId × Value -> H} {W : World} {base : Nat} {held : Bool} {fuel : Nat} {cs : List Value} {x : DataW H × List MemPlace} (h : DataW.trod enc Tryd.prog W base (fun _ => true) held fuel 53 cs = some x) : ∃ A : Ac, cs = acs A /\ OkA0 W A := by
 obtain ⟨xs, k, hk, hxy, hl, hxl, hf⟩ := DataW.trod_struct Tryd.underlying53 h
 rw [cellsAc] at hl
 have hxl2 : xs.length = 7 := hxl
 match xs, hxl2 with
 | [y0, y1, y2, y3, y4, y5, y6], _ =>
  have g0 : DataW.trod enc Tryd.prog W base (fun _ => true) held k 3 ((cs.drop 0).take (Tryd.prog.cellsOf 3)) = some y0 := hf 0 _ rfl
  have g1 : DataW.trod enc Tryd.prog W base (fun _ => true) held k 50 ((cs.drop 1).take (Tryd.prog.cellsOf 50)) = some y1 := hf 1 _ rfl
  have g2 : DataW.trod enc Tryd.prog W base (fun _ => true) held k 4 ((cs.drop 2).take (Tryd.prog.cellsOf 4)) = some y2 := hf 2 _ rfl
  have g3 : DataW.trod enc Tryd.prog W base (fun _ => true) held k 26 ((cs.drop 3).take (Tryd.prog.cellsOf 26)) = some y3 := hf 3 _ rfl
  have g4 : DataW.trod enc Tryd.prog W base (fun _ => true) held k 24 ((cs.drop 37).take (Tryd.prog.cellsOf 24)) = some y4 := hf 4 _ rfl
  have g5 : DataW.trod enc Tryd.prog W base (fun _ => true) held k 3 ((cs.drop 38).take (Tryd.prog.cellsOf 3)) = some y5 := hf 5 _ rfl
  have g6 : DataW.trod enc Tryd.prog W base (fun _ => true) held k 51 ((cs.drop 39).take (Tryd.prog.cellsOf 51)) = some y6 := hf 6 _ rfl
  rw [cellsI] at g0 g5
  rw [cellsIs] at g1
  rw [cellsB] at g2
  rw [cellsSt] at g3
  rw [cellsU64] at g4
  rw [cellsBs] at g6
  obtain ⟨kd, e0, _, _⟩ := DataW.trod_int Tryd.underlying3 g0
  obtain ⟨sh, e2, _⟩ := DataW.trod_bool Tryd.underlying4 g2
  obtain ⟨st, e3, ok3⟩ := open_stateL g3
  obtain ⟨lm, e4, _, w4⟩ := DataW.trod_int Tryd.underlying24 g4
  obtain ⟨af, e5, _, _⟩ := DataW.trod_int Tryd.underlying3 g5
  obtain ⟨la, n, lc, e1⟩ : ∃ la n lc, (cs.drop 1).take 1 = [.slice la n lc] := by
   rcases Go.Deep.open_slice Tryd.underlying50 g1 with ⟨hcs, _⟩ | ⟨ad, l, c, m, n, D, Pl, hcs, _⟩
   ·exact ⟨_, _, _, hcs⟩
   ·exact ⟨_, _, _, hcs⟩
  rw [e1] at g1
  obtain ⟨M, rfl, hM, hm⟩ := open_images g1
  obtain ⟨ka, kl, kc, K, e6, hK, hkl⟩ : ∃ ka kl kc K, (cs.drop 39).take 1 = [.slice ka kl kc] /\ Bools W ka kl K /\ kl <= maxLen := by
   rcases Go.Deep.open_bools Tryd.underlying51 Tryd.underlying4 (by kernel_rfl) g6 with ⟨hcs, _⟩ | ⟨x, l, c, B, hcs, _, hl2, hm2, _, hcell2⟩
   ·exact ⟨none, 0, 0, [], hcs, bools_none W, by decide⟩
   ·exact ⟨_, _, _, _, hcs, bools_fn B hl2 hcell2, Nat.le_trans hl2 hm2⟩
  have b4 := bounds_u64 w4
  refine ⟨⟨kd, la, lc, M, sh, st, lm, af, ka, kl, kc, K⟩, ?_, ⟨hM, hm, ok3, b4, hK, hkl⟩⟩
  have sp : ∀ p q, (cs.drop p).take q ++ cs.drop (p + q) = cs.drop p := fun p q => by rw [<- List.drop_drop, List.take_append_drop]
  have s0 := sp 0 1
  have s1 := sp 1 1
  have s2 := sp 2 1
  have s3 := sp 3 34
  have s4 := sp 37 1
  have s5 := sp 38 1
  have s6 := sp 39 1
  rw [List.drop_zero] at s0 e0
  rw [e0] at s0
  rw [e1] at s1
  rw [e2] at s2
  rw [e3] at s3
  rw [e4] at s4
  rw [e5] at s5
  rw [e6, List.drop_of_length_le (show cs.length <= 39 + 1 by omega), List.append_nil] at s6
  rw [<- s0, <- s1, <- s2, <- s3, <- s4, <- s5, <- s6]
  rfl
theorem open_acts13 {H : Type} {enc : TypeId × Value -> H} {W : World} {base : Nat} {held : Bool} {fuel : Nat} {a : Option Addr} {len cap : Nat} {x : DataW H × List MemPlace} (h : DataW.trod enc Tryd.prog W base (fun _ => true) held fuel 27 [.slice a len cap] = some x) : ∃ L : List Ac, L.length = len /\ Ats W a L /\ len <= maxLen := by
 rcases Go.Deep.open_slice Tryd.underlying27 h with ⟨hcs, _⟩ | ⟨ad, l, c, m, n, D, Pl, hcs, hb, hl, hm, hmm, hx, hi⟩
 ·simp only [List.cons.injEq, Value.slice.injEq, and_true] at hcs
  obtain ⟨rfl, rfl, rfl⟩ := hcs
  exact ⟨[], rfl, ⟨fun h => by simp at h, fun A hA => by simp at hA⟩, by decide⟩
 ·simp only [List.cons.injEq, Value.slice.injEq, and_true] at hcs
  obtain ⟨rfl, rfl, rfl⟩ := hcs
  simp only [if_true] at hmm
  subst hmm
  rw [cellsAc] at hi
  by_cases h0 : len = 0
  ·subst h0
   exact ⟨[], rfl, ⟨fun h => by simp at h, fun A hA => by simp at hA⟩, by decide⟩
  obtain ⟨b, o, rfl⟩ : ∃ b o, ad = ⟨b, o, none⟩ := by
   obtain ⟨cs', h1, _⟩ := hi 0 (by omega)
   obtain ⟨_, hlen, hcell⟩ := World.cells?_some h1
   have h2 := hcell 0 (by omega)
   obtain ⟨b, o, l⟩ := ad
   cases l with
   | none => exact ⟨b, o, rfl⟩
   | some l =>
    have h3 : (cs'[0]?).isSome = true := by simp [hlen]
    rw [<- h2] at h3
    simp [Addr.add, World.cell?] at h3
    split at h3 <;> simp at h3
  have key : ∀ i, i < len -> ∃ A : Ac, W.rangeAt b (o + i * 40) (acs A) /\ OkA0 W A := fun i hil => by
   obtain ⟨cs', h1, h2⟩ := hi i (by omega)
   obtain ⟨_, hlen, hcell⟩ := World.cells?_some h1
   obtain ⟨A, e, hA⟩ := open_actL h2
   refine ⟨A, fun j v hv => ?_, hA⟩
   rw [<- e] at hv
   have hj := (List.getElem?_eq_some_iff.1 hv).1
   have h3 := hcell j (by omega)
   rw [add_add', hv] at h3
   exact h3
  refine ⟨(List.range len).pmap (fun i (hi : i < len) => Classical.choose (key i hi)) (fun i hi => by simpa using hi), by simp, ⟨fun _ => ⟨b, o, rfl, ?_, fun i hi => ?_⟩, fun A hA => ?_⟩, Nat.le_trans hl hm⟩
  ·obtain ⟨A, hr, _⟩ := key 0 (by omega)
   have := hr 0 _ rfl
   exact cell_block this
  ·have hil : i < len := by simpa using hi
   have := (Classical.choose_spec (key i hil)).1
   simpa using this
  ·obtain ⟨i, hi, rfl⟩ := List.mem_pmap.1 hA
   exact (Classical.choose_spec (key i (by simpa using hi))).2
end Go.Proofs.YthfobaeafapbnaaDoor
