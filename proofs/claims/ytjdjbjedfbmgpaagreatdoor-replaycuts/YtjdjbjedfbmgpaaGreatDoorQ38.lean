/-
 JournalSeals: what lies in memory between the two appendings. And what follows it.
-/
import Derived.Test.YtjdjbjedfbmgpaaGreatDoorQ32
import Derived.Test.YtjdjbjedfbmgpaaGreatDoorQ37
import Derived.Test.YtjdjbjedfbmgpaaGreatDoorQ19
import Derived.Test.YtjdjbjedfbmgpaaGreatDoorQ12
import Derived.Test.YtjdjbjedfbmgpaaGreatDoorQ33
import Derived.Test.YtjdjbjedfbmgpaaGreatDoorQ27
set_option linter.unusedVariables false
set_option maxRecDepth 100000
set_option maxRecDepth 100000
namespace Go.Proofs.YtjdjbjedfbmgpaaGreatDoor
open Go.RowKit Plain
theorem sealOk : SealOk := fun K B p v y hK hKb hB hl hp hv => Seal.rseal_ok K B p v 176 y hK hKb hB hl ⟨hp.1, by omega⟩ (by omega) (by omega) ⟨by omega, by omega⟩ (.inr rfl)
theorem imgP_len' (L : List (Int × List Int)) : ∀ x ∈ imgP false L, x.2.length = 160 := by
 intro x hx
 simp only [imgP, List.mem_mapIdx] at hx
 obtain ⟨i, hi, rfl⟩ := hx
 simp [szP, length_padTo]
theorem bad_160' (L : List (Int × List Int)) (h : ∀ x ∈ L, x.2.length = 160) (h0 : 0 < L.length) : bad L = false := by
 simp only [bad, Bool.or_eq_false_iff, List.any_eq_false, decide_eq_true_eq]
 refine ⟨?_, fun x hx => by rw [h x hx]; simp⟩
 cases L with
 | nil => simp at h0
 | cons x L => rfl
structure Bz (w x0 x : World) (J D : Nat) (fp : Nat -> Prop) (j : Jt) (d : Disk.Dk) (Bm Bw Bs : Nat) (V RQ : List Value) (r : Disk.Rd) (s : Jst) (xa : Option Addr) (X : List Im) : Prop where
 jc : JC x0 x J D fp j d
 rv : Disk.Rv x (.agg V.toArray) r
 bm : x.heap[Bm]? = some (.cells V.toArray 36 (0, 0))
 bw : x.heap[Bw]? = some (.cells RQ.toArray 44 (0, 0))
 bs : x.heap[Bs]? = some (.cells (sa s) 27 (0, 0))
 im : Imgs x xa X
 bl : Below w.heap.size w x
 nf : ¬ fp Bm
 lo : x0.heap.size <= Bm
theorem Bz.below {w x0 x y : World} {J D : Nat} {fp : Nat -> Prop} {j : Jt} {d : Disk.Dk} {Bm Bw Bs : Nat} {V RQ : List Value} {r : Disk.Rd} {s : Jst} {xa : Option Addr} {X : List Im} (h : Bz w x0 x J D fp j d Bm Bw Bs V RQ r s xa X) (hb : Below x.heap.size x y) : Bz w x0 y J D fp j d Bm Bw Bs V RQ r s xa X :=
 ⟨h.jc.below hb, h.rv.below hb, (hb.block _ (Array.getElem?_eq_some_iff.1 h.bm).1).trans h.bm, (hb.block _ (Array.getElem?_eq_some_iff.1 h.bw).1).trans h.bw, (hb.block _ (Array.getElem?_eq_some_iff.1 h.bs).1).trans h.bs, h.im.below hb, below_to h.bl hb, h.nf, h.lo⟩
theorem keep_typed {x y : World} {J : Nat} {fp fp' : Nat -> Prop} {cs0 : Array Value} (hJ : x.heap[J]? = some (.cells cs0 88 (0, 0))) (hf : ∀ (k : Nat) (cs : Array Value) (t : TypeId) (fr : Nat × Nat), x.heap[k]? = some (.cells cs t fr) -> ¬ Disk.Own4 t -> ¬ fp k) (h : Fw (fun k => k = J) x y fp fp') {k : Nat} {cs : Array Value} {t : TypeId} {fr : Nat × Nat} (hk : x.heap[k]? = some (.cells cs t fr)) (ht : ¬ Disk.Own4 t) (hj : t ≠ 88) : y.heap[k]? = x.heap[k]? :=
 h.block (Array.getElem?_eq_some_iff.1 hk).1 (hf k cs t fr hk ht) (fun e => by
  have e2 : k = J := e
  rw [e2, hJ] at hk
  simp only [Option.some.injEq, Obj.cells.injEq] at hk
  exact hj hk.2.1.symm)
theorem own_typed {x y : World} {J base n : Nat} {fp fp' : Nat -> Prop} {cs0 : Array Value} {e : TypeId} {sz : Nat} {v : Value} {xs : List Value} (hJ : x.heap[J]? = some (.cells cs0 88 (0, 0))) (hf : ∀ (k : Nat) (cs : Array Value) (t : TypeId) (fr : Nat × Nat), x.heap[k]? = some (.cells cs t fr) -> ¬ Disk.Own4 t -> ¬ fp k) (h : Fw (fun k => k = J) x y fp fp') (ho : x.ownsRow base e sz v n xs) (ht : ¬ Disk.Own4 e) (hj : e ≠ 88) : y.ownsRow base e sz v n xs :=
 own_same ho (fun q hq => by
  rcases ho.2 with ⟨rfl, _⟩ | ⟨g, cap, cur, rfl, _, hg, _⟩
  ·simp [Value.ownBlock] at hq
  ·simp only [Value.ownBlock, Option.some.injEq] at hq
   rw [<- hq]
   exact keep_typed hJ hf h hg ht hj)
theorem rv_typed {x y : World} {J : Nat} {fp fp' : Nat -> Prop} {cs0 : Array Value} {v : Value} {r : Disk.Rd} (hJ : x.heap[J]? = some (.cells cs0 88 (0, 0))) (hf : ∀ (k : Nat) (cs : Array Value) (t : TypeId) (fr : Nat × Nat), x.heap[k]? = some (.cells cs t fr) -> ¬ Disk.Own4 t -> ¬ fp k) (h : Fw (fun k => k = J) x y fp fp') (hr : Disk.Rv x v r) : Disk.Rv y v r := by
 obtain ⟨vd, vw, vo, rfl, h1, h2, h3⟩ := hr
 exact ⟨vd, vw, vo, rfl, own_typed hJ hf h h1 (by unfold Disk.Own4; decide) (by decide), own_typed hJ hf h h2 (by unfold Disk.Own4; decide) (by decide), own_typed hJ hf h h3 (by unfold Disk.Own4; decide) (by decide)⟩
theorem imgs_typed {x y : World} {J B c : Nat} {fp fp' : Nat -> Prop} {cs0 : Array Value} {a : Option Addr} {X : List Im} (hJ : x.heap[J]? = some (.cells cs0 88 (0, 0))) (hf : ∀ (k : Nat) (cs : Array Value) (t : TypeId) (fr : Nat × Nat), x.heap[k]? = some (.cells cs t fr) -> ¬ Disk.Own4 t -> ¬ fp k) (h : Fw (fun k => k = J) x y fp fp') (hi : OImgs x B (.slice a X.length c) X) : OImgs y B (.slice a X.length c) X :=
 ⟨own_typed hJ hf h hi.row (by unfold Disk.Own4; decide) (by decide), fun m hm => ⟨own_typed hJ hf h (hi.byt m hm).own (by unfold Disk.Own4; decide) (by decide), (hi.byt m hm).byt, (hi.byt m hm).num⟩⟩
theorem appM_eq (j : Jt) (ok : j.Ok) (d : Disk.Dk) (L : List (Int × List Int)) (hd : Up d) (hb : bad L = false) (h1 : j.st.count + L.length <= j.size) (h2 : j.nx + (L.length : Int) <= j.lim) : appM j d L = apL j (d, j.nx, 0, j.st) (ofP L) := by
 have ht : tke j L.length = 0 := by
  unfold tke
  rw [if_neg (by omega), if_neg (by omega)]
 have h := apL_up j (ofP L) d j.nx j.st hd ⟨ok.st.lt, ok.st.bt⟩
 unfold appM
 rw [if_neg (by rw [hb]; simp), if_neg (fun h => h ht), if_neg (fun hh => hh h.er)]
def A2 (y : World) (d : Disk.Dk) (k : Nat) (V2 J2 : List Value) : Prop := ∃ r2, Disk.Rv y (.agg V2.toArray) r2 /\ Disk.J k d r2 /\ J2.length = 70 /\ J2.toArray.all (·.oneCell') = true /\ V2.length = 6 /\ V2.toArray.all (·.oneCell') = true
theorem A2.below {y z : World} {d : Disk.Dk} {k : Nat} {V2 J2 : List Value} (h : A2 y d k V2 J2) (hb : Below y.heap.size y z) : A2 z d k V2 J2 := by
 obtain ⟨r2, h1, h2, h3⟩ := h
 exact ⟨r2, h1.below hb, h2, h3⟩
def Nb (y : World) (b : Nat) (Z : Array Value) (t : TypeId) : Prop := y.heap[b]? = some (.cells Z t (0, 0))
theorem Nb.below {y z : World} {b : Nat} {Z : Array Value} {t : TypeId} (h : Nb y b Z t) (hb : Below y.heap.size y z) : Nb z b Z t := (hb.block _ (Array.getElem?_eq_some_iff.1 h).1).trans h
theorem nb_new (y : World) (Z : Array Value) (t : TypeId) : Nb (y.alloc (.cells Z t)) y.heap.size Z t /\ Below y.heap.size y (y.alloc (.cells Z t)) := ⟨al_at rfl, (Below.refl _ _).alloc (Nat.le_refl _) _⟩
structure Fz (w x0 z : World) (D : Nat) (d : Disk.Dk) (k : Nat) (Bm Bs b24 : Nat) (V2 : List Value) (s : Jst) : Prop where
 cm : Disk.Cm x0 z D d
 rv : ∃ r2, Disk.Rv z (.agg V2.toArray) r2 /\ Disk.J k d r2
 bm : z.rangeAt Bm 0 V2
 bs : z.rangeAt Bs 0 (scs s)
 b4 : z.rangeAt b24 0 (scs s)
 bl : Below w.heap.size w z
 l6 : V2.length = 6
 hs : z.heap[Bs]? = some (.cells (sa s) 27 (0, 0))
 hm : z.heap[Bm]? = some (.cells V2.toArray 36 (0, 0))
structure St3 (w x0 y : World) (D : Nat) (d : Disk.Dk) (k : Nat) (Bm Bw Bs b23 b24 : Nat) (V2 J2 RQ : List Value) (s : Jst) : Prop where
 t1 : y.there Bm 0 V2.toArray.size
 t2 : (y.setCells Bm 0 V2).there b23 0 J2.toArray.size
 t3 : ((y.setCells Bm 0 V2).setCells b23 0 J2).there b24 0 (sa s).size
 s1 : (y.setCells Bm 0 V2).rangeAt Bw 0 RQ
 s2 : ((y.setCells Bm 0 V2).setCells b23 0 J2).rangeAt Bw 0 RQ
 s3 : (((y.setCells Bm 0 V2).setCells b23 0 J2).setCells b24 0 (scs s)).rangeAt Bw 0 RQ
 fz : Fz w x0 (((y.setCells Bm 0 V2).setCells b23 0 J2).setCells b24 0 (scs s)) D d k Bm Bs b24 V2 s
theorem st3 {w x0 y : World} {J D : Nat} {fp : Nat -> Prop} {j : Jt} {d : Disk.Dk} {Bm Bw Bs b23 b24 k : Nat} {V RQ V2 J2 : List Value} {r : Disk.Rd} {s : Jst} {xa : Option Addr} {X : List Im} {ZJ : Array Value} (h : Bz w x0 y J D fp j d Bm Bw Bs V RQ r s xa X) (hl : V.length = 6) (hZ : ZJ.size = 70) (ok : OkS s) (ha : A2 y d k V2 J2) (h3 : Nb y b23 ZJ 44) (h4 : Nb y b24 (sa zs) 42) (n3 : Bw < b23) (hlo3 : x0.heap.size <= b23) (hlo4 : x0.heap.size <= b24) (f3 : ¬ fp b23) (f4 : ¬ fp b24) (hw : w.heap.size <= x0.heap.size) : St3 w x0 y D d k Bm Bw Bs b23 b24 V2 J2 RQ s := by
 obtain ⟨r2, a1, a2, a3, a4, a5, a6⟩ := ha
 have tne : ∀ {x : World} {p q : Nat} {c c' : Array Value} {t t' : TypeId} {f f' : Nat × Nat}, x.heap[p]? = some (.cells c t f) -> x.heap[q]? = some (.cells c' t' f') -> t ≠ t' -> p ≠ q := fun hp hq ht e => by
  rw [e, hq] at hp
  simp only [Option.some.injEq, Obj.cells.injEq] at hp
  exact ht hp.2.1.symm
 have e1 : Bm ≠ Bw := tne h.bm h.bw (by decide)
 have e2 : Bm ≠ b23 := tne h.bm h3 (by decide)
 have e3 : Bm ≠ b24 := tne h.bm h4 (by decide)
 have e4 : b23 ≠ b24 := tne h3 h4 (by decide)
 have e5 : Bs ≠ Bm := tne h.bs h.bm (by decide)
 have e6 : Bs ≠ b23 := tne h.bs h3 (by decide)
 have e7 : Bs ≠ b24 := tne h.bs h4 (by decide)
 have e8 : Bw ≠ b24 := tne h.bw h4 (by decide)
 have j1 : Bm ≠ J := tne h.bm h.jc.row (by decide)
 have j2 : b23 ≠ J := tne h3 h.jc.row (by decide)
 have j3 : b24 ≠ J := tne h4 h.jc.row (by decide)
 have p1 := put_row (C := V2) h.bm (hl.trans a5.symm)
 have k3 : (y.setCells Bm 0 V2).heap[b23]? = some (.cells ZJ.toList.toArray 44 (0, 0)) := by
  rw [p1.2.block b23 (Array.getElem?_eq_some_iff.1 h3).1 (Ne.symm e2), Array.toArray_toList]
  exact h3
 have p2 := put_row (C := J2) k3 (by rw [a3]; simpa using hZ)
 have k4 : ((y.setCells Bm 0 V2).setCells b23 0 J2).heap[b24]? = some (.cells (scs zs).toArray 42 (0, 0)) := by
  have hq := (Array.getElem?_eq_some_iff.1 h4).1
  rw [p2.2.block b24 (Nat.lt_of_lt_of_le hq p1.2.size) (Ne.symm e4), p1.2.block b24 hq (Ne.symm e3)]
  exact h4
 have p3 := put_row (C := scs s) k4 (by rw [len_scs okS_zs, len_scs ok])
 have c1 := ((h.jc.set Bm p1.2 h.nf j1 h.lo).set b23 p2.2 f3 j2 hlo3).set b24 p3.2 f4 j3 hlo4
 have hrow : y.rangeAt Bw 0 RQ := range_row h.bw
 refine ⟨there_put h.bm (hl.trans a5.symm), there_put k3 (by rw [a3]; simpa using hZ), by rw [size_sa ok]; exact there_row k4 (by rw [List.size_toArray, len_scs okS_zs]; omega), but_range p1.2 hrow (Ne.symm e1), but_range p2.2 (but_range p1.2 hrow (Ne.symm e1)) (by omega), but_range p3.2 (but_range p2.2 (but_range p1.2 hrow (Ne.symm e1)) (by omega)) e8, ⟨⟨fp, c1.cx⟩, ⟨r2, rv_but (rv_but (rv_but a1 p1.2 h.bm (by decide) (by decide)) p2.2 k3 (by decide) (by decide)) p3.2 k4 (by decide) (by decide), a2⟩, ?_, ?_, range_row p3.1, ?_, a5, ?_, ?_⟩⟩
 ·exact but_range p3.2 (but_range p2.2 (range_row p1.1) e2) e3
 ·exact but_range p3.2 (but_range p2.2 (but_range p1.2 (range_sa h.bs) e5) e6) e7
 ·exact ((h.bl.trans (p1.2.below (by have := h.lo; omega) h.bl.size)).trans (p2.2.below (by omega) (Nat.le_trans h.bl.size p1.2.size))).trans (p3.2.below (by omega) (Nat.le_trans (Nat.le_trans h.bl.size p1.2.size) p2.2.size))
 ·have hq := (Array.getElem?_eq_some_iff.1 h.bs).1
  rw [p3.2.block Bs (Nat.lt_of_lt_of_le (Nat.lt_of_lt_of_le hq p1.2.size) p2.2.size) e7, p2.2.block Bs (Nat.lt_of_lt_of_le hq p1.2.size) e6, p1.2.block Bs hq e5]
  exact h.bs
 ·have hq := (Array.getElem?_eq_some_iff.1 h.bm).1
  rw [p3.2.block Bm (Nat.lt_of_lt_of_le (Nat.lt_of_lt_of_le hq p1.2.size) p2.2.size) e3, p2.2.block Bm (Nat.lt_of_lt_of_le hq p1.2.size) e2]
  exact p1.1
theorem rng_below {z x : World} {b : Nat} {cs : List Value} (hb : Below z.heap.size z x) (h : z.rangeAt b 0 cs) (h0 : 0 < cs.length) : x.rangeAt b 0 cs := by
 have hc := h 0 _ (List.getElem?_eq_getElem h0)
 exact range_below hb h (World.block_lt_of_cell? z _ hc)
end Go.Proofs.YtjdjbjedfbmgpaaGreatDoor
namespace Go.Proofs.YtjdjbjedfbmgpaaGreatDoor.Disk
open Go.RowKit Go.Proofs.YtjdjbjedfbmgpaaGreatDoor.Plain Go.Proofs.YtjdjbjedfbmgpaaGreatDoor.Disk.Plain
set_option maxRecDepth 20000 in
set_option maxHeartbeats 2000000 in
theorem rread_ok (w : World) (n : Nat) (vd vw vo : Value) (l : Int) (Ld L : List (Nat × List Int)) (O : List (Int × Int)) (hd : Rw w vd Ld) (hw : Rw w vw L) (ho : Ro w vo O) (hLd : Ld.length < 1000000) (hL : L.length < 1000000) (hO : O.length < 1000000) (k : Nat) (hk : k < n) :
  Calls Tryz.prog 57 #[.agg (rv n vd vw l false vo).toArray, .int .i64 (k : Int)] w fun e w' => ∃ vo', e = .returned (.tuple #[.agg (rv n vd vw l false vo').toArray, .string (strOfNums (rlat Ld L k)), .int .i64 0]) /\ Below w.heap.size w w' /\ Ro w' vo' (O ++ [(1, (k : Int))]) := by
 have HW : Box (Rw w vw L /\ Ro w vo O /\ L.length < 1000000 /\ O.length < 1000000 /\ Rw w vd Ld /\ Ld.length < 1000000) := ⟨hw, ho, hL, hO, hd, hLd⟩
 have d0 : decide ((k : Int) < 0) = false := by simp
 have d1 : decide ((n : Int) <= (k : Int)) = false := by simp; omega
 have d2 : decide (n <= k) = false := by simp; omega
 clear hk hLd hL hO
 obtain ⟨ad, cd, rfl⟩ := own_form2 hd
 obtain ⟨aw, cw, rfl⟩ := own_form2 hw
 obtain ⟨ao, co, rfl⟩ := own_form2 ho
 clear hd hw ho
 have H : Box (Bx w.heap.size w ((w.alloc (.cells (rv n (.slice ad Ld.length cd) (.slice aw L.length cw) l false (.slice ao O.length co)).toArray 36)).alloc (.cells #[.int .i64 0, .slice none 0 0, .slice none 0 0, .int .i64 0, .bool false, .slice none 0 0] 36)) (rv n (.slice ad Ld.length cd) (.slice aw L.length cw) l false (.slice ao O.length co))) := ⟨Bx.start w _ _ rfl⟩
 obtain ⟨S, HS⟩ : ∃ S, Box (w.heap.size = S) := ⟨_, ⟨rfl⟩⟩
 go_enter Tryz.func57, Tryz.ntmps57
 go_upto_region 1 with fail
 rw [HS.out] at H ⊢
 generalize (w.alloc (.cells (rv n (.slice ad Ld.length cd) (.slice aw L.length cw) l false (.slice ao O.length co)).toArray 36)).alloc (.cells #[.int .i64 0, .slice none 0 0, .slice none 0 0, .int .i64 0, .bool false, .slice none 0 0] 36) = w1 at H ⊢
 have c4 : w1.cell? ⟨S, 4, none⟩ = some (.bool false) := H.out.cell 4
 have c0 : w1.cell? ⟨S, 0, none⟩ = some (.int .i64 (n : Int)) := H.out.cell 0
 have c2 : w1.cell? ⟨S, 2, none⟩ = some (.slice aw L.length cw) := H.out.cell 2
 have HL : Box (Calls Tryz.prog 84 #[(.slice aw L.length cw), .int .i64 (k : Int)] w1 fun e w' => e = .returned (lst L k) /\ w1 = w') := ⟨rlast_any w1 _ L k (H.out.old HW.out.1) HW.out.2.2.1⟩
 cases hlo : lastOf L k with
 | some B =>
  have e1 : Box (lst L k = .tuple #[.string (strOfNums B), .bool true] /\ rlat Ld L k = B) := ⟨by rw [lst, hlo], by rw [rlat, hlo]; rfl⟩
  rw [e1.out.1] at HL
  clear hlo
  have HN : Box (Calls Tryz.prog 52 #[.agg (rv n (.slice ad Ld.length cd) (.slice aw L.length cw) l false (.slice ao O.length co)).toArray, .int .i64 1, .int .i64 (k : Int)] w1 fun e w' => ∃ v', e = .returned (.agg (rv n (.slice ad Ld.length cd) (.slice aw L.length cw) l false v').toArray) /\ Ro w' v' (O ++ [(1, (k : Int))]) /\ Below w1.heap.size w1 w' /\ ∀ k, v'.ownBlock = some k -> w1.heap.size <= k) := ⟨rnoted_any w1 _ _ _ _ _ _ O 1 k rfl rfl (H.out.old HW.out.2.1) HW.out.2.2.2.1⟩
  go_wp2_with (first
   | (go_at_call 84; refine HL.out.mono ?_; rintro e w' ⟨rfl, rfl⟩)
   | (refine wpList_ldD rfl _ rfl S (rv n (.slice ad Ld.length cd) (.slice aw L.length cw) l false (.slice ao O.length co)) rfl H.out.hB rfl ?_)
   | (go_at_call 52; refine HN.out.mono ?_; rintro e w6 ⟨v6, rfl, r6, b6, o6⟩; have H6 : Box (Bx S w w6 (rv n (.slice ad Ld.length cd) (.slice aw L.length cw) l false (.slice ao O.length co))) := ⟨H.out.on b6⟩; have R6 : Box (Ro w6 v6 (O ++ [(1, (k : Int))]) /\ ∀ k, v6.ownBlock = some k -> S + 2 <= k) := ⟨r6, fun k hk => by have := o6 k hk; have := H.out.lt; omega⟩; clear r6 b6 o6)
   | (refine wpList_stD rfl _ _ rfl S w _ (rv n (.slice ad Ld.length cd) (.slice aw L.length cw) l false v6) rfl rfl H6.out rfl (one_rv rfl rfl (one_own R6.out.1)) ?_; intro w7 h7 b7 t7))
  (try simp only [Exit.inBlock, Exit.then])
  refine bodyPost_ret (results_D3 rfl _ _ (S + 1) _ rfl rfl h7) rfl ?_
  exact ⟨_, by rw [e1.out.2]; rfl, HS.out ▸ b7.below, own_new R6.out.1 t7 (fun k e => by omega) R6.out.2⟩
 | none =>
  have e1 : Box (lst L k = .tuple #[.string ByteArray.empty, .bool false] /\ rlat Ld L k = rat Ld k) := ⟨by rw [lst, hlo], by rw [rlat, hlo]; rfl⟩
  rw [e1.out.1] at HL
  clear hlo
  have HA : Box (Calls Tryz.prog 85 #[.agg (rv n (.slice ad Ld.length cd) (.slice aw L.length cw) l false (.slice ao O.length co)).toArray, .int .i64 (k : Int)] w1 fun e w' => e = .returned (.string (strOfNums (rat Ld k))) /\ Below w1.heap.size w1 w') := ⟨rat_any w1 _ _ _ _ _ _ Ld k (H.out.old HW.out.2.2.2.2.1) HW.out.2.2.2.2.2⟩
  go_upto_region 8 with (first
   | (go_at_call 84; refine HL.out.mono ?_; rintro e w' ⟨rfl, rfl⟩)
   | (refine wpList_ldD rfl _ rfl S (rv n (.slice ad Ld.length cd) (.slice aw L.length cw) l false (.slice ao O.length co)) rfl H.out.hB rfl ?_)
   | (go_at_call 85; refine HA.out.mono ?_; rintro e w2 ⟨rfl, b2⟩; have H2 : Box (Bx S w w2 (rv n (.slice ad Ld.length cd) (.slice aw L.length cw) l false (.slice ao O.length co))) := ⟨H.out.on b2⟩; clear b2))
  have HN : Box (Calls Tryz.prog 52 #[.agg (rv n (.slice ad Ld.length cd) (.slice aw L.length cw) l false (.slice ao O.length co)).toArray, .int .i64 1, .int .i64 (k : Int)] w2 fun e w' => ∃ v', e = .returned (.agg (rv n (.slice ad Ld.length cd) (.slice aw L.length cw) l false v').toArray) /\ Ro w' v' (O ++ [(1, (k : Int))]) /\ Below w2.heap.size w2 w' /\ ∀ k, v'.ownBlock = some k -> w2.heap.size <= k) := ⟨rnoted_any w2 _ _ _ _ _ _ O 1 k rfl rfl (H2.out.old HW.out.2.1) HW.out.2.2.2.1⟩
  clear c4 c0 c2 HL HA
  go_wp2_with (first
   | (refine wpList_ldD rfl _ rfl S (rv n (.slice ad Ld.length cd) (.slice aw L.length cw) l false (.slice ao O.length co)) rfl H2.out.hB rfl ?_)
   | (go_at_call 52; refine HN.out.mono ?_; rintro e w6 ⟨v6, rfl, r6, b6, o6⟩; have H6 : Box (Bx S w w6 (rv n (.slice ad Ld.length cd) (.slice aw L.length cw) l false (.slice ao O.length co))) := ⟨H2.out.on b6⟩; have R6 : Box (Ro w6 v6 (O ++ [(1, (k : Int))]) /\ ∀ k, v6.ownBlock = some k -> S + 2 <= k) := ⟨r6, fun k hk => by have := o6 k hk; have := H2.out.lt; omega⟩; clear r6 b6 o6)
   | (refine wpList_stD rfl _ _ rfl S w _ (rv n (.slice ad Ld.length cd) (.slice aw L.length cw) l false v6) rfl rfl H6.out rfl (one_rv rfl rfl (one_own R6.out.1)) ?_; intro w7 h7 b7 t7))
  (try simp only [Exit.inBlock, Exit.then])
  refine bodyPost_ret (results_D3 rfl _ _ (S + 1) _ rfl rfl h7) rfl ?_
  exact ⟨_, by rw [e1.out.2]; rfl, HS.out ▸ b7.below, own_new R6.out.1 t7 (fun k e => by omega) R6.out.2⟩
theorem rread_j {k : Nat} {d : Dk} {r : Rd} (hJ : J k d r) (hk : k < 900000) (m : Nat) (hm : m < d.n) (hd : d.down = false) :
  J (k + 1) (rdOk d (m : Int)) { r with ops := r.ops ++ [(1, (m : Int))] } /\ ∀ w2 v, Rv w2 v r -> Calls Tryz.prog 57 #[v, .int .i64 (m : Int)] w2 fun e w3 => ∃ v', e = .returned (.tuple #[v', .string (strOfNums (lat d m)), .int .i64 0]) /\ Rv w3 v' { r with ops := r.ops ++ [(1, (m : Int))] } /\ Below w2.heap.size w2 w3 := by
 have l1 := hJ.l1
 have l2 := hJ.l2
 have e1 := hJ.way
 have e2 := hJ.ops
 refine ⟨⟨hJ.n, hJ.pl, hJ.way, hJ.down, hJ.st, hJ.no, hJ.lo, by show r.ops ++ _ = d.ops ++ _; rw [e2], by show r.done.length + r.way.length <= k + 1; omega, by show (r.ops ++ _).length <= k + 1; simp; omega⟩, fun w2 v hv => ?_⟩
 obtain ⟨vd, vw, vo, rfl, h1, h2, h3⟩ := hv
 rw [hJ.down, hd]
 have hlat : lat d m = rlat r.done r.way m := by rw [lat, rlat, e1, hJ.pl]
 rw [hlat]
 refine (rread_ok w2 r.n vd vw vo r.left r.done r.way r.ops h1 h2 h3 (by omega) (by omega) (by omega) m (by rw [hJ.n]; exact hm)).mono ?_
 rintro e w3 ⟨vo', rfl, hb, h4⟩
 exact ⟨_, rfl, ⟨vd, vw, vo', rfl, h1.below hb, h2.below hb, h4⟩, hb⟩
end Go.Proofs.YtjdjbjedfbmgpaaGreatDoor.Disk
namespace Go.Proofs.YtjdjbjedfbmgpaaGreatDoor
open Go.RowKit Plain
theorem head_iff (L : List Int) (hL : Byt L) : (num L 0 8 = 1 ∨ num L 0 8 = 257) ↔ (L.getD 0 0 = 1 /\ L.getD 1 0 <= 1 /\ ∀ i, 2 <= i -> i < 8 -> L.getD i 0 = 0) := by
 have e : num L 0 8 = L.getD 0 0 + L.getD 1 0 * 256 + L.getD 2 0 * 65536 + L.getD 3 0 * 16777216 + L.getD 4 0 * 4294967296 + L.getD 5 0 * 1099511627776 + L.getD 6 0 * 281474976710656 + L.getD 7 0 * 72057594037927936 := by
  simp only [num, Nat.zero_add]
  omega
 have h0 := hL 0
 have h1 := hL 1
 have h2 := hL 2
 have h3 := hL 3
 have h4 := hL 4
 have h5 := hL 5
 have h6 := hL 6
 have h7 := hL 7
 constructor
 ·intro h
  refine ⟨by omega, by omega, fun i hi1 hi2 => ?_⟩
  have : i = 2 ∨ i = 3 ∨ i = 4 ∨ i = 5 ∨ i = 6 ∨ i = 7 := by omega
  rcases this with rfl | rfl | rfl | rfl | rfl | rfl <;> omega
 ·rintro ⟨a0, a1, ha⟩
  have a2 := ha 2 (by omega) (by omega)
  have a3 := ha 3 (by omega) (by omega)
  have a4 := ha 4 (by omega) (by omega)
  have a5 := ha 5 (by omega) (by omega)
  have a6 := ha 6 (by omega) (by omega)
  have a7 := ha 7 (by omega) (by omega)
  omega
theorem head_one (L : List Int) (hL : Byt L) (h : num L 0 8 = 1 ∨ num L 0 8 = 257) : decide (num L 0 8 = 257) = (L.getD 1 0 == 1) := by
 obtain ⟨a0, a1, ha⟩ := (head_iff L hL).1 h
 have h1 := hL 1
 have e : num L 0 8 = L.getD 0 0 + L.getD 1 0 * 256 + L.getD 2 0 * 65536 + L.getD 3 0 * 16777216 + L.getD 4 0 * 4294967296 + L.getD 5 0 * 1099511627776 + L.getD 6 0 * 281474976710656 + L.getD 7 0 * 72057594037927936 := by
  simp only [num, Nat.zero_add]
  omega
 rw [Bool.eq_iff_iff, decide_eq_true_iff, beq_iff_eq, e, a0, ha 2 (by omega) (by omega), ha 3 (by omega) (by omega), ha 4 (by omega) (by omega), ha 5 (by omega) (by omega), ha 6 (by omega) (by omega), ha 7 (by omega) (by omega)]
 omega
structure Tz (w w' : World) (S : Nat) : Prop where
 r0 : w'.heap[S]? = some (.cells #[.int .u64 0, .string ByteArray.empty, .bool false] 107 (0, 0))
 r1 : w'.heap[S + 1]? = some (.cells #[.int .u64 0, .string ByteArray.empty, .bool false] 107 (0, 0))
 sz : w'.heap.size = S + 2
 bl : Below w.heap.size w w'
 s0 : w.heap.size = S
theorem tz_new (w : World) : Tz w ((w.alloc (.cells #[.int .u64 0, .string ByteArray.empty, .bool false] 107)).alloc (.cells #[.int .u64 0, .string ByteArray.empty, .bool false] 107)) w.heap.size :=
 ⟨al_old (al_at rfl), al_at (by simp), by simp, ((Below.refl _ _).alloc (Nat.le_refl _) _).alloc (by simp) _, rfl⟩
theorem Tz.range {w w' : World} {S : Nat} (h : Tz w w' S) : w'.rangeAt (S + 1) 0 [.int .u64 0, .string ByteArray.empty, .bool false] := range_arr h.r1 _ (fun j v hv => by simpa using hv)
theorem Tz.fin {w w' : World} {S : Nat} (h : Tz w w' S) (cs : Array Value) : Below w.heap.size w (w'.setRow S cs) := below_setRow h.bl (Nat.le_of_eq h.s0) _
set_option maxRecDepth 20000 in
set_option maxHeartbeats 2000000 in
theorem rrget_no (L : List Int) (hL : Byt L) (hll : L.length <= 1000000) (hn : ¬ fitR L) (w : World) :
  Calls Tryz.prog 59 #[.string (strOfNums L)] w fun e w' => e = .returned (.tuple #[.agg #[.int .u64 0, .string ByteArray.empty, .bool false], .int .i64 11]) /\ Below w.heap.size w w' := by
 have HI : Box (∀ i : Nat, i < L.length -> ∀ x, (Instr.index 9 (.string (strOfNums L)) (.int .i64 (i : Int))).run Tryz.prog x = .ok (.int .u8 (L.getD i 0)) x) := ⟨fun i hi x => index_str L hL i hi x⟩
 have hs : (strOfNums L).size = L.length := str_size L
 have hbd := hL
 obtain ⟨S, hS⟩ : ∃ S, w.heap.size = S := ⟨_, rfl⟩
 obtain ⟨w2, hw2⟩ : ∃ w2, (w.alloc (.cells #[.int .u64 0, .string ByteArray.empty, .bool false] 107)).alloc (.cells #[.int .u64 0, .string ByteArray.empty, .bool false] 107) = w2 := ⟨_, rfl⟩
 have HT : Box (Tz w w2 S) := ⟨by rw [<- hw2, <- hS]; exact tz_new w⟩
 have hsz : (w.alloc (.cells #[.int .u64 0, .string ByteArray.empty, .bool false] 107)).heap.size = S + 1 := by simp [hS]
 obtain ⟨w1, hw1⟩ : ∃ w1, w.alloc (.cells #[.int .u64 0, .string ByteArray.empty, .bool false] 107) = w1 := ⟨_, rfl⟩
 rw [hw1] at hw2 hsz
 generalize strOfNums L = s at HI hs ⊢
 by_cases h176 : L.length = 176
 ·have hsz1 : ((s.size : Int) != 176) = false := by simp; omega
  have hs176 : s.size = 176 := by omega
  have i0 := HI.out 0 (by omega)
  have i1 := HI.out 1 (by omega)
  simp only [Int.natCast_zero, Int.natCast_one] at i0 i1
  have i0' : ∀ x, (Instr.index 9 (.string s) (.int .i64 0)).run Tryz.prog x = .ok (.int .u8 (L.getD 0 0)) x := i0
  have i1' : ∀ x, (Instr.index 9 (.string s) (.int .i64 1)).run Tryz.prog x = .ok (.int .u8 (L.getD 1 0)) x := i1
  clear i0 i1
  obtain ⟨z0, hz0⟩ : ∃ z, L.getD 0 0 = z := ⟨_, rfl⟩
  obtain ⟨z1, hz1⟩ : ∃ z, L.getD 1 0 = z := ⟨_, rfl⟩
  rw [hz0] at i0'
  rw [hz1] at i1'
  by_cases c0 : z0 = 1
  ·have d0 : (z0 != 1) = false := by simp [c0]
   by_cases c1 : z1 <= 1
   ·have d1 : decide (1 < z1) = false := by simp; omega
    have d1' : ¬ 1 < z1 := by omega
    have HQ : Box (¬ ∀ i, 2 <= i -> i < 8 -> L.getD i 0 = 0) := ⟨fun h => hn ⟨h176, (head_iff L hL).2 ⟨by rw [hz0]; exact c0, by rw [hz1]; exact c1, h⟩⟩⟩
    have HLn : Box (L.length = 176) := ⟨h176⟩
    clear hn h176 hz0 hz1 c0 c1 hL hll hs
    go_enter Tryz.func59, Tryz.ntmps59
    go_upto_region 2 with (refine atAlloc _ ?_; refine wpList_run rfl _ _ (exec_alloc 107 rfl _ zeroRr) ?_)
    (try simp only [hw2, hsz])
    clear hw1 hw2 hS hsz
    go_wp2
    go_loopw [5] (fun i wr => ∃ k : Nat, 2 <= k /\ k <= 8 /\ i = .int .i64 (k : Int) /\ wr = w2 /\ Box (∀ i, 2 <= i -> i < k -> L.getD i 0 = 0)) (fun i _ => 8 - (intOf i).toNat)
    case atStart => exact ⟨2, by omega, by omega, rfl, rfl, ⟨fun i h1 h2 => by omega⟩⟩
    case round =>
     obtain ⟨k, hk1, hk2, rfl, rfl, HK⟩ := hrel
     by_cases hlt : k < 8
     ·have hk := HI.out k (by have := HLn.out; omega)
      have HZ : Box (L.getD k 0 = 0 ∨ ¬ L.getD k 0 = 0) := ⟨Classical.em _⟩
      obtain ⟨z, hz⟩ : ∃ z, L.getD k 0 = z := ⟨_, rfl⟩
      rw [hz] at hk HZ
      have HZE : Box (L.getD k 0 = z) := ⟨hz⟩
      have hw5 : IntKind.i64.wrap ((k : Int) + 1) = ((k + 1 : Nat) : Int) := by rw [IntKind.wrap_i64]; omega
      clear hz
      rcases HZ.out with e | e
      ·have dz : (z != 0) = false := by simp [e]
       have HE : Box (z = 0) := ⟨e⟩
       clear e HZ
       go_wp2
       go_roundw
       case rel => exact ⟨k + 1, by omega, by omega, by go_num, by trivial, ⟨fun i h1 h2 => by
        by_cases hik : i = k
        ·rw [hik, HZE.out, HE.out]
        ·exact HK.out i h1 (by omega)⟩⟩
       case measure => simp [intOf]; omega
      ·have dz : (z != 0) = true := by simp [e]
       clear e HZ
       go_wp2_with (first
        | (refine atLoad 107 ?_; refine wpList_ldMid rfl 107 _ _ rfl Tryz.underlying107 rfl (S + 1) 0 rfl [.int .u64 0, .string ByteArray.empty, .bool false] infoRr HT.out.range ?_)
        | (refine atStore _ ?_; refine wpList_store_row rfl 107 _ _ rfl S #[.int .u64 0, .string ByteArray.empty, .bool false] rfl rfl 107 _ HT.out.r0 infoRr rfl (by simp [Value.oneCell']) ?_))
       refine bodyPost_ret (results_row2 (t := 2) (u := 3) rfl _ Tryz.underlying107 rfl _ _ S #[.int .u64 0, .string ByteArray.empty, .bool false] infoRr rfl (setRow_heap _ _ _ _ _ _ HT.out.r0)) rfl ?_
       exact ⟨rfl, HT.out.fin _⟩
     ·obtain rfl : k = 8 := by omega
      exact absurd HK.out HQ.out
   ·have d1 : decide (1 < z1) = true := by simp; omega
    have d1' : 1 < z1 := by omega
    clear hn h176 hz0 hz1 c0 c1 hL hll hs
    go_enter Tryz.func59, Tryz.ntmps59
    go_upto_region 2 with (refine atAlloc _ ?_; refine wpList_run rfl _ _ (exec_alloc 107 rfl _ zeroRr) ?_)
    (try simp only [hw2, hsz])
    clear hw1 hw2 hS hsz
    go_wp2_with (first
     | (refine atLoad 107 ?_; refine wpList_ldMid rfl 107 _ _ rfl Tryz.underlying107 rfl (S + 1) 0 rfl [.int .u64 0, .string ByteArray.empty, .bool false] infoRr HT.out.range ?_)
     | (refine atStore _ ?_; refine wpList_store_row rfl 107 _ _ rfl S #[.int .u64 0, .string ByteArray.empty, .bool false] rfl rfl 107 _ HT.out.r0 infoRr rfl (by simp [Value.oneCell']) ?_))
    refine bodyPost_ret (results_row2 (t := 2) (u := 3) rfl _ Tryz.underlying107 rfl _ _ S #[.int .u64 0, .string ByteArray.empty, .bool false] infoRr rfl (setRow_heap _ _ _ _ _ _ HT.out.r0)) rfl ?_
    exact ⟨rfl, HT.out.fin _⟩
  ·have d0 : (z0 != 1) = true := by simp [c0]
   clear hn h176 hz0 hz1 c0 hL hll hs
   go_enter Tryz.func59, Tryz.ntmps59
   go_upto_region 2 with (refine atAlloc _ ?_; refine wpList_run rfl _ _ (exec_alloc 107 rfl _ zeroRr) ?_)
   (try simp only [hw2, hsz])
   clear hw1 hw2 hS hsz
   go_wp2_with (first
    | (refine atLoad 107 ?_; refine wpList_ldMid rfl 107 _ _ rfl Tryz.underlying107 rfl (S + 1) 0 rfl [.int .u64 0, .string ByteArray.empty, .bool false] infoRr HT.out.range ?_)
    | (refine atStore _ ?_; refine wpList_store_row rfl 107 _ _ rfl S #[.int .u64 0, .string ByteArray.empty, .bool false] rfl rfl 107 _ HT.out.r0 infoRr rfl (by simp [Value.oneCell']) ?_))
   refine bodyPost_ret (results_row2 (t := 2) (u := 3) rfl _ Tryz.underlying107 rfl _ _ S #[.int .u64 0, .string ByteArray.empty, .bool false] infoRr rfl (setRow_heap _ _ _ _ _ _ HT.out.r0)) rfl ?_
   exact ⟨rfl, HT.out.fin _⟩
 ·have hsz1 : ((s.size : Int) != 176) = true := by simp; omega
  have hs176 : ¬ s.size = 176 := by omega
  clear hn h176 hL hll hs
  go_enter Tryz.func59, Tryz.ntmps59
  go_upto_region 2 with (refine atAlloc _ ?_; refine wpList_run rfl _ _ (exec_alloc 107 rfl _ zeroRr) ?_)
  (try simp only [hw2, hsz])
  clear hw1 hw2 hS hsz
  go_wp2_with (first
   | (refine atLoad 107 ?_; refine wpList_ldMid rfl 107 _ _ rfl Tryz.underlying107 rfl (S + 1) 0 rfl [.int .u64 0, .string ByteArray.empty, .bool false] infoRr HT.out.range ?_)
   | (refine atStore _ ?_; refine wpList_store_row rfl 107 _ _ rfl S #[.int .u64 0, .string ByteArray.empty, .bool false] rfl rfl 107 _ HT.out.r0 infoRr rfl (by simp [Value.oneCell']) ?_))
  refine bodyPost_ret (results_row2 (t := 2) (u := 3) rfl _ Tryz.underlying107 rfl _ _ S #[.int .u64 0, .string ByteArray.empty, .bool false] infoRr rfl (setRow_heap _ _ _ _ _ _ HT.out.r0)) rfl ?_
  exact ⟨rfl, HT.out.fin _⟩
theorem set_row {w : World} {g i : Nat} {cs : Array Value} {t : TypeId} {v : Value} (h : w.heap[g]? = some (.cells cs t (0, 0))) : (w.setCell ⟨g, i, none⟩ v).heap[g]? = some (.cells (cs.setIfInBounds i v) t (0, 0)) := heap_setCell_same w g i cs t v h
theorem set_old {w : World} {g i k : Nat} {v : Value} (h : k ≠ g) : (w.setCell ⟨g, i, none⟩ v).heap[k]? = w.heap[k]? := heap_setCell_other w ⟨g, i, none⟩ k v h
set_option maxRecDepth 20000 in
set_option maxHeartbeats 2000000 in
theorem rrget_ok (L : List Int) (hL : Byt L) (hn : fitR L) (w : World) :
  Calls Tryz.prog 59 #[.string (strOfNums L)] w fun e w' => e = .returned (.tuple #[.agg (rrc (getP L)).toArray, .int .i64 0]) /\ Below w.heap.size w w' := by
 have HI : Box (∀ i : Nat, i < L.length -> ∀ x, (Instr.index 9 (.string (strOfNums L)) (.int .i64 (i : Int))).run Tryz.prog x = .ok (.int .u8 (L.getD i 0)) x) := ⟨fun i hi x => index_str L hL i hi x⟩
 have h176 := hn.1
 obtain ⟨a0, a1, ha⟩ := (head_iff L hL).1 hn.2
 have hlast := head_one L hL hn.2
 have hs176 : (strOfNums L).size = 176 := by rw [str_size, h176]
 obtain ⟨q, hq⟩ : ∃ q, num L 8 8 = q := ⟨_, rfl⟩
 obtain ⟨sd, hsd⟩ : ∃ sd, strOfNums (L.drop 16) = sd := ⟨_, rfl⟩
 obtain ⟨lb, hlb⟩ : ∃ lb, (L.getD 1 0 == 1) = lb := ⟨_, rfl⟩
 have HRES : Box ((rrc (getP L)).toArray = #[.int .u64 q, .string sd, .bool lb]) := ⟨by unfold getP rrc; simp only; rw [hq, hsd, hlast, hlb]⟩
 rw [HRES.out]
 have hdr : ∀ x, (Instr.sliceAt 9 (.string (strOfNums L)) (some (.int .i64 16)) none none).run Tryz.prog x = .ok (.string sd) x := fun x => by rw [<- hsd]; exact str_drop L 16 (by omega) x
 have HCs : Box (∀ x, ∃ c w', (convert 9 57 (.string (strOfNums L))).run Tryz.prog x = .ok (.slice (some ⟨x.heap.size, 0, none⟩) 176 c) w' /\ Bytes w' (some ⟨x.heap.size, 0, none⟩) 176 L /\ Below x.heap.size x w') := ⟨fun x => by
  have := conv_str x L hL
  rwa [h176] at this⟩
 have C1 : Box (∀ x a c, Bytes x a 176 L -> Calls Tryz.prog 86 #[.slice a 176 c, .int .i64 8, .int .i64 8] x fun e w' => e = .returned (.tuple #[.int .u64 q, .int .i64 0]) /\ x = w') := ⟨fun x a c hB => by rw [<- hq]; exact rget_ok a 176 c L 8 8 x hB (by unfold maxLen; omega) (by omega) (by omega) (by omega)⟩
 obtain ⟨S, hS⟩ : ∃ S, w.heap.size = S := ⟨_, rfl⟩
 obtain ⟨w2, hw2⟩ : ∃ w2, (w.alloc (.cells #[.int .u64 0, .string ByteArray.empty, .bool false] 107)).alloc (.cells #[.int .u64 0, .string ByteArray.empty, .bool false] 107) = w2 := ⟨_, rfl⟩
 have HT : Box (Tz w w2 S) := ⟨by rw [<- hw2, <- hS]; exact tz_new w⟩
 have hsz : (w.alloc (.cells #[.int .u64 0, .string ByteArray.empty, .bool false] 107)).heap.size = S + 1 := by simp [hS]
 obtain ⟨w1, hw1⟩ : ∃ w1, w.alloc (.cells #[.int .u64 0, .string ByteArray.empty, .bool false] 107) = w1 := ⟨_, rfl⟩
 rw [hw1] at hw2 hsz
 generalize strOfNums L = s at HI hs176 HCs hdr ⊢
 have hsz1 : ((s.size : Int) != 176) = false := by simp; omega
 have i0' : ∀ x, (Instr.index 9 (.string s) (.int .i64 0)).run Tryz.prog x = .ok (.int .u8 (L.getD 0 0)) x := HI.out 0 (by omega)
 have i1' : ∀ x, (Instr.index 9 (.string s) (.int .i64 1)).run Tryz.prog x = .ok (.int .u8 (L.getD 1 0)) x := HI.out 1 (by omega)
 obtain ⟨z0, hz0⟩ : ∃ z, L.getD 0 0 = z := ⟨_, rfl⟩
 obtain ⟨z1, hz1⟩ : ∃ z, L.getD 1 0 = z := ⟨_, rfl⟩
 rw [hz0] at i0' a0
 rw [hz1] at i1' a1 hlb
 have d0 : (z0 != 1) = false := by simp [a0]
 have d1' : ¬ 1 < z1 := by omega
 have HA : Box ((∀ i, 2 <= i -> i < 8 -> L.getD i 0 = 0) /\ L.length = 176) := ⟨ha, h176⟩
 clear hn h176 hz0 hz1 a0 hL ha hlast hq hsd
 have HEND : Box (∀ x3 y : World, (w2.setCell ⟨S + 1, 2, none⟩ (.bool lb)) = x3 -> Bytes y (some ⟨x3.heap.size, 0, none⟩) 176 L /\ Below x3.heap.size x3 y -> y.heap[S + 1]? = some (.cells #[.int .u64 0, .string ByteArray.empty, .bool lb] 107 (0, 0)) /\ y.heap[S]? = some (.cells #[.int .u64 0, .string ByteArray.empty, .bool false] 107 (0, 0)) /\ Below w.heap.size w y) := ⟨fun x3 y h1 h2 => by
  have e1 : x3.heap[S + 1]? = some (.cells #[.int .u64 0, .string ByteArray.empty, .bool lb] 107 (0, 0)) := by rw [<- h1, set_row HT.out.r1]; rfl
  have e2 : x3.heap[S]? = some (.cells #[.int .u64 0, .string ByteArray.empty, .bool false] 107 (0, 0)) := by rw [<- h1, set_old (by omega)]; exact HT.out.r0
  have e3 : Below w.heap.size w x3 := by rw [<- h1]; exact below_set HT.out.bl (by have := HT.out.s0; omega) _
  exact ⟨(h2.2.block _ (Array.getElem?_eq_some_iff.1 e1).1).trans e1, (h2.2.block _ (Array.getElem?_eq_some_iff.1 e2).1).trans e2, below_to e3 h2.2⟩⟩
 have f2 : w2.frozen? ⟨S + 1, 2, none⟩ = false := frozen_of_row w2 (S + 1) 2 _ _ HT.out.r1
 have cc2 : w2.cell? ⟨S + 1, 2, none⟩ = some (.bool false) := by rw [cell_of_row _ _ _ _ _ _ HT.out.r1]; rfl
 go_enter Tryz.func59, Tryz.ntmps59
 go_upto_region 2 with (refine atAlloc _ ?_; refine wpList_run rfl _ _ (exec_alloc 107 rfl _ zeroRr) ?_)
 (try simp only [hw2, hsz])
 clear hw1 hw2 hS hsz
 go_wp2
 go_loopw [5] (fun i wr => ∃ k : Nat, 2 <= k /\ k <= 8 /\ i = .int .i64 (k : Int) /\ w2 = wr) (fun i _ => 8 - (intOf i).toNat)
 case atStart => exact ⟨2, by omega, by omega, rfl, rfl⟩
 case round =>
  obtain ⟨k, hk1, hk2, rfl, rfl⟩ := hrel
  by_cases hlt : k < 8
  ·have hk := HI.out k (by have := HA.out.2; omega)
   have hz := HA.out.1 k hk1 hlt
   rw [hz] at hk
   have hw5 : IntKind.i64.wrap ((k : Int) + 1) = ((k + 1 : Nat) : Int) := by rw [IntKind.wrap_i64]; omega
   clear hz
   go_wp2
   go_roundw
   case rel => exact ⟨k + 1, by omega, by omega, by go_num, by trivial⟩
   case measure => simp [intOf]; omega
  ·have hk8 : k = 8 := by omega
   clear hk1 hk2 hk8
   go_upto_region 10 with fail
   obtain ⟨x3, hx3⟩ : ∃ x3, (w2.setCell ⟨S + 1, 2, none⟩ (.bool lb)) = x3 := ⟨_, rfl⟩
   (try simp only [hx3])
   obtain ⟨cv, y, hcv1, hcv2⟩ := HCs.out x3
   have HY : Box _ := ⟨HEND.out x3 y hx3 hcv2⟩
   have HBy : Box _ := ⟨hcv2.1⟩
   have f0 : y.frozen? ⟨S + 1, 0, none⟩ = false := frozen_of_row y (S + 1) 0 _ _ HY.out.1
   have cc0 : y.cell? ⟨S + 1, 0, none⟩ = some (.int .u64 0) := by rw [cell_of_row _ _ _ _ _ _ HY.out.1]; rfl
   clear hcv2 hx3 f2 cc2 HEND HCs
   go_upto_region 11 with (go_at_call 86; refine (C1.out y _ cv HBy.out).mono ?_; rintro e x5 ⟨rfl, rfl⟩)
   obtain ⟨y2, hy2⟩ : ∃ y2, y.setCell ⟨S + 1, 0, none⟩ (.int .u64 q) = y2 := ⟨_, rfl⟩
   (try simp only [hy2])
   have HY2 : Box (y2.heap[S + 1]? = some (.cells #[.int .u64 q, .string ByteArray.empty, .bool lb] 107 (0, 0)) /\ y2.heap[S]? = some (.cells #[.int .u64 0, .string ByteArray.empty, .bool false] 107 (0, 0)) /\ Below w.heap.size w y2) := ⟨by rw [<- hy2, set_row HY.out.1]; rfl, by rw [<- hy2, set_old (by omega)]; exact HY.out.2.1, by rw [<- hy2]; exact below_set HY.out.2.2 (by have := HT.out.s0; omega) _⟩
   have f1 : y2.frozen? ⟨S + 1, 1, none⟩ = false := frozen_of_row y2 (S + 1) 1 _ _ HY2.out.1
   have cc1 : y2.cell? ⟨S + 1, 1, none⟩ = some (.string ByteArray.empty) := by rw [cell_of_row _ _ _ _ _ _ HY2.out.1]; rfl
   clear hy2 f0 cc0 HY HBy
   go_upto_region 12 with fail
   obtain ⟨y3, hy3⟩ : ∃ y3, y2.setCell ⟨S + 1, 1, none⟩ (.string sd) = y3 := ⟨_, rfl⟩
   (try simp only [hy3])
   have HY3 : Box (y3.heap[S + 1]? = some (.cells #[.int .u64 q, .string sd, .bool lb] 107 (0, 0)) /\ y3.heap[S]? = some (.cells #[.int .u64 0, .string ByteArray.empty, .bool false] 107 (0, 0)) /\ Below w.heap.size w y3) := ⟨by rw [<- hy3, set_row HY2.out.1]; rfl, by rw [<- hy3, set_old (by omega)]; exact HY2.out.2.1, by rw [<- hy3]; exact below_set HY2.out.2.2 (by have := HT.out.s0; omega) _⟩
   have HRG : Box (y3.rangeAt (S + 1) 0 [.int .u64 q, .string sd, .bool lb]) := ⟨range_arr HY3.out.1 _ (fun j v hv => by simpa using hv)⟩
   clear hy3 f1 cc1 HY2
   go_wp2_with (first
    | (refine atLoad 107 ?_; refine wpList_ldMid rfl 107 _ _ rfl Tryz.underlying107 rfl (S + 1) 0 rfl [.int .u64 q, .string sd, .bool lb] infoRr HRG.out ?_)
    | (refine atStore _ ?_; refine wpList_store_row rfl 107 _ _ rfl S #[.int .u64 q, .string sd, .bool lb] rfl rfl 107 _ HY3.out.2.1 infoRr rfl (by simp [Value.oneCell']) ?_))
   refine bodyPost_ret (results_row2 (t := 2) (u := 3) rfl _ Tryz.underlying107 rfl _ _ S #[.int .u64 q, .string sd, .bool lb] infoRr rfl (setRow_heap _ _ _ _ _ _ HY3.out.2.1)) rfl ?_
   exact ⟨rfl, below_setRow HY3.out.2.2 (Nat.le_of_eq HT.out.s0) _⟩
end Go.Proofs.YtjdjbjedfbmgpaaGreatDoor
