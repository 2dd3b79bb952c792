/-
 JournalPlays: code and reference side by side: what is kept, the two Appends, Adopts, Stops, Crashes, and the reference's Empty. And what follows it.
-/
import Derived.Test.YthfobaeafapbnaaDoorQ38
import Derived.Test.YthfobaeafapbnaaDoorQ39
import Derived.Test.YthfobaeafapbnaaDoorQ23
set_option linter.unusedVariables false
set_option maxRecDepth 100000
namespace Go.Proofs.YthfobaeafapbnaaDoor
open Go.RowKit Plain
attribute [local go_sem] Oper.semAt_some
theorem ne_typed {x : World} {p q : Nat} {c c' : Array Value} {t t' : TypeId} {f f' : Nat × Nat} (hp : x.heap[p]? = some (.cells c t f)) (hq : x.heap[q]? = some (.cells c' t' f')) (ht : t ≠ t') : p ≠ q := fun e => by
 rw [e, hq] at hp
 simp only [Option.some.injEq, Obj.cells.injEq] at hp
 exact ht hp.2.1.symm
theorem Disk.Cx.but {w0 w w' : World} {D G : Nat} {fp : Nat -> Prop} {d : Disk.Dk} (h : Disk.Cx w0 w D fp d) (hb : But G w w') (h1 : ¬ fp G) (h4 : w0.heap.size <= G) : Disk.Cx w0 w' D fp d := by
 have hne : ∀ k, fp k -> k ≠ G := fun k hk e => h1 (e ▸ hk)
 refine ⟨h.is.same (fun k hk hl => hb.block k hl (hne k hk)), ?_, h.lo, fun k hk => Nat.lt_of_lt_of_le (h.hi k hk) hb.size⟩
 have hl := h.bel
 exact ⟨hb.os.trans hl.os, hb.tape.trans hl.tape, hb.output.trans hl.output, Nat.le_trans hl.size hb.size, fun k hk => (hb.block k (Nat.lt_of_lt_of_le hk hl.size) (by omega)).trans (hl.block k hk)⟩
theorem Disk.Cm.but {w0 w w' : World} {D G : Nat} {d : Disk.Dk} {cs : Array Value} {t : TypeId} (h : Disk.Cm w0 w D d) (hb : But G w w') (hG : w.heap[G]? = some (.cells cs t (0, 0))) (ht : ¬ Disk.Own4 t) (h4 : w0.heap.size <= G) : Disk.Cm w0 w' D d := by
 obtain ⟨fp, c, hf⟩ := h.foot
 exact ⟨fp, c.but hb (hf _ _ _ _ hG ht) h4⟩
structure Sc (x0 y : World) (J D : Nat) (j : Jt) (d : Disk.Dk) : Prop where
 cm : Disk.Cm x0 y D d
 row : y.heap[J]? = some (.cells (jcs D j).toArray 78 (0, 0))
 lo : x0.heap.size <= J
 ok : j.Ok
 fit : j.first + j.size <= d.n
 dig : Dig.Tabs x0
 tab : Seal.Tab x0
def Kj (y z : World) : Prop := y.heap.size <= z.heap.size /\ ∀ (k : Nat) (cs : Array Value) (t : TypeId) (fr : Nat × Nat), y.heap[k]? = some (.cells cs t fr) -> ¬ Disk.Own4 t -> t ≠ 78 -> z.heap[k]? = some (.cells cs t fr)
theorem Kj.trans {a b c : World} (h : Kj a b) (g : Kj b c) : Kj a c := ⟨Nat.le_trans h.1 g.1, fun k cs t fr hk h1 h2 => g.2 k cs t fr (h.2 k cs t fr hk h1 h2) h1 h2⟩
theorem Kj.below {y z : World} (h : Below y.heap.size y z) : Kj y z := ⟨h.size, fun k cs t fr hk _ _ => (h.block k (Array.getElem?_eq_some_iff.1 hk).1).trans hk⟩
theorem Kj.fr {y z : World} (h : Disk.Fr y z) : Kj y z := ⟨h.1, fun k cs t fr hk h1 _ => (h.2 k cs t fr hk h1).trans hk⟩
theorem Kj.own {y z : World} (h : Kj y z) {base n : Nat} {e : TypeId} {sz : Nat} {v : Value} {xs : List Value} (ho : y.ownsRow base e sz v n xs) (ht : ¬ Disk.Own4 e) (hj : e ≠ 78) : z.ownsRow base e sz v n xs :=
 own_same ho (fun q hq => by
  rcases ho.2 with ⟨rfl, _⟩ | ⟨g, cap, cur, rfl, _, hg, _⟩
  ·simp [Value.ownBlock] at hq
  ·simp only [Value.ownBlock, Option.some.injEq] at hq
   rw [<- hq, hg]
   exact h.2 _ _ _ _ hg ht hj)
theorem Kj.rv {y z : World} (h : Kj y z) {v : Value} {r : Disk.Rd} (hr : Disk.Rv y v r) : Disk.Rv z v r := by
 obtain ⟨vd, vw, vo, rfl, h1, h2, h3⟩ := hr
 exact ⟨vd, vw, vo, rfl, h.own h1 (by unfold Disk.Own4; decide) (by decide), h.own h2 (by unfold Disk.Own4; decide) (by decide), h.own h3 (by unfold Disk.Own4; decide) (by decide)⟩
theorem Kj.imgs {y z : World} (h : Kj y z) {B c : Nat} {a : Option Addr} {X : List Im} (hi : OImgs y B (.slice a X.length c) X) : OImgs z B (.slice a X.length c) X :=
 ⟨h.own hi.row (by unfold Disk.Own4; decide) (by decide), fun m hm => ⟨h.own (hi.byt m hm).own (by unfold Disk.Own4; decide) (by decide), (hi.byt m hm).byt, (hi.byt m hm).num⟩⟩
theorem Sc.bel {x0 y : World} {J D : Nat} {j : Jt} {d : Disk.Dk} (h : Sc x0 y J D j d) : Below x0.heap.size x0 y := by
 obtain ⟨fp, c⟩ := h.cm
 exact c.bel
theorem Sc.below {x0 y z : World} {J D : Nat} {j : Jt} {d : Disk.Dk} (h : Sc x0 y J D j d) (hb : Below y.heap.size y z) : Sc x0 z J D j d :=
 ⟨h.cm.step hb, (hb.block J (Array.getElem?_eq_some_iff.1 h.row).1).trans h.row, h.lo, h.ok, h.fit, h.dig, h.tab⟩
theorem Sc.jc {x0 y : World} {J D : Nat} {j : Jt} {d : Disk.Dk} (h : Sc x0 y J D j d) : ∃ fp, JC x0 y J D fp j d /\ ∀ (k : Nat) (cs : Array Value) (t : TypeId) (fr : Nat × Nat), y.heap[k]? = some (.cells cs t fr) -> ¬ Disk.Own4 t -> ¬ fp k := by
 obtain ⟨fp, c, hf⟩ := h.cm.foot
 exact ⟨fp, ⟨c, h.row, h.lo, hf _ _ _ _ h.row (by unfold Disk.Own4; decide), h.ok, h.fit, h.dig, h.tab⟩, hf⟩
theorem Sc.of {x0 y : World} {J D : Nat} {fp : Nat -> Prop} {j : Jt} {d : Disk.Dk} (h : JC x0 y J D fp j d) : Sc x0 y J D j d := ⟨⟨fp, h.cx⟩, h.row, h.lo, h.ok, h.fit, h.dig, h.tab⟩
theorem Sc.but {x0 y z : World} {J D G : Nat} {j : Jt} {d : Disk.Dk} {cs : Array Value} {t : TypeId} (h : Sc x0 y J D j d) (hb : But G y z) (hG : y.heap[G]? = some (.cells cs t (0, 0))) (ht : ¬ Disk.Own4 t) (hj : t ≠ 78) (hl : x0.heap.size <= G) : Sc x0 z J D j d :=
 ⟨h.cm.but hb hG ht hl, (hb.block J (Array.getElem?_eq_some_iff.1 h.row).1 (ne_typed h.row hG (by intro e; exact hj e.symm))).trans h.row, h.lo, h.ok, h.fit, h.dig, h.tab⟩
theorem kj_of {x y : World} {J : Nat} {fp fp' : Nat -> Prop} {cs0 : Array Value} (hJ : x.heap[J]? = some (.cells cs0 78 (0, 0))) (hf : ∀ (k : Nat) (cs : Array Value) (t : TypeId) (fr : Nat × Nat), x.heap[k]? = some (.cells cs t fr) -> ¬ Disk.Own4 t -> ¬ fp k) (h : Fw (fun k => k = J) x y fp fp') : Kj x y :=
 ⟨h.size, fun k cs t fr hk h1 h2 => (keep_typed hJ hf h hk h1 h2).trans hk⟩
theorem append_s {x0 y : World} {J D k : Nat} {j : Jt} {d : Disk.Dk} {r : Disk.Rd} (h : Sc x0 y J D j d) (hJ : Disk.J k d r) (hk : k < 900000) (a : Option Addr) (cap : Nat) (M : List Im) (hM : Imgs y a M) (hl : M.length <= 1000) (hmx : ∀ m ∈ M, m.bl <= 100000) :
  Calls Tryd.prog 16 #[.pointer (some ⟨J, 0, none⟩), .slice a M.length cap] y fun e z => e = .returned (.tuple #[.agg (sa (appM j d (M.map pl)).2.2.2), .int .i64 (appM j d (M.map pl)).2.2.1]) /\ Sc x0 z J D { j with nx := (appM j d (M.map pl)).2.1 } (appM j d (M.map pl)).1 /\ Kj y z := by
 obtain ⟨fp, c, hf⟩ := h.jc
 have l1 := hJ.l1
 have l2 := hJ.l2
 rw [hJ.ops] at l2
 rw [hJ.way] at l1
 refine (append_v c a cap M hM hl hmx hJ.lo (by omega) (by omega)).mono ?_
 rintro e z ⟨fp', rfl, hc, hw⟩
 exact ⟨rfl, Sc.of hc, kj_of h.row hf hw⟩
theorem adopt_s {x0 y : World} {J D : Nat} {j : Jt} {d : Disk.Dk} (h : Sc x0 y J D j d) (s : Jst) (hs : OkS s) (lim : Int) (hl : 0 <= lim /\ lim <= 18446744073709551615) :
  Calls Tryd.prog 17 #[.pointer (some ⟨J, 0, none⟩), .agg (sa s), .int .u64 lim] y fun e z => e = .returned (.tuple #[]) /\ Sc x0 z J D (adp j s lim) d /\ Kj y z := by
 obtain ⟨fp, c, hf⟩ := h.jc
 refine (adopt_v c s hs lim hl).mono ?_
 rintro e z ⟨rfl, hc, hw⟩
 exact ⟨rfl, Sc.of hc, kj_of h.row hf hw⟩
theorem Sc.nxt {x0 y z : World} {J D k : Nat} {j : Jt} {d d' : Disk.Dk} {r' : Disk.Rd} (h : Sc x0 y J D j d) (hn : Disk.Nxt x0 y D k d z d' r') : Sc x0 z J D j d' /\ Kj y z :=
 ⟨⟨hn.c, (hn.f.2 _ _ _ _ h.row (by unfold Disk.Own4; decide)).trans h.row, h.lo, h.ok, by rw [hn.nn]; exact h.fit, h.dig, h.tab⟩, Kj.fr hn.f⟩
theorem stop_s {x0 y : World} {J D k : Nat} {j : Jt} {d : Disk.Dk} {r : Disk.Rd} (h : Sc x0 y J D j d) (hJ : Disk.J k d r) (i : Int) (hi : i <= 9223372036854775807) :
  Calls Tryd.prog 26 #[.pointer (some ⟨D, 0, none⟩), .int .i64 i] y fun e z => ∃ d' r', e = .returned (.tuple #[]) /\ Sc x0 z J D j d' /\ d'.n = d.n /\ Kj y z /\ Disk.J (k + 1) d' r' /\ ∀ w2 v, Disk.Rv w2 v r ->
   Calls Tryd.prog 27 #[v, .int .i64 i] w2 fun e w3 => ∃ v', e = .returned v' /\ Disk.Rv w3 v' r' /\ Below w2.heap.size w2 w3 := by
 refine (Disk.both_stop h.cm hJ i hi).mono ?_
 rintro e z ⟨d', r', rfl, hn, hr⟩
 have hs := h.nxt hn
 exact ⟨d', r', rfl, hs.1, hn.nn, hs.2, hn.j, hr⟩
theorem crash_s {x0 y : World} {J D k : Nat} {j : Jt} {d : Disk.Dk} {r : Disk.Rd} (h : Sc x0 y J D j d) (hJ : Disk.J k d r) (hk : k < 900000) (ka : Option Addr) (kl kc : Nat) (K : List Bool) (hK : ∀ x, Below x0.heap.size x0 x -> Disk.Bools x ka kl K) (hKn : ∀ ad, ka = some ad -> 0 < kl -> ad.block < x0.heap.size) (hkl : kl <= maxLen) :
  Calls Tryd.prog 28 #[.pointer (some ⟨D, 0, none⟩), .slice ka kl kc] y fun e z => ∃ d' r', e = .returned (.tuple #[]) /\ Sc x0 z J D j d' /\ d'.n = d.n /\ Kj y z /\ Disk.J (k + 1) d' r' /\ ∀ w2 v, Below x0.heap.size x0 w2 -> Disk.Rv w2 v r ->
   Calls Tryd.prog 29 #[v, .slice ka kl kc] w2 fun e w3 => ∃ v', e = .returned v' /\ Disk.Rv w3 v' r' /\ Below w2.heap.size w2 w3 := by
 refine (Disk.both_crash h.cm hJ hk ka kl kc K hK hKn hkl).mono ?_
 rintro e z ⟨d', r', rfl, hn, hr⟩
 have hs := h.nxt hn
 exact ⟨d', r', rfl, hs.1, hn.nn, hs.2, hn.j, hr⟩
structure ApG (j : Jt) (d : Disk.Dk) (n : Nat) (Y : Ast) : Prop where
 dn : Y.1.n = d.n
 okS : OkS Y.2.2.2
theorem apG (j : Jt) (ok : j.Ok) (d : Disk.Dk) (P : List (Int × List Int)) (hP : P.length <= 1000) : ApG j d P.length (appM j d P) := by
 unfold appM
 by_cases hb : bad P = true
 ·rw [if_pos hb]
  exact ⟨rfl, okS_zs⟩
 ·rw [if_neg hb]
  by_cases ht : tke j P.length = 0
  ·rw [if_neg (fun h => h ht)]
   have hk := apk_take j ok d (ofP P) (ofP P).length (Nat.le_refl _)
   rw [List.take_length] at hk
   by_cases he : (apL j (d, j.nx, 0, j.st) (ofP P)).2.2.1 = 0
   ·rw [if_neg (fun h => h he)]
    obtain ⟨h1, h2, h3, h4, h5⟩ := hk.st he
    have hs := ok.sl
    have hh := ok.hi
    have hc := ok.cl
    exact ⟨hk.gw.n, ⟨h4, h5, by rw [h1]; omega, by rw [h2, len_ofP]; omega⟩⟩
   ·rw [if_pos he]
    exact ⟨hk.gw.n, okS_zs⟩
  ·rw [if_pos ht]
   exact ⟨rfl, okS_zs⟩
theorem rappend_all (hSeal : SealOk) {kk : Nat} {d : Disk.Dk} {r : Disk.Rd} (hJ : Disk.J kk d r) (j : Jt) (ok : j.Ok) (hfit : j.first + j.size <= d.n) (P : List (Int × List Int)) (hP : P.length <= 1000) (hall : ∀ x ∈ P, Byt x.2 /\ N64 x.1) (hk : kk + P.length < 900000) (x : World) (v : Value) (a : Option Addr) (cap : Nat) (hv : Disk.Rv x v r) (hT : Tb x a 2 ic P) :
  Calls Tryd.prog 23 #[v, .agg (rq j.key (j.first : Int) (j.size : Int) j.st j.nx j.lim).toArray, .slice a P.length cap] x fun e z => RaG x j (appM j d P) (kk + P.length) e z := by
 by_cases h0 : P.length = 0
 ·have hP0 : P = [] := List.eq_nil_of_length_eq_zero h0
  subst hP0
  refine (rappend_none d r j ok x v hv a cap).mono ?_
  rintro e z ⟨rfl, hb⟩
  exact ⟨v, r, rfl, hv.below hb, hJ, hb⟩
 ·by_cases hb : ∃ y ∈ P, y.2.length ≠ 160
  ·have e : appM j d P = (d, j.nx, 1, zs) := by
    unfold appM
    rw [if_pos]
    obtain ⟨y, hy, hl⟩ := hb
    simp only [bad, Bool.or_eq_true, List.any_eq_true, decide_eq_true_eq]
    exact .inr ⟨y, hy, hl⟩
   rw [e]
   refine (rappend_bad d r j ok P (by omega) hP hb x v hv a cap hT).mono ?_
   rintro e z ⟨rfl, hb⟩
   exact ⟨v, r, rfl, hv.below hb, J_le hJ (Nat.le_add_right _ _), hb⟩
  ·have hg : ∀ y ∈ P, y.2.length = 160 := fun y hy => Classical.byContradiction fun h => hb ⟨y, hy, h⟩
   have hbf : bad P = false := bad_160' P hg (by omega)
   by_cases hf : j.size - j.st.count < P.length
   ·have e : appM j d P = (d, j.nx, 17, zs) := by
     unfold appM
     have ht : tke j P.length = 17 := by unfold tke; rw [if_pos hf]
     rw [if_neg (by rw [hbf]; simp), ht, if_pos (by decide)]
    rw [e]
    refine (rappend_full d r j ok P (by omega) hP hg hf x v hv a cap hT).mono ?_
    rintro e z ⟨rfl, hb⟩
    exact ⟨v, r, rfl, hv.below hb, J_le hJ (Nat.le_add_right _ _), hb⟩
   ·have h1 : j.st.count + P.length <= j.size := by have := ok.cl; omega
    by_cases hw : j.lim < j.nx + (P.length : Int)
    ·have e : appM j d P = (d, j.nx, 15, zs) := by
      unfold appM
      have ht : tke j P.length = 15 := by unfold tke; rw [if_neg hf, if_pos hw]
      rw [if_neg (by rw [hbf]; simp), ht, if_pos (by decide)]
     rw [e]
     refine (rappend_worn d r j ok P (by omega) hP hg h1 hw x v hv a cap hT).mono ?_
     rintro e z ⟨rfl, hb⟩
     exact ⟨v, r, rfl, hv.below hb, J_le hJ (Nat.le_add_right _ _), hb⟩
    ·have e : appM j d P = goM j d P := by
      unfold appM goM
      have ht : tke j P.length = 0 := by unfold tke; rw [if_neg hf, if_neg hw]
      rw [if_neg (by rw [hbf]; simp), ht, if_neg (by simp)]
     rw [e]
     exact rappend_go hSeal kk d r hJ j ok hfit P hk (by omega) hP (fun y hy => ⟨hg y hy, hall y hy⟩) h1 (by omega) x v hv a cap hT
theorem built_S1x (x : Nat) : Tryd.prog.built 42 [(0, .int .u64 (x : Int))] = some (sa ⟨x, 0, z32⟩) := by kernel_rfl
set_option maxHeartbeats 2000000 in
theorem rempty_any (j : Jt) (ok : j.Ok) (w : World) :
  Calls Tryd.prog 14 #[.agg (rq j.key (j.first : Int) (j.size : Int) j.st j.nx j.lim).toArray] w fun e w' => e = .returned (.agg (sa (ety j))) /\ Below w.heap.size w w' := by
 obtain ⟨S, hS⟩ : ∃ S, w.heap.size = S := ⟨_, rfl⟩
 obtain ⟨A0, hA0⟩ : ∃ A, (rq j.key (j.first : Int) (j.size : Int) j.st j.nx j.lim).toArray = A := ⟨_, rfl⟩
 obtain ⟨w1, hw1⟩ : ∃ w1, (w.alloc (.cells A0 44)).alloc (.cells (sa zs) 42) = w1 := ⟨_, rfl⟩
 have hs1 : (w.alloc (.cells A0 44)).heap.size = S + 1 := by simp [hS]
 have hb1 : Below w.heap.size w w1 := by rw [<- hw1]; exact ((Below.refl _ _).alloc (Nat.le_refl _) _).alloc (by simp) _
 have k1 : w1.heap[S]? = some (.cells (rq j.key (j.first : Int) (j.size : Int) j.st j.nx j.lim).toArray 44 (0, 0)) := by rw [<- hw1, hA0]; exact al_old (al_at hS)
 have k2 : w1.heap[S + 1]? = some (.cells (sa zs) 42 (0, 0)) := by rw [<- hw1]; exact al_at hs1
 obtain ⟨-, q33, q35, -, -⟩ := rq_at (f := (j.first : Int)) (n := (j.size : Int)) (x := j.nx) (y := j.lim) ok.key ok.st
 have q34 : (rq j.key (j.first : Int) (j.size : Int) j.st j.nx j.lim)[34]? = some (.int .u64 (j.st.start : Int)) := by
  rw [rq, List.getElem?_append_right (by simp [ok.key])]
  simp [ok.key, scs]
 have d33 := cell_at k1 q33
 have d34 := cell_at k1 q34
 have d35 := cell_at k1 q35
 obtain ⟨m, hm⟩ : ∃ m, (j.st.start + j.st.count) % j.size = m := ⟨_, rfl⟩
 have e1 : IntKind.u64.wrap ((j.st.start : Int) + (j.st.count : Int)) = ((j.st.start + j.st.count : Nat) : Int) := by rw [IntKind.wrap_u64]; have := ok.sl; have := ok.cl; have := ok.hi; omega
 have e0 : ¬ j.size = 0 := by have := ok.lo; omega
 have e2 : Int.tmod ((j.st.start + j.st.count : Nat) : Int) (j.size : Int) = (m : Int) := by rw [Int.tmod_eq_emod_of_nonneg (by omega), <- hm]; rfl
 have e3 : IntKind.u64.wrap (m : Int) = (m : Int) := by rw [IntKind.wrap_u64]; have := Nat.mod_lt (j.st.start + j.st.count) ok.lo; have := ok.hi; omega
 have hety : ety j = ⟨m, 0, z32⟩ := by unfold ety; rw [hm]
 obtain ⟨E, hE⟩ : ∃ E, sa ⟨m, 0, z32⟩ = E := ⟨_, rfl⟩
 have HBU : Box (Tryd.prog.built 42 [(0, .int .u64 (m : Int))] = some E) := ⟨by rw [<- hE]; exact built_S1x m⟩
 have HSZ : Box (E.size = 34 /\ (sa zs).size = E.size /\ (Tryd.prog.info? 42).map (·.size) = some E.size /\ E.all (·.oneCell') = true /\ (Tryd.prog.info? 42).map (·.size) = some E.toList.length) := ⟨by rw [<- hE]; rfl, by rw [<- hE]; rfl, by rw [<- hE]; exact infoS13, by rw [<- hE]; exact all_sa _, by rw [<- hE]; exact infoS13⟩
 have HB : Box (Below w.heap.size w w1 /\ w.heap.size = S /\ w1.heap[S + 1]? = some (.cells (sa zs) 42 (0, 0))) := ⟨hb1, hS, k2⟩
 rw [hA0, hety, hE]
 obtain ⟨u, hu⟩ : ∃ u, j.st.start + j.st.count = u := ⟨_, rfl⟩
 rw [hu] at e1 e2
 clear k1 k2 hb1 hA0 q33 q34 q35 hety hE hm hu
 go_enter Tryd.func14, Tryd.ntmps14
 go_upto_region 1 with (refine atAlloc _ ?_; refine wpList_run rfl _ _ (exec_alloc 42 rfl _ zeroS13) ?_)
 (try rw [hs1])
 (try simp only [hw1])
 clear hs1 hw1 hS
 go_wp2_with (first
  | (refine atBuild 42 ?_; refine wpList_run rfl _ _ (exec_built 42 [(0, .tmp 12)] rfl [(0, .int .u64 (m : Int))] rfl E HBU.out) ?_)
  | (refine atStore _ ?_; refine wpList_store_row rfl 42 _ _ rfl (S + 1) E rfl rfl 42 (sa zs) HB.out.2.2 HSZ.out.2.2.1 HSZ.out.2.1 HSZ.out.2.2.2.1 ?_))
 refine bodyPost_ret (results_cell (t := 2) (ty := 42) rfl _ _ (S + 1) E.toList _ rfl (range_row (by rw [Array.toArray_toList]; exact setRow_heap _ _ _ _ _ _ HB.out.2.2)) Tryd.underlying42 rfl HSZ.out.2.2.2.2) rfl ?_
 exact ⟨by rw [Array.toArray_toList], below_but HB.out.1 (but_setRow _ _ _) (by have := HB.out.2.1; omega) HB.out.1.size⟩
end Go.Proofs.YthfobaeafapbnaaDoor
namespace Go.Proofs.YthfobaeafapbnaaDoor
open Go.RowKit
section late
variable {P : Program} {md : Region.Mode} {ops : Array Oper} {Q : Exit -> Act -> World -> Prop} {S M : World -> Prop} {c : Nat}
def wpLate (P : Program) (md : Region.Mode) (ops : Array Oper) (Q : Exit -> Act -> World -> Prop) (S M : World -> Prop) (c : Nat) : Nat -> Array Bool -> Act -> World -> Prop
 | 0, L, a, w => Region.ready md ops L = [] /\ Q .normal a w
 | f + 1, L, a, w => (Region.ready md ops L = [] -> Q .normal a w) /\ ∀ i ∈ Region.ready md ops L, wpOp P ops Q i (fun b y => (S y /\ ((L.setIfInBounds i true).getD c true = false -> M y)) /\ wpLate P md ops Q S M c f (L.setIfInBounds i true) b y) a w
theorem late_of (f : Nat) : ∀ (L : Array Bool) (a : Act) (w : World), L.getD c true = true -> wpAnyH P md ops Q S f L a w -> wpLate P md ops Q S M c f L a w := by
 induction f with
 | zero => intro L a w _ h; exact h
 | succ f ih =>
  intro L a w hc h
  refine ⟨h.1, fun i hi => wpOp_mono (fun b y hy => ?_) (h.2 i hi)⟩
  have hc' : (L.setIfInBounds i true).getD c true = true := by
   by_cases e : i = c
   ·subst e
    rw [Array.getD_eq_getD_getElem?, Array.getElem?_setIfInBounds]
    by_cases q : i < L.size <;> simp [q]
   ·rw [getD_set_ne true e]; exact hc
  exact ⟨⟨hy.1, fun h0 => by rw [hc'] at h0; cases h0⟩, ih _ b y hc' hy.2⟩
theorem late_held (f : Nat) : ∀ (L : Array Bool) (a : Act) (w : World), wpLate P md ops Q S M c f L a w -> wpAnyH P md ops Q S f L a w := by
 induction f with
 | zero => intro L a w h; exact h
 | succ f ih => intro L a w h; exact ⟨h.1, fun i hi => wpOp_mono (fun b y hy => ⟨hy.1.1, ih _ b y hy.2⟩) (h.2 i hi)⟩
theorem late_all {rs : List Nat} {f : Nat} {L : Array Bool} {a : Act} {w : World} (hr : Region.ready md ops L = rs) (hne : rs ≠ []) (h : ∀ i ∈ rs, wpOp P ops Q i (fun b y => (S y /\ ((L.setIfInBounds i true).getD c true = false -> M y)) /\ wpLate P md ops Q S M c f (L.setIfInBounds i true) b y) a w) : wpLate P md ops Q S M c (f + 1) L a w :=
 ⟨fun h0 => absurd (hr ▸ h0) hne, hr ▸ h⟩
theorem late_one {i : Nat} {f : Nat} {L : Array Bool} {a : Act} {w : World} (hr : Region.ready md ops L = [i]) (h : wpOp P ops Q i (fun b y => (S y /\ ((L.setIfInBounds i true).getD c true = false -> M y)) /\ wpLate P md ops Q S M c f (L.setIfInBounds i true) b y) a w) : wpLate P md ops Q S M c (f + 1) L a w :=
 late_all hr (by simp) (fun j hj => by rw [List.mem_singleton.1 hj]; exact h)
def waits (md : Region.Mode) (ops : Array Oper) (c i : Nat) : Bool := match ops[c]? with | some o => o.after.any (fun e => Region.binds md e && e.on == i) | none => true
theorem late_first {i : Nat} {oi : Oper} {v : Value} (hi : ops[i]? = some oi) (hs : Region.noSelect ops = true) (hQ : ∀ k a w, Q (.panic k) (a.put oi.dst v) w -> Q (.panic k) a w) (hci : c ≠ i) (hw : waits md ops c i = true) :
  ∀ (f : Nat) (L : Array Bool) (a : Act) (w : World), (∀ j oj, ops[j]? = some oj -> j ≠ i -> L.getD j true = false -> (∀ e ∈ oj.after, Region.binds md e = true -> e.on ≠ i) -> oi.apart ops oj = true) -> i ∈ Region.ready md ops L -> L.getD c true = false ->
   YieldsIf P ops (fun x => S x /\ M x) oi v a -> (S w /\ M w) -> wpLate P md ops Q S M c f (L.setIfInBounds i true) (a.put oi.dst v) w -> wpAnyH P md ops Q S (f + 1) L a w := by
 have hsel := Region.noSelect_spec hs
 intro f
 induction f with
 | zero =>
  intro L a w _ hr _ hy hSM H
  refine ⟨fun h0 => (by rw [h0] at hr; cases hr), fun j hj => ?_⟩
  by_cases e : j = i
  ·subst e; exact hy.wpOp hi hSM ⟨hSM.1, H⟩
  ·have h1 := ready_mono hj e
   rw [H.1] at h1
   cases h1
 | succ f ih =>
  intro L a w hap hr hcL hy hSM H
  refine ⟨fun h0 => (by rw [h0] at hr; cases hr), fun j hj => ?_⟩
  by_cases e : j = i
  ·subst e
   refine hy.wpOp hi hSM ⟨hSM.1, ?_⟩
   exact late_held _ _ _ _ H
  ·obtain ⟨hjL, oj, hoj, hall⟩ := mem_ready.1 hj
   have hiL := (mem_ready.1 hr).1
   have hno : ∀ e ∈ oj.after, Region.binds md e = true -> e.on ≠ i := fun e he hb hq => by
    have h1 := hall e he hb
    rw [hq] at h1
    simp only [Array.getD_eq_getD_getElem?] at h1 hiL
    cases h2 : L[i]? with
    | none => simp [h2] at h1
    | some b => simp [h2] at h1 hiL; simp_all
   have hjc : j ≠ c := fun q => by
    subst q
    unfold waits at hw
    rw [hoj] at hw
    obtain ⟨e, he, hb⟩ := Array.any_eq_true'.1 hw
    simp only [Bool.and_eq_true, beq_iff_eq] at hb
    exact hno e he hb.1 hb.2
   have h1 := wpOp_putIf hoj (hap j oj hoj e hjL hno) (fun cs b => hsel i oi cs b hi) (fun cs b => hsel j oj cs b hoj) hQ hy (H.2 j (ready_mono hj e))
   refine wpOp_mono (fun b y h3 => ?_) h1
   obtain ⟨hy', ⟨hSy, hMy⟩, h4⟩ := h3
   have hc2 : (L.setIfInBounds j true).getD c true = false := by rw [getD_set_ne true hjc]; exact hcL
   have hMy' : M y := hMy (by rw [getD_set_ne true hjc, getD_set_ne true (Ne.symm hci)]; exact hcL)
   refine ⟨hSy, ih (L.setIfInBounds j true) b y (fun k ok hk hki hun hno' => ?_) (ready_mono hr (Ne.symm e)) hc2 hy' ⟨hSy, hMy'⟩ (by rw [Array.setIfInBounds_comm _ _ e]; exact h4)⟩
   refine hap k ok hk hki ?_ hno'
   by_cases q : j = k
   ·subst q; exact hjL
   ·rw [getD_set_ne true q] at hun; exact hun
theorem take_late {i : Nat} {oi : Oper} {v : Value} {f : Nat} {L : Array Bool} {a : Act} {w : World} (c : Nat) (M : World -> Prop) (hi : ops[i]? = some oi)
  (hs : Region.noSelect ops = true) (hf : Region.free md ops L i = true) (hr : (Region.ready md ops L).contains i = true)
  (hQ : ∀ k a w, Q (.panic k) (a.put oi.dst v) w -> Q (.panic k) a w) (hw : Region.wanted oi (yielded ops a.tmps) = true) (hci : c ≠ i) (hwt : waits md ops c i = true) (hcL : L.getD c true = false)
  (hv : ∀ y, S y -> M y -> (execOp a.eval oi).run P y = .ok (.value v) y) (hS : S w) (hM : M w)
  (h : wpLate P md ops Q S M c f (L.setIfInBounds i true) (a.put oi.dst v) w) : wpAnyH P md ops Q S (f + 1) L a w :=
 late_first hi hs hQ hci hwt f L a w (Region.free_spec hi hf) (by simpa using hr) hcL (Or.inl ⟨hw, fun y h => hv y h.1 h.2⟩) ⟨hS, hM⟩ h
theorem dag_in3 {f : Nat} {L : Array Bool} {l : List Value} {w : World} (h : ∀ G : Nat -> Array Bool -> Act -> World -> Prop, G = wpAnyH P md ops Q S -> ∀ L0 : List Value, L0 = l -> G f L { tmps := L0.toArray, defers := [] } w) : wpAnyH P md ops Q S f L { tmps := l.toArray, defers := [] } w := h _ rfl _ rfl
theorem dag_to3 {G : Nat -> Array Bool -> Act -> World -> Prop} (hG : G = wpAnyH P md ops Q S) {f : Nat} {L L' : Array Bool} {l l' : List Value} {w : World} (hL : L = L') (ha : l = l') (h : G f L' { tmps := l'.toArray, defers := [] } w) : wpAnyH P md ops Q S f L { tmps := l.toArray, defers := [] } w := by
 rw [hL, ha, <- hG]
 exact h
theorem act_to3 {K : Act -> World -> Prop} {l l' : List Value} {w : World} (ha : l = l') (h : K { tmps := l'.toArray, defers := [] } w) : K { tmps := l.toArray, defers := [] } w := ha ▸ h
end late
end Go.Proofs.YthfobaeafapbnaaDoor
