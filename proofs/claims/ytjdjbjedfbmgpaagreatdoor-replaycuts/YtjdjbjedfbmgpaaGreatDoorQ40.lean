/-
 The reference's Load: reading its slots, and linking them.
-/
import Derived.Test.YtjdjbjedfbmgpaaGreatDoorQ39
import Derived.Test.YtjdjbjedfbmgpaaGreatDoorQ32
set_option linter.unusedVariables false
set_option maxRecDepth 100000
set_option maxRecDepth 100000
namespace Go.Proofs.YtjdjbjedfbmgpaaGreatDoor
open Go.RowKit Plain
def ldk (d : Disk.Dk) (f n st i : Nat) : List (Nat × List Int) := (pcs f n st i).map fun p => (p, Disk.lat d p)
theorem ldk_succ (d : Disk.Dk) (f n st i : Nat) : ldk d f n st (i + 1) = ldk d f n st i ++ [(f + (st + i) % n, Disk.lat d (f + (st + i) % n))] := by simp [ldk, pcs_succ]
def lts (d : Disk.Dk) (f n st i : Nat) : List (List Int) := (pcs f n st i).map (Disk.lat d)
theorem lts_succ (d : Disk.Dk) (f n st i : Nat) : lts d f n st (i + 1) = lts d f n st i ++ [Disk.lat d (f + (st + i) % n)] := by simp [lts, pcs_succ]
theorem length_lts (d : Disk.Dk) (f n st i : Nat) : (lts d f n st i).length = i := by simp [lts, pcs]
theorem own_two {w : World} {b1 b2 n1 n2 s1 s2 : Nat} {e1 e2 : TypeId} {v1 v2 : Value} {x1 x2 : List Value} (h : w.ownsRow b1 e1 s1 v1 n1 x1) (k : w.ownsRow b2 e2 s2 v2 n2 x2) (he : e2 ≠ e1) (q : Nat) (h1 : v1.ownBlock = some q) (h2 : v2.ownBlock = some q) : False := by
 rcases k.2 with ⟨rfl, _⟩ | ⟨g, cap, cur, rfl, _, hg, _⟩
 ·simp [Value.ownBlock] at h2
 ·simp only [Value.ownBlock, Option.some.injEq] at h2
  subst h2
  exact own_neB h h1 hg he rfl
theorem rv_grown {y z : World} {v u : Value} {r : Disk.Rd} {B n sz : Nat} {e : TypeId} {xs : List Value} (h : Disk.Rv y v r) (ho : y.ownsRow B e sz u n xs) (hg : y.grownBy z u.ownBlock) (h1 : e ≠ 123) (h2 : e ≠ 166) : Disk.Rv z v r := by
 obtain ⟨vd, vw, vo, rfl, k1, k2, k3⟩ := h
 exact ⟨vd, vw, vo, rfl, own_same k1 (fun q hq => hg.block q (k1.lt q hq).2 (fun e => own_two k1 ho h1 q hq e.symm)), own_same k2 (fun q hq => hg.block q (k2.lt q hq).2 (fun e => own_two k2 ho h1 q hq e.symm)), own_same k3 (fun q hq => hg.block q (k3.lt q hq).2 (fun e => own_two k3 ho h2 q hq e.symm))⟩
structure L1 (w wr : World) (S T : Nat) (K : List Int) (s : Jst) (d : Disk.Dk) (k f n i : Nat) (v : Value) (r : Disk.Rd) (V : List Value) : Prop where
 lz : Lz w wr S V K s
 l6 : V.length = 6
 rv : Disk.Rv wr (.agg V.toArray) r
 j : Disk.J (k + i) (rdD d (pcs f n s.start i)) r
 tg : wr.heap[T]? = some (.cells (u8s (chn (ldk d f n s.start i))) 23 (0, 0))
 hT : S + 4 <= T
 row : wr.ownsRow w.heap.size 9 1 v i (strs (lts d f n s.start i))
theorem L1.below {w wr y : World} {S T : Nat} {K : List Int} {s : Jst} {d : Disk.Dk} {k f n i : Nat} {v : Value} {r : Disk.Rd} {V : List Value} (h : L1 w wr S T K s d k f n i v r V) (hb : Below wr.heap.size wr y) : L1 w y S T K s d k f n i v r V :=
 ⟨h.lz.below hb, h.l6, h.rv.below hb, h.j, (hb.block T (Array.getElem?_eq_some_iff.1 h.tg).1).trans h.tg, h.hT, own_same h.row (fun q hq => hb.block q (h.row.lt q hq).2)⟩
structure L1r (w wr : World) (S T : Nat) (K : List Int) (s : Jst) (d : Disk.Dk) (k f n i : Nat) (v : Value) (r : Disk.Rd) (V : List Value) (tag : List Int) : Prop where
 lz : Lz w wr S V K s
 l6 : V.length = 6
 rv : Disk.Rv wr (.agg V.toArray) r
 j : Disk.J (k + i + 1) (rdD d (pcs f n s.start (i + 1))) r
 tg : wr.heap[T]? = some (.cells (u8s tag) 23 (0, 0))
 hT : S + 4 <= T
 row : wr.ownsRow w.heap.size 9 1 v i (strs (lts d f n s.start i))
theorem L1r.below {w wr y : World} {S T : Nat} {K : List Int} {s : Jst} {d : Disk.Dk} {k f n i : Nat} {v : Value} {r : Disk.Rd} {V : List Value} {tag : List Int} (h : L1r w wr S T K s d k f n i v r V tag) (hb : Below wr.heap.size wr y) : L1r w y S T K s d k f n i v r V tag :=
 ⟨h.lz.below hb, h.l6, h.rv.below hb, h.j, (hb.block T (Array.getElem?_eq_some_iff.1 h.tg).1).trans h.tg, h.hT, own_same h.row (fun q hq => hb.block q (h.row.lt q hq).2)⟩
theorem L1.read {w wr x y : World} {S T : Nat} {K : List Int} {s : Jst} {d : Disk.Dk} {k f n i p : Nat} {v : Value} {r r' : Disk.Rd} {V V' : List Value} (h : L1 w wr S T K s d k f n i v r V) (hp : f + (s.start + i) % n = p) (hb : Below wr.heap.size wr x) (hv : Disk.Rv x (.agg V'.toArray) r') (hl : V'.length = 6) (hj : Disk.J (k + i + 1) (Disk.rdOk (rdD d (pcs f n s.start i)) (p : Int)) r') (hs : y = x.setRow S V'.toArray) :
  L1r w y S T K s d k f n i v r' V' (chn (ldk d f n s.start i)) := by
 have hx := h.below hb
 have hbut : But S x y := by rw [hs]; exact ⟨rfl, rfl, rfl, by simp, fun k _ hk => setRow_other x S k _ hk⟩
 have hlt := hx.lz.lt
 have hT := hx.hT
 have hne : ∀ q, v.ownBlock = some q -> q ≠ S := fun q hq e => own_neB hx.row hq (e ▸ hx.lz.b0) (by decide) rfl
 refine ⟨hx.lz.set0 hbut (by rw [hs]; exact setRow_heap _ _ _ _ _ _ hx.lz.b0), hl, ?_, ?_, (hbut.block T (Array.getElem?_eq_some_iff.1 hx.tg).1 (by omega)).trans hx.tg, hT, own_same hx.row (fun q hq => hbut.block q (hx.row.lt q hq).2 (hne q hq))⟩
 ·exact rv_but hv hbut hx.lz.b0 (by decide) (by decide)
 ·rw [pcs_succ, <- rdD_snoc, hp]; exact hj
theorem L1r.tagged {w wr x y : World} {S T : Nat} {K : List Int} {s : Jst} {d : Disk.Dk} {k f n i p : Nat} {v : Value} {r : Disk.Rd} {V : List Value} (h : L1r w wr S T K s d k f n i v r V (chn (ldk d f n s.start i))) (hp : f + (s.start + i) % n = p) (hb : Below wr.heap.size wr x) (X : List Int) (hX : lnk (chn (ldk d f n s.start i)) (p : Int) (Disk.lat d p) = X) (hs : y = x.setRow T (u8s X)) :
  L1r w y S T K s d k f n i v r V (chn (ldk d f n s.start (i + 1))) := by
 have hx := h.below hb
 have hbut : But T x y := by rw [hs]; exact ⟨rfl, rfl, rfl, by simp, fun k _ hk => setRow_other x T k _ hk⟩
 have hT := hx.hT
 have hne : ∀ q, v.ownBlock = some q -> q ≠ T := fun q hq e => own_neB hx.row hq (e ▸ hx.tg) (by decide) rfl
 have e : chn (ldk d f n s.start (i + 1)) = X := by rw [ldk_succ, chn_snoc, hp]; exact hX
 refine ⟨hx.lz.but hbut hT, hx.l6, rv_but hx.rv hbut hx.tg (by decide) (by decide), hx.j, by rw [e, hs]; exact setRow_heap _ _ _ _ _ _ hx.tg, hT, own_same hx.row (fun q hq => hbut.block q (hx.row.lt q hq).2 (hne q hq))⟩
theorem L1r.more {w wr y : World} {S T : Nat} {K : List Int} {s : Jst} {d : Disk.Dk} {k f n i p : Nat} {v v' : Value} {r : Disk.Rd} {V : List Value} (h : L1r w wr S T K s d k f n i v r V (chn (ldk d f n s.start (i + 1)))) (hp : f + (s.start + i) % n = p) (ho : y.ownsRow w.heap.size 9 1 v' (i + 1) (strs (lts d f n s.start i) ++ [.string (strOfNums (Disk.lat d p))])) (hg : wr.grownBy y v.ownBlock) :
  L1 w y S T K s d k f n (i + 1) v' r V := by
 have hT := h.hT
 have hlt := h.lz.lt
 have hgs := hg.size
 have hn0 : ∀ q, v.ownBlock = some q -> q ≠ S := fun q hq e => own_neB h.row hq (e ▸ h.lz.b0) (by decide) rfl
 have hn1 : ∀ q, v.ownBlock = some q -> q ≠ S + 1 := fun q hq e => own_neB h.row hq (e ▸ h.lz.b1) (by decide) rfl
 have hn2 : ∀ q, v.ownBlock = some q -> q ≠ S + 2 := fun q hq e => own_neB h.row hq (e ▸ h.lz.b2) (by decide) rfl
 have hn3 : ∀ q, v.ownBlock = some q -> q ≠ S + 3 := fun q hq e => own_neB h.row hq (e ▸ h.lz.b3) (by decide) rfl
 have hnT : ∀ q, v.ownBlock = some q -> q ≠ T := fun q hq e => own_neB h.row hq (e ▸ h.tg) (by decide) rfl
 have hbk : ∀ q, q < wr.heap.size -> (∀ b, v.ownBlock = some b -> b ≠ q) -> y.heap[q]? = wr.heap[q]? := fun q hq hn => hg.block q hq (fun e => hn q e.symm rfl)
 refine ⟨⟨(hbk S (by omega) hn0).trans h.lz.b0, (hbk _ (by omega) hn1).trans h.lz.b1, (hbk _ (by omega) hn2).trans h.lz.b2, (hbk _ (by omega) hn3).trans h.lz.b3, h.lz.bl.grown hg h.lz.bl.size (fun q hq => (h.row.lt q hq).1), h.lz.sz⟩, h.l6, rv_grown h.rv h.row hg (by decide) (by decide), h.j, (hbk T (Array.getElem?_eq_some_iff.1 h.tg).1 hnT).trans h.tg, hT, ?_⟩
 rw [lts_succ, hp]
 simpa [strs] using ho
end Go.Proofs.YtjdjbjedfbmgpaaGreatDoor
