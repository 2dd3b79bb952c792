/-
 The walk of the reference's Append, where its disk tells no error. And what follows it.
-/
import Derived.Test.YthfobaeafapbnaaDoorQ01
import Derived.Test.YthfobaeafapbnaaDoorQ35
set_option linter.unusedVariables false
set_option maxRecDepth 100000
namespace Go.Proofs.YthfobaeafapbnaaDoor
open Go.RowKit Plain
theorem rz_new (w : World) (V J : List Value) (Z2 Z3 Z4 : List Value) (l2 : Z2.length = 6) (l3 : Z3.length = 70) (l4 : Z4.length = 34) : Rz w (((((w.alloc (.cells V.toArray 36)).alloc (.cells J.toArray 44)).alloc (.cells Z2.toArray 36)).alloc (.cells Z3.toArray 44)).alloc (.cells Z4.toArray 42)) w.heap.size V J :=
 ⟨al_old (al_old (al_old (al_old (al_at rfl)))), al_old (al_old (al_old (al_at (by simp)))), ⟨Z2, al_old (al_old (al_at (by simp))), l2⟩, ⟨Z3, al_old (al_at (by simp)), l3⟩, ⟨Z4, al_at (by simp), l4⟩, (((((Below.refl _ w).alloc (Nat.le_refl _) _).alloc (by simp) _).alloc (by simp; omega) _).alloc (by simp; omega) _).alloc (by simp; omega) _, rfl⟩
def SealOk : Prop := ∀ (K B : List Int) (p v : Int) (y : World), K.length = 32 -> Byt K -> Byt B -> B.length = 176 -> 0 <= p /\ p <= 4294967295 -> 1 <= v /\ v < 18446744073709551615 -> Calls Tryd.prog 45 #[.agg (u8s K), .int .u32 p, .int .u64 v, .string (strOfNums B)] y fun e w' => e = .returned (.tuple #[.string (strOfNums (Seal.sl K p v B)), .int .i64 0]) /\ Below y.heap.size y w'
theorem Rz.bl' {w y : World} {S : Nat} {V J : List Value} (h : Rz w y S V J) : Below w.heap.size w y := h.bl
theorem splice_all' {α : Type} (L vs : List α) (h : L.length = vs.length) : splice L 0 vs = vs := by simp [splice, h]
theorem laid_newR (W : World) (Z : List Value) (t : TypeId) (vs : List Value) (hz : Z.length = vs.length) :
  Below W.heap.size W ((W.alloc (.cells Z.toArray t)).setCells W.heap.size 0 vs) /\ ((W.alloc (.cells Z.toArray t)).setCells W.heap.size 0 vs).heap[W.heap.size]? = some (.cells vs.toArray t (0, 0)) := by
 have hb := But.setCells (G := W.heap.size) vs 0 (But.of_below (G := W.heap.size) ((Below.refl W.heap.size W).alloc (Nat.le_refl _) (.cells Z.toArray t)))
 have h := setCells_row W.heap.size t vs 0 Z (W.alloc (.cells Z.toArray t)) (al_at rfl) (by omega)
 rw [splice_all' _ _ (by simpa using hz)] at h
 exact ⟨⟨hb.os, hb.tape, hb.output, hb.size, fun k hk => hb.block k hk (by omega)⟩, h⟩
structure Rk (w y : World) (S X : Nat) (V J q : List Value) (r : Disk.Rd) (rs : Value) (N : Nat) (R : List Value) : Prop where
 rz : Rz w y S V J
 bx : y.heap[X]? = some (.cells q.toArray 42 (0, 0))
 hx : S + 5 <= X
 rv : Disk.Rv y (.agg V.toArray) r
 rr : y.ownsRow w.heap.size 116 3 rs N R
theorem Rk.below {w y z : World} {S X N : Nat} {V J q R : List Value} {r : Disk.Rd} {rs : Value} (h : Rk w y S X V J q r rs N R) (hb : Below y.heap.size y z) : Rk w z S X V J q r rs N R :=
 ⟨h.rz.below hb, (hb.block X (Array.getElem?_eq_some_iff.1 h.bx).1).trans h.bx, h.hx, h.rv.below hb, own_same h.rr (fun q hq => hb.block q (h.rr.lt q hq).2)⟩
theorem own_neB {w : World} {base n k B : Nat} {e t : TypeId} {sz : Nat} {v : Value} {xs : List Value} {cs : Array Value} {fr : Nat × Nat} (h : w.ownsRow base e sz v n xs) (hk : v.ownBlock = some k) (hB : w.heap[B]? = some (.cells cs t fr)) (ht : t ≠ e) : k ≠ B := by
 intro eB
 rcases h.2 with ⟨rfl, _⟩ | ⟨g, cap, cur, rfl, _, hg, _⟩
 ·simp [Value.ownBlock] at hk
 ·simp only [Value.ownBlock, Option.some.injEq] at hk
  rw [hk, eB, hB] at hg
  simp only [Option.some.injEq, Obj.cells.injEq] at hg
  exact ht hg.2.1
theorem rv_but {y z : World} {B : Nat} {v : Value} {r : Disk.Rd} {cs : Array Value} {t : TypeId} (h : Disk.Rv y v r) (hb : But B y z) (hB : y.heap[B]? = some (.cells cs t (0, 0))) (h1 : t ≠ 126) (h2 : t ≠ 166) : Disk.Rv z v r := by
 obtain ⟨vd, vw, vo, rfl, k1, k2, k3⟩ := h
 exact ⟨vd, vw, vo, rfl, own_same k1 (fun q hq => hb.block q (k1.lt q hq).2 (own_neB k1 hq hB h1)), own_same k2 (fun q hq => hb.block q (k2.lt q hq).2 (own_neB k2 hq hB h1)), own_same k3 (fun q hq => hb.block q (k3.lt q hq).2 (own_neB k3 hq hB h2))⟩
theorem Rk.set1 {w y z : World} {S X N : Nat} {V J J' q R : List Value} {r : Disk.Rd} {rs : Value} (h : Rk w y S X V J q r rs N R) (hb : But (S + 1) y z) (h1 : z.heap[S + 1]? = some (.cells J'.toArray 44 (0, 0))) : Rk w z S X V J' q r rs N R := by
 have hx := h.hx
 exact ⟨h.rz.set1 hb h1, (hb.block X (Array.getElem?_eq_some_iff.1 h.bx).1 (by omega)).trans h.bx, h.hx, rv_but h.rv hb h.rz.b1 (by decide) (by decide), own_same h.rr (fun q hq => hb.block q (h.rr.lt q hq).2 (own_neB h.rr hq h.rz.b1 (by decide)))⟩
theorem Rk.set0 {w y z : World} {S X N : Nat} {V V' J q R : List Value} {r r' : Disk.Rd} {rs : Value} (h : Rk w y S X V J q r rs N R) (hb : But S y z) (h1 : z.heap[S]? = some (.cells V'.toArray 36 (0, 0))) (hv : Disk.Rv y (.agg V'.toArray) r') : Rk w z S X V' J q r' rs N R := by
 have hx := h.hx
 exact ⟨h.rz.set0 hb h1, (hb.block X (Array.getElem?_eq_some_iff.1 h.bx).1 (by omega)).trans h.bx, h.hx, rv_but hv hb h.rz.b0 (by decide) (by decide), own_same h.rr (fun q hq => hb.block q (h.rr.lt q hq).2 (own_neB h.rr hq h.rz.b0 (by decide)))⟩
theorem Rk.setX {w y z : World} {S X N : Nat} {V J q q' R : List Value} {r : Disk.Rd} {rs : Value} (h : Rk w y S X V J q r rs N R) (hb : But X y z) (h1 : z.heap[X]? = some (.cells q'.toArray 42 (0, 0))) : Rk w z S X V J q' r rs N R := by
 have hx := h.hx
 exact ⟨h.rz.but hb (by omega) hx, h1, h.hx, rv_but h.rv hb h.bx (by decide) (by decide), own_same h.rr (fun q hq => hb.block q (h.rr.lt q hq).2 (own_neB h.rr hq h.bx (by decide)))⟩
theorem Rz.set2 {w y z : World} {S : Nat} {V J Z : List Value} (h : Rz w y S V J) (hb : But (S + 2) y z) (h1 : z.heap[S + 2]? = some (.cells Z.toArray 36 (0, 0))) (hz : Z.length = 6) : Rz w z S V J := by
 have hl := h.lt
 have e : ∀ k, k < S + 5 -> k ≠ S + 2 -> z.heap[k]? = y.heap[k]? := fun k hk hn => hb.block k (by omega) hn
 obtain ⟨Z3, h3, l3⟩ := h.b3
 obtain ⟨Z4, h4, l4⟩ := h.b4
 exact ⟨(e S (by omega) (by omega)).trans h.b0, (e _ (by omega) (by omega)).trans h.b1, ⟨Z, h1, hz⟩, ⟨Z3, (e _ (by omega) (by omega)).trans h3, l3⟩, ⟨Z4, (e _ (by omega) (by omega)).trans h4, l4⟩, h.bl.trans (hb.below (by rw [h.sz]; omega) h.bl.size), h.sz⟩
theorem Rz.set3 {w y z : World} {S : Nat} {V J Z : List Value} (h : Rz w y S V J) (hb : But (S + 3) y z) (h1 : z.heap[S + 3]? = some (.cells Z.toArray 44 (0, 0))) (hz : Z.length = 70) : Rz w z S V J := by
 have hl := h.lt
 have e : ∀ k, k < S + 5 -> k ≠ S + 3 -> z.heap[k]? = y.heap[k]? := fun k hk hn => hb.block k (by omega) hn
 obtain ⟨Z2, h2, l2⟩ := h.b2
 obtain ⟨Z4, h4, l4⟩ := h.b4
 exact ⟨(e S (by omega) (by omega)).trans h.b0, (e _ (by omega) (by omega)).trans h.b1, ⟨Z2, (e _ (by omega) (by omega)).trans h2, l2⟩, ⟨Z, h1, hz⟩, ⟨Z4, (e _ (by omega) (by omega)).trans h4, l4⟩, h.bl.trans (hb.below (by rw [h.sz]; omega) h.bl.size), h.sz⟩
theorem Rz.set4 {w y z : World} {S : Nat} {V J Z : List Value} (h : Rz w y S V J) (hb : But (S + 4) y z) (h1 : z.heap[S + 4]? = some (.cells Z.toArray 42 (0, 0))) (hz : Z.length = 34) : Rz w z S V J := by
 have hl := h.lt
 have e : ∀ k, k < S + 5 -> k ≠ S + 4 -> z.heap[k]? = y.heap[k]? := fun k hk hn => hb.block k (by omega) hn
 obtain ⟨Z2, h2, l2⟩ := h.b2
 obtain ⟨Z3, h3, l3⟩ := h.b3
 exact ⟨(e S (by omega) (by omega)).trans h.b0, (e _ (by omega) (by omega)).trans h.b1, ⟨Z2, (e _ (by omega) (by omega)).trans h2, l2⟩, ⟨Z3, (e _ (by omega) (by omega)).trans h3, l3⟩, ⟨Z, h1, hz⟩, h.bl.trans (hb.below (by rw [h.sz]; omega) h.bl.size), h.sz⟩
theorem Rk.set2 {w y z : World} {S X N : Nat} {V J q R Z : List Value} {r : Disk.Rd} {rs : Value} (h : Rk w y S X V J q r rs N R) (hb : But (S + 2) y z) (h1 : z.heap[S + 2]? = some (.cells Z.toArray 36 (0, 0))) (hz : Z.length = 6) : Rk w z S X V J q r rs N R := by
 have hx := h.hx
 obtain ⟨Z0, h0, _⟩ := h.rz.b2
 exact ⟨h.rz.set2 hb h1 hz, (hb.block X (Array.getElem?_eq_some_iff.1 h.bx).1 (by omega)).trans h.bx, h.hx, rv_but h.rv hb h0 (by decide) (by decide), own_same h.rr (fun q hq => hb.block q (h.rr.lt q hq).2 (own_neB h.rr hq h0 (by decide)))⟩
theorem Rk.set3 {w y z : World} {S X N : Nat} {V J q R Z : List Value} {r : Disk.Rd} {rs : Value} (h : Rk w y S X V J q r rs N R) (hb : But (S + 3) y z) (h1 : z.heap[S + 3]? = some (.cells Z.toArray 44 (0, 0))) (hz : Z.length = 70) : Rk w z S X V J q r rs N R := by
 have hx := h.hx
 obtain ⟨Z0, h0, _⟩ := h.rz.b3
 exact ⟨h.rz.set3 hb h1 hz, (hb.block X (Array.getElem?_eq_some_iff.1 h.bx).1 (by omega)).trans h.bx, h.hx, rv_but h.rv hb h0 (by decide) (by decide), own_same h.rr (fun q hq => hb.block q (h.rr.lt q hq).2 (own_neB h.rr hq h0 (by decide)))⟩
theorem Rk.set4 {w y z : World} {S X N : Nat} {V J q R Z : List Value} {r : Disk.Rd} {rs : Value} (h : Rk w y S X V J q r rs N R) (hb : But (S + 4) y z) (h1 : z.heap[S + 4]? = some (.cells Z.toArray 42 (0, 0))) (hz : Z.length = 34) : Rk w z S X V J q r rs N R := by
 have hx := h.hx
 obtain ⟨Z0, h0, _⟩ := h.rz.b4
 exact ⟨h.rz.set4 hb h1 hz, (hb.block X (Array.getElem?_eq_some_iff.1 h.bx).1 (by omega)).trans h.bx, h.hx, rv_but h.rv hb h0 (by decide) (by decide), own_same h.rr (fun q hq => hb.block q (h.rr.lt q hq).2 (own_neB h.rr hq h0 (by decide)))⟩
theorem put_row {y : World} {g : Nat} {Z C : List Value} {t : TypeId} (h : y.heap[g]? = some (.cells Z.toArray t (0, 0))) (hl : Z.length = C.length) : (y.setCells g 0 C).heap[g]? = some (.cells C.toArray t (0, 0)) /\ But g y (y.setCells g 0 C) := by
 have h2 := setCells_row g t C 0 Z y h (by omega)
 rw [splice_all' _ _ hl] at h2
 exact ⟨h2, But.setCells C 0 (But.refl g y)⟩
theorem there_put {y : World} {g : Nat} {Z C : List Value} {t : TypeId} (h : y.heap[g]? = some (.cells Z.toArray t (0, 0))) (hl : Z.length = C.length) : y.there g 0 C.toArray.size := there_row h (by simp [hl])
structure E22 (w y : World) (S X : Nat) (V J q : List Value) (r : Disk.Rd) (rs : Value) (N : Nat) (R : List Value) : Prop where
 t2 : y.there (S + 2) 0 V.toArray.size
 t3 : (y.setCells (S + 2) 0 V).there (S + 3) 0 J.toArray.size
 t4 : ((y.setCells (S + 2) 0 V).setCells (S + 3) 0 J).there (S + 4) 0 q.toArray.size
 k1 : Rk w (y.setCells (S + 2) 0 V) S X V J q r rs N R
 k2 : Rk w ((y.setCells (S + 2) 0 V).setCells (S + 3) 0 J) S X V J q r rs N R
 k3 : Rk w (((y.setCells (S + 2) 0 V).setCells (S + 3) 0 J).setCells (S + 4) 0 q) S X V J q r rs N R
 r2 : (((y.setCells (S + 2) 0 V).setCells (S + 3) 0 J).setCells (S + 4) 0 q).rangeAt (S + 2) 0 V
 r3 : (((y.setCells (S + 2) 0 V).setCells (S + 3) 0 J).setCells (S + 4) 0 q).rangeAt (S + 3) 0 J
 r4 : (((y.setCells (S + 2) 0 V).setCells (S + 3) 0 J).setCells (S + 4) 0 q).rangeAt (S + 4) 0 q
theorem end22 {w y : World} {S X N : Nat} {V J q R : List Value} {r : Disk.Rd} {rs : Value} (h : Rk w y S X V J q r rs N R) (l1 : V.length = 6) (l2 : J.length = 70) (l3 : q.length = 34) : E22 w y S X V J q r rs N R := by
 obtain ⟨Z2, h2, m2⟩ := h.rz.b2
 have p2 := put_row h2 (m2.trans l1.symm)
 have k1 := h.set2 p2.2 p2.1 l1
 obtain ⟨Z3, h3, m3⟩ := k1.rz.b3
 have p3 := put_row h3 (m3.trans l2.symm)
 have k2 := k1.set3 p3.2 p3.1 l2
 obtain ⟨Z4, h4, m4⟩ := k2.rz.b4
 have p4 := put_row h4 (m4.trans l3.symm)
 have k3 := k2.set4 p4.2 p4.1 l3
 refine ⟨there_put h2 (m2.trans l1.symm), there_put h3 (m3.trans l2.symm), there_put h4 (m4.trans l3.symm), k1, k2, k3, ?_, ?_, range_row p4.1⟩
 ·exact but_range p4.2 (but_range p3.2 (range_row p2.1) (by omega)) (by omega)
 ·exact but_range p4.2 (range_row p3.1) (by omega)
def S22 (y : World) (S X : Nat) (V J q : List Value) : Prop := y.rangeAt S 0 V /\ y.rangeAt (S + 1) 0 J /\ y.rangeAt X 0 q
theorem Rk.s22 {w y : World} {S X N : Nat} {V J q R : List Value} {r : Disk.Rd} {rs : Value} (h : Rk w y S X V J q r rs N R) : S22 y S X V J q := ⟨range_row h.rz.b0, range_row h.rz.b1, range_row h.bx⟩
theorem rv_form {y : World} {v : Value} {r : Disk.Rd} (h : Disk.Rv y v r) : ∃ V : List Value, v = .agg V.toArray /\ V.length = 6 /\ V.toArray.all (·.oneCell') = true := by
 obtain ⟨vd, vw, vo, rfl, h1, h2, h3⟩ := h
 exact ⟨_, rfl, rfl, Disk.one_rv (Disk.one_own h1) (Disk.one_own h2) (Disk.one_own h3)⟩
theorem rv_len {y : World} {V : List Value} {r : Disk.Rd} (h : Disk.Rv y (.agg V.toArray) r) : V.length = 6 := by
 obtain ⟨V', e, hl, _⟩ := rv_form h
 have e2 : V = V' := by simpa using e
 rw [e2, hl]
theorem rec_at {y : World} {base N c : Nat} {ra : Option Addr} {L : List ((Int × List Int) × Bool)} (h : y.ownsRow base 116 3 (.slice ra N c) N (L.map rrc).flatten) (hL : L.length = N) (i : Nat) (hi : i < N) : ∃ g, ra = some ⟨g, 0, none⟩ /\ y.rangeAt g (i * 3) (rrc (L[i]'(by omega))) := by
 rcases h.2 with ⟨h1, h2⟩ | ⟨g, cap', cur, h1, hb, hg, _⟩
 ·omega
 ·simp only [Value.slice.injEq, true_and] at h1
  obtain ⟨rfl, rfl⟩ := h1
  refine ⟨g, rfl, fun q v hv => ?_⟩
  have hq : q < 3 := (List.getElem?_eq_some_iff.1 hv).1
  have := h.cells (g := g) rfl (3 * i + q) v (by
   rw [flat_at _ 3 (fun x hx => by obtain ⟨z, _, rfl⟩ := List.mem_map.1 hx; rfl) i (by simpa [hL] using hi) q hq]
   simpa using hv)
  rw [Addr.add_lit, Nat.zero_add, Nat.mul_comm] at this
  exact this
theorem scs_sq (s : Jst) : scs s = sq (s.start : Int) (s.count : Int) s.tag := rfl
attribute [local go_sem] Oper.semAt_some
structure E3 (w y : World) (S : Nat) (V J q : List Value) : Prop where
 s0 : y.rangeAt S 0 V /\ y.rangeAt (S + 1) 0 J
 t2 : y.there (S + 2) 0 V.toArray.size
 t3 : (y.setCells (S + 2) 0 V).there (S + 3) 0 J.toArray.size
 t4 : ((y.setCells (S + 2) 0 V).setCells (S + 3) 0 J).there (S + 4) 0 q.toArray.size
 s1 : (y.setCells (S + 2) 0 V).rangeAt S 0 V /\ (y.setCells (S + 2) 0 V).rangeAt (S + 1) 0 J
 s2 : ((y.setCells (S + 2) 0 V).setCells (S + 3) 0 J).rangeAt S 0 V /\ ((y.setCells (S + 2) 0 V).setCells (S + 3) 0 J).rangeAt (S + 1) 0 J
 s3 : (((y.setCells (S + 2) 0 V).setCells (S + 3) 0 J).setCells (S + 4) 0 q).rangeAt S 0 V /\ (((y.setCells (S + 2) 0 V).setCells (S + 3) 0 J).setCells (S + 4) 0 q).rangeAt (S + 1) 0 J
 k3 : Rz w (((y.setCells (S + 2) 0 V).setCells (S + 3) 0 J).setCells (S + 4) 0 q) S V J
 r2 : (((y.setCells (S + 2) 0 V).setCells (S + 3) 0 J).setCells (S + 4) 0 q).rangeAt (S + 2) 0 V
 r3 : (((y.setCells (S + 2) 0 V).setCells (S + 3) 0 J).setCells (S + 4) 0 q).rangeAt (S + 3) 0 J
 r4 : (((y.setCells (S + 2) 0 V).setCells (S + 3) 0 J).setCells (S + 4) 0 q).rangeAt (S + 4) 0 q
theorem end3 {w y0 : World} {S : Nat} {V J q : List Value} (h0 : Rz w y0 S V J) (l1 : V.length = 6 /\ J.length = 70) (l3 : q.length = 34) : ∀ y, Below y0.heap.size y0 y -> E3 w y S V J q := fun y hy => by
 have h := h0.below hy
 obtain ⟨Z2, h2, m2⟩ := h.b2
 have p2 := put_row h2 (m2.trans l1.1.symm)
 have k1 := h.set2 p2.2 p2.1 l1.1
 obtain ⟨Z3, h3, m3⟩ := k1.b3
 have p3 := put_row h3 (m3.trans l1.2.symm)
 have k2 := k1.set3 p3.2 p3.1 l1.2
 obtain ⟨Z4, h4, m4⟩ := k2.b4
 have p4 := put_row h4 (m4.trans l3.symm)
 have k3 := k2.set4 p4.2 p4.1 l3
 refine ⟨⟨range_row h.b0, range_row h.b1⟩, there_put h2 (m2.trans l1.1.symm), there_put h3 (m3.trans l1.2.symm), there_put h4 (m4.trans l3.symm), ⟨range_row k1.b0, range_row k1.b1⟩, ⟨range_row k2.b0, range_row k2.b1⟩, ⟨range_row k3.b0, range_row k3.b1⟩, k3, ?_, ?_, range_row p4.1⟩
 ·exact but_range p4.2 (but_range p3.2 (range_row p2.1) (by omega)) (by omega)
 ·exact but_range p4.2 (range_row p3.1) (by omega)
set_option maxHeartbeats 400000 in
theorem rof_zero (a : Option Addr) (n cap : Nat) (HZ : Box (n = 0)) (w : World) : Calls Tryd.prog 43 #[.slice a n cap] w fun e w' => e = .returned (.tuple #[.slice none 0 0, .int .i64 1]) /\ Below w.heap.size w w' := by
 have hz : ((n : Int) == 0) = true := by have := HZ.out; simp [this]
 go_enter Tryd.func43, Tryd.ntmps43
 go_wp2
 go_ret2
 exact ⟨rfl, Below.refl _ _⟩
theorem built_S13z : Tryd.prog.built 42 [] = some (scs zs).toArray := by kernel_rfl
set_option maxHeartbeats 4000000 in
theorem rappend_none (d : Disk.Dk) (r : Disk.Rd) (j : Jt) (ok : j.Ok) (w : World) (v : Value) (hv : Disk.Rv w v r) (a : Option Addr) (cap : Nat) :
  Calls Tryd.prog 23 #[v, .agg (rq j.key (j.first : Int) (j.size : Int) j.st j.nx j.lim).toArray, .slice a 0 cap] w fun e w' => e = .returned (.tuple #[v, .agg (rq j.key (j.first : Int) (j.size : Int) j.st j.nx j.lim).toArray, .agg (sa zs), .int .i64 1]) /\ Below w.heap.size w w' := by
 obtain ⟨S, hS⟩ : ∃ S, w.heap.size = S := ⟨_, rfl⟩
 have HV : Box (Disk.Rv w v r) := ⟨hv⟩
 obtain ⟨vd, vw, vo, rfl, -, -, -⟩ := hv
 have HZ : Box _ := ⟨rz_new w (Disk.rv r.n vd vw r.left r.down vo) (rq j.key (j.first : Int) (j.size : Int) j.st j.nx j.lim) (Disk.rv 0 (.slice none 0 0) (.slice none 0 0) 0 false (.slice none 0 0)) (rq z32 0 0 zs 0 0) (scs zs) rfl (len_rq _ _ _ _ _ _ len_z32 okS_zs) (len_scs okS_zs)⟩
 obtain ⟨V0, hV0⟩ : ∃ V0, Disk.rv r.n vd vw r.left r.down vo = V0 := ⟨_, rfl⟩
 obtain ⟨J0, hJ0⟩ : ∃ J0, rq j.key (j.first : Int) (j.size : Int) j.st j.nx j.lim = J0 := ⟨_, rfl⟩
 obtain ⟨ZJ, hZJ⟩ : ∃ ZJ, (rq z32 0 0 zs 0 0).toArray = ZJ := ⟨_, rfl⟩
 obtain ⟨ZS, hZS⟩ : ∃ ZS, (scs zs).toArray = ZS := ⟨_, rfl⟩
 obtain ⟨ZD, hZD⟩ : ∃ ZD, (Disk.rv 0 (.slice none 0 0) (.slice none 0 0) 0 false (.slice none 0 0)).toArray = ZD := ⟨_, rfl⟩
 have zJ : (Tryd.prog.info? 44).map (·.zero) = some (some (.agg ZJ)) := by rw [<- hZJ]; exact zeroRj
 have zS : (Tryd.prog.info? 42).map (·.zero) = some (some (.agg ZS)) := by rw [<- hZS]; exact zeroS13
 have zD : (Tryd.prog.info? 36).map (·.zero) = some (some (.agg ZD)) := by rw [<- hZD]; exact Disk.zeroD
 rw [hV0, hJ0] at HZ ⊢
 rw [hZJ, hZS, hZD] at HZ
 rw [hV0] at HV
 rw [hS] at HZ
 have HE : Box (Disk.rv r.n vd vw r.left r.down vo = V0 /\ rq j.key (j.first : Int) (j.size : Int) j.st j.nx j.lim = J0) := ⟨hV0, hJ0⟩
 have HOf : Box (∀ y, Calls Tryd.prog 43 #[.slice a 0 cap] y fun e w' => e = .returned (.tuple #[.slice none 0 0, .int .i64 1]) /\ Below y.heap.size y w') := ⟨fun y => rof_zero a 0 cap ⟨rfl⟩ y⟩
 clear hV0 hJ0 hZJ hZS hZD
 go_enter Tryd.func23, Tryd.ntmps23
 go_upto_region 1 with (first
  | (refine atAlloc _ ?_; refine wpList_run rfl _ _ (exec_alloc 36 rfl _ zD) ?_)
  | (refine atAlloc _ ?_; refine wpList_run rfl _ _ (exec_alloc 44 rfl _ zJ) ?_)
  | (refine atAlloc _ ?_; refine wpList_run rfl _ _ (exec_alloc 42 rfl _ zS) ?_))
 (try simp only [Nat.add_assoc, Nat.reduceAdd])
 generalize ((((w.alloc (.cells V0.toArray 36)).alloc (.cells J0.toArray 44)).alloc (.cells ZD 36)).alloc (.cells ZJ 44)).alloc (.cells ZS 42) = w1 at HZ ⊢
 have HOf1 : Box _ := ⟨HOf.out w1⟩
 clear HOf zJ zS zD
 go_upto_region 2 with (go_at_call 43; refine HOf1.out.mono ?_; rintro e w2 ⟨rfl, hb⟩; have H2 : Box (Rz w w2 S V0 J0) := ⟨HZ.out.below hb⟩; clear hb HOf1)
 have HR : Box (Rz w w2 S V0 J0 /\ (V0.length = 6 /\ J0.length = 70) /\ (scs zs).length = 34) := ⟨H2.out, ⟨by rw [<- HE.out.1]; rfl, by rw [<- HE.out.2]; exact len_rq _ _ _ _ _ _ ok.key ok.st⟩, len_scs okS_zs⟩
 have HI2 : Box ((Tryd.prog.info? 36).map (·.size) = some V0.length /\ (Tryd.prog.info? 44).map (·.size) = some J0.length /\ Tryd.prog.built 42 [] = some (scs zs).toArray) := ⟨by rw [HR.out.2.1.1]; exact Disk.infoD, by rw [HR.out.2.1.2]; exact infoRj, built_S13z⟩
 have HI3 : Box ((Tryd.prog.info? 36).map (·.size) = some V0.toArray.size /\ (Tryd.prog.info? 44).map (·.size) = some J0.toArray.size /\ (Tryd.prog.info? 42).map (·.size) = some (scs zs).toArray.size) := ⟨by rw [List.size_toArray]; exact HI2.out.1, by rw [List.size_toArray]; exact HI2.out.2.1, by rw [List.size_toArray, len_scs okS_zs]; exact infoS13⟩
 have one0 : V0.toArray.all (·.oneCell') = true := by
  obtain ⟨V', e, _, h⟩ := rv_form HV.out
  have e2 : V0 = V' := by simpa using e
  rw [e2]; exact h
 have HI4 : Box (V0.toArray.all (·.oneCell') = true /\ J0.toArray.all (·.oneCell') = true /\ (scs zs).toArray.all (·.oneCell') = true) := ⟨one0, by rw [<- HE.out.2]; exact all_rq _ _ _ _ _ _, all_sa zs⟩
 clear one0
 have HI5 : Box ((Tryd.prog.info? 42).map (·.size) = some (scs zs).length) := ⟨by rw [len_scs okS_zs]; exact infoS13⟩
 clear HE HV HZ H2 ok hS
 have HEN : Box _ := ⟨end3 HR.out.1 HR.out.2.1 HR.out.2.2⟩
 clear HR
 go_upto_region 3 with fail
 refine begin_keep (S := fun y => y.rangeAt S 0 V0 /\ y.rangeAt (S + 1) 0 J0) (by kernel_rfl) (fun wd hwd => ?_)
 have HE9 : Box _ := ⟨HEN.out wd (by rw [hwd]; exact (Below.refl _ _).drew)⟩
 have hS := HE9.out.s0
 clear hwd HEN
 refine take_x (i := 0) (v := .agg V0.toArray) rfl (fun w' hLat => exec_load_mid 36 _ (.tmp 3) rfl Tryd.underlying36 rfl _ _ rfl _ HI2.out.1 hLat.1) hS ?_
 try simp only [Act.put, pC, pD, pE, pF, pG]
 refine take_x (i := 1) (v := .agg J0.toArray) rfl (fun w' hLat => exec_load_mid 44 _ (.tmp 4) rfl Tryd.underlying44 rfl _ _ rfl _ HI2.out.2.1 hLat.2) hS ?_
 try simp only [Act.put, pC, pD, pE, pF, pG, pH]
 refine take_x (i := 2) (v := .agg (scs zs).toArray) rfl (fun w' hLat => exec_built 42 [] rfl [] rfl (scs zs).toArray HI2.out.2.2) hS ?_
 try simp only [Act.put, pC, pD, pE, pF, pG, pH]
 refine take_x (i := 3) (v := ?_) rfl ?_ hS ?_
 rotate_left
 ·rintro w' -; go_simp <;> with_reducible rfl
 try simp only [Act.put, pC, pD, pE, pF, pG, pH]
 refine one_keep (i := 4) (by kernel_rfl) ?_
 refine keep_step rfl (by rfl) ?_
 refine wp_store_mid 36 (.tmp 6) (.tmp 27) rfl (S + 2) 0 V0.toArray rfl rfl HE9.out.t2 HI3.out.1 HI4.out.1 ?_
 (try rw [List.toList_toArray])
 have hS := HE9.out.s1
 refine ⟨hS, ?_⟩
 try simp only [Act.put, pF, pG, pH]
 refine one_keep (i := 5) (by kernel_rfl) ?_
 refine keep_step rfl (by rfl) ?_
 refine wp_store_mid 44 (.tmp 7) (.tmp 28) rfl (S + 3) 0 J0.toArray rfl rfl HE9.out.t3 HI3.out.2.1 HI4.out.2.1 ?_
 (try rw [List.toList_toArray])
 have hS := HE9.out.s2
 refine ⟨hS, ?_⟩
 try simp only [Act.put, pF, pG, pH]
 refine one_keep (i := 6) (by kernel_rfl) ?_
 refine keep_step rfl (by rfl) ?_
 refine wp_store_mid 42 (.tmp 8) (.tmp 29) rfl (S + 4) 0 (scs zs).toArray rfl rfl HE9.out.t4 HI3.out.2.2 HI4.out.2.2 ?_
 (try rw [List.toList_toArray])
 have hS := HE9.out.s3
 refine ⟨hS, ?_⟩
 try simp only [Act.put, pF, pG, pH]
 refine take_x (i := 7) (v := ?_) rfl ?_ hS ?_
 rotate_left
 ·rintro w' -; go_simp <;> with_reducible rfl
 try simp only [Act.put, pC, pD, pE, pF, pG, pH]
 refine wpAnyH_done (by kernel_rfl) ?_ _
 clear hS
 go_wp2
 refine bodyPost_ret (results_rows3 (t := 6) (u := 7) (v := 8) (x := 9) rfl _ _ _ Tryd.underlying36 rfl Tryd.underlying44 rfl Tryd.underlying42 rfl _ _ (S + 2) (S + 3) (S + 4) V0 J0 (scs zs) HI2.out.1 HI2.out.2.1 HI5.out rfl rfl rfl HE9.out.r2 HE9.out.r3 HE9.out.r4) rfl ?_
 exact ⟨rfl, HE9.out.k3.bl⟩
set_option maxHeartbeats 4000000 in
theorem rappend_full (d : Disk.Dk) (r : Disk.Rd) (j : Jt) (ok : j.Ok) (P : List (Int × List Int)) (h0 : 0 < P.length) (hP : P.length <= 1000) (hall : ∀ x ∈ P, x.2.length = 160) (h1 : j.size - j.st.count < P.length) (w : World) (v : Value) (hv : Disk.Rv w v r) (a : Option Addr) (cap : Nat) (hT : Tb w a 2 ic P) :
  Calls Tryd.prog 23 #[v, .agg (rq j.key (j.first : Int) (j.size : Int) j.st j.nx j.lim).toArray, .slice a P.length cap] w fun e w' => e = .returned (.tuple #[v, .agg (rq j.key (j.first : Int) (j.size : Int) j.st j.nx j.lim).toArray, .agg (sa zs), .int .i64 17]) /\ Below w.heap.size w w' := by
 obtain ⟨S, hS⟩ : ∃ S, w.heap.size = S := ⟨_, rfl⟩
 obtain ⟨N, hN⟩ : ∃ N, P.length = N := ⟨_, rfl⟩
 have HV : Box (Disk.Rv w v r) := ⟨hv⟩
 obtain ⟨vd, vw, vo, rfl, -, -, -⟩ := hv
 have HZ : Box _ := ⟨rz_new w (Disk.rv r.n vd vw r.left r.down vo) (rq j.key (j.first : Int) (j.size : Int) j.st j.nx j.lim) (Disk.rv 0 (.slice none 0 0) (.slice none 0 0) 0 false (.slice none 0 0)) (rq z32 0 0 zs 0 0) (scs zs) rfl (len_rq _ _ _ _ _ _ len_z32 okS_zs) (len_scs okS_zs)⟩
 obtain ⟨V0, hV0⟩ : ∃ V0, Disk.rv r.n vd vw r.left r.down vo = V0 := ⟨_, rfl⟩
 obtain ⟨J0, hJ0⟩ : ∃ J0, rq j.key (j.first : Int) (j.size : Int) j.st j.nx j.lim = J0 := ⟨_, rfl⟩
 obtain ⟨ZJ, hZJ⟩ : ∃ ZJ, (rq z32 0 0 zs 0 0).toArray = ZJ := ⟨_, rfl⟩
 obtain ⟨ZS, hZS⟩ : ∃ ZS, (scs zs).toArray = ZS := ⟨_, rfl⟩
 obtain ⟨ZD, hZD⟩ : ∃ ZD, (Disk.rv 0 (.slice none 0 0) (.slice none 0 0) 0 false (.slice none 0 0)).toArray = ZD := ⟨_, rfl⟩
 have zJ : (Tryd.prog.info? 44).map (·.zero) = some (some (.agg ZJ)) := by rw [<- hZJ]; exact zeroRj
 have zS : (Tryd.prog.info? 42).map (·.zero) = some (some (.agg ZS)) := by rw [<- hZS]; exact zeroS13
 have zD : (Tryd.prog.info? 36).map (·.zero) = some (some (.agg ZD)) := by rw [<- hZD]; exact Disk.zeroD
 rw [hV0, hJ0] at HZ ⊢
 rw [hZJ, hZS, hZD] at HZ
 rw [hV0] at HV
 rw [hS] at HZ
 have HE : Box (Disk.rv r.n vd vw r.left r.down vo = V0 /\ rq j.key (j.first : Int) (j.size : Int) j.st j.nx j.lim = J0 /\ P.length = N) := ⟨hV0, hJ0, hN⟩
 have HOf : Box (∀ y, Below w.heap.size w y -> _) := ⟨fun y hy => rof_ok a cap P y (hT.below hy) hP h0 hall⟩
 rw [hN] at HOf ⊢
 clear hT hV0 hJ0 hZJ hZS hZD
 go_enter Tryd.func23, Tryd.ntmps23
 go_upto_region 1 with (first
  | (refine atAlloc _ ?_; refine wpList_run rfl _ _ (exec_alloc 36 rfl _ zD) ?_)
  | (refine atAlloc _ ?_; refine wpList_run rfl _ _ (exec_alloc 44 rfl _ zJ) ?_)
  | (refine atAlloc _ ?_; refine wpList_run rfl _ _ (exec_alloc 42 rfl _ zS) ?_))
 (try simp only [Nat.add_assoc, Nat.reduceAdd])
 generalize ((((w.alloc (.cells V0.toArray 36)).alloc (.cells J0.toArray 44)).alloc (.cells ZD 36)).alloc (.cells ZJ 44)).alloc (.cells ZS 42) = w1 at HZ ⊢
 have HOf1 : Box _ := ⟨HOf.out w1 HZ.out.bl⟩
 clear HOf zJ zS zD
 go_upto_region 4 with (go_at_call 43; refine HOf1.out.mono ?_; rintro e w2 ⟨rs, rfl, hro⟩; obtain ⟨ra, rc_, rfl⟩ := own_form2 hro.row; have H2 : Box (Rz w w2 S V0 J0 /\ w2.ownsRow w.heap.size 116 3 (.slice ra N rc_) N ((ofP P).map rrc).flatten) := ⟨HZ.out.below hro.bel, by have h3 := own_low2 hro.row HZ.out.bl.size; rw [<- HE.out.2.2, <- len_ofP P, List.take_of_length_le (Nat.le_refl _), len_ofP P, HE.out.2.2] at h3; exact h3⟩; clear hro HOf1)
 obtain ⟨q32, q33, q35, q68, q69⟩ := rq_at (f := (j.first : Int)) (n := (j.size : Int)) (x := j.nx) (y := j.lim) ok.key ok.st
 rw [HE.out.2.1] at q33 q35
 have d33 := cell_at H2.out.1.b1 q33
 have d35 := cell_at H2.out.1.b1 q35
 have okhi := ok.hi
 have okcl := ok.cl
 rw [hN] at h1 hP h0
 have w1a : IntKind.u64.wrap ((j.size : Int) - (j.st.count : Int)) = (j.size : Int) - (j.st.count : Int) := by rw [IntKind.wrap_u64]; omega
 have g1 : decide ((j.size : Int) - (j.st.count : Int) < (N : Int)) = true := by simp; omega
 have hw3 : IntKind.u64.wrap (N : Int) = (N : Int) := by rw [IntKind.wrap_u64]; omega
 have HR : Box (Rz w w2 S V0 J0 /\ (V0.length = 6 /\ J0.length = 70) /\ (scs zs).length = 34) := ⟨H2.out.1, ⟨by rw [<- HE.out.1]; rfl, by rw [<- HE.out.2.1]; exact len_rq _ _ _ _ _ _ ok.key ok.st⟩, len_scs okS_zs⟩
 have HI2 : Box ((Tryd.prog.info? 36).map (·.size) = some V0.length /\ (Tryd.prog.info? 44).map (·.size) = some J0.length /\ Tryd.prog.built 42 [] = some (scs zs).toArray) := ⟨by rw [HR.out.2.1.1]; exact Disk.infoD, by rw [HR.out.2.1.2]; exact infoRj, built_S13z⟩
 have HI3 : Box ((Tryd.prog.info? 36).map (·.size) = some V0.toArray.size /\ (Tryd.prog.info? 44).map (·.size) = some J0.toArray.size /\ (Tryd.prog.info? 42).map (·.size) = some (scs zs).toArray.size) := ⟨by rw [List.size_toArray]; exact HI2.out.1, by rw [List.size_toArray]; exact HI2.out.2.1, by rw [List.size_toArray, len_scs okS_zs]; exact infoS13⟩
 have one0 : V0.toArray.all (·.oneCell') = true := by
  obtain ⟨V', e, _, h⟩ := rv_form HV.out
  have e2 : V0 = V' := by simpa using e
  rw [e2]; exact h
 have HI4 : Box (V0.toArray.all (·.oneCell') = true /\ J0.toArray.all (·.oneCell') = true /\ (scs zs).toArray.all (·.oneCell') = true) := ⟨one0, by rw [<- HE.out.2.1]; exact all_rq _ _ _ _ _ _, all_sa zs⟩
 clear one0
 have HI5 : Box ((Tryd.prog.info? 42).map (·.size) = some (scs zs).length) := ⟨by rw [len_scs okS_zs]; exact infoS13⟩
 clear HE HV HZ q32 q68 q69 hN hS hall
 have HEN : Box _ := ⟨end3 HR.out.1 HR.out.2.1 HR.out.2.2⟩
 clear HR
 go_upto_region 6 with fail
 refine begin_keep (S := fun y => y.rangeAt S 0 V0 /\ y.rangeAt (S + 1) 0 J0) (by kernel_rfl) (fun wd hwd => ?_)
 have HE9 : Box _ := ⟨HEN.out wd (by rw [hwd]; exact (Below.refl _ _).drew)⟩
 have hS := HE9.out.s0
 clear hwd HEN
 refine take_x (i := 0) (v := .agg V0.toArray) rfl (fun w' hLat => exec_load_mid 36 _ (.tmp 3) rfl Tryd.underlying36 rfl _ _ rfl _ HI2.out.1 hLat.1) hS ?_
 try simp only [Act.put, pC, pD, pE, pF, pG]
 refine take_x (i := 1) (v := .agg J0.toArray) rfl (fun w' hLat => exec_load_mid 44 _ (.tmp 4) rfl Tryd.underlying44 rfl _ _ rfl _ HI2.out.2.1 hLat.2) hS ?_
 try simp only [Act.put, pC, pD, pE, pF, pG, pH]
 refine take_x (i := 2) (v := .agg (scs zs).toArray) rfl (fun w' hLat => exec_built 42 [] rfl [] rfl (scs zs).toArray HI2.out.2.2) hS ?_
 try simp only [Act.put, pC, pD, pE, pF, pG, pH]
 refine one_keep (i := 3) (by kernel_rfl) ?_
 refine keep_step rfl (by rfl) ?_
 refine wp_store_mid 36 (.tmp 6) (.tmp 42) rfl (S + 2) 0 V0.toArray rfl rfl HE9.out.t2 HI3.out.1 HI4.out.1 ?_
 (try rw [List.toList_toArray])
 have hS := HE9.out.s1
 refine ⟨hS, ?_⟩
 try simp only [Act.put, pF, pG, pH]
 refine one_keep (i := 4) (by kernel_rfl) ?_
 refine keep_step rfl (by rfl) ?_
 refine wp_store_mid 44 (.tmp 7) (.tmp 43) rfl (S + 3) 0 J0.toArray rfl rfl HE9.out.t3 HI3.out.2.1 HI4.out.2.1 ?_
 (try rw [List.toList_toArray])
 have hS := HE9.out.s2
 refine ⟨hS, ?_⟩
 try simp only [Act.put, pF, pG, pH]
 refine one_keep (i := 5) (by kernel_rfl) ?_
 refine keep_step rfl (by rfl) ?_
 refine wp_store_mid 42 (.tmp 8) (.tmp 44) rfl (S + 4) 0 (scs zs).toArray rfl rfl HE9.out.t4 HI3.out.2.2 HI4.out.2.2 ?_
 (try rw [List.toList_toArray])
 have hS := HE9.out.s3
 refine ⟨hS, ?_⟩
 try simp only [Act.put, pF, pG, pH]
 refine take_x (i := 6) (v := ?_) rfl ?_ hS ?_
 rotate_left
 ·rintro w' -; go_simp <;> with_reducible rfl
 try simp only [Act.put, pC, pD, pE, pF, pG, pH]
 refine wpAnyH_done (by kernel_rfl) ?_ _
 clear hS
 go_wp2
 refine bodyPost_ret (results_rows3 (t := 6) (u := 7) (v := 8) (x := 9) rfl _ _ _ Tryd.underlying36 rfl Tryd.underlying44 rfl Tryd.underlying42 rfl _ _ (S + 2) (S + 3) (S + 4) V0 J0 (scs zs) HI2.out.1 HI2.out.2.1 HI5.out rfl rfl rfl HE9.out.r2 HE9.out.r3 HE9.out.r4) rfl ?_
 exact ⟨rfl, HE9.out.k3.bl⟩
end Go.Proofs.YthfobaeafapbnaaDoor
