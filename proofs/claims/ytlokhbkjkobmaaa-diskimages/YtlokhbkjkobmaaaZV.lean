/-
  The disk and the reference side by side: whatever is done with both, they answer alike, and stay alike.
-/
import Derived.Test.YtlokhbkjkobmaaaZU
import Derived.Test.YtlokhbkjkobmaaaZD
namespace Go.Proofs.Ytlokhbkjkobmaaa
set_option linter.unusedVariables false
open Go.RowKit Plain

/-- The types of a disk's blocks. -/
def Own4 (t : TypeId) : Prop := t = 67 ∨ t = 79 ∨ t = 84 ∨ t = 75
/-- What is not a disk's has not turned. -/
def Fr (w w' : World) : Prop := w.heap.size ≤ w'.heap.size ∧ ∀ (k : Nat) (cs : Array Value) (t : TypeId) (fr : Nat × Nat), w.heap[k]? = some (.cells cs t fr) → ¬ Own4 t → w'.heap[k]? = w.heap[k]?
theorem Fr.refl (w : World) : Fr w w := ⟨Nat.le_refl _, fun _ _ _ _ _ _ => rfl⟩
theorem Fr.trans {a b c : World} (h : Fr a b) (g : Fr b c) : Fr a c := ⟨Nat.le_trans h.1 g.1, fun k cs t fr hk ht => by
  have h1 := h.2 k cs t fr hk ht
  exact (g.2 k cs t fr (h1.trans hk) ht).trans h1⟩
theorem Fr.below {a b : World} (h : Below a.heap.size a b) : Fr a b := ⟨h.size, fun k cs t fr hk _ => h.block k (Array.getElem?_eq_some_iff.1 hk).1⟩
theorem Fr.own {w w' : World} (h : Fr w w') {base n : Nat} {e : TypeId} {sz : Nat} {v : Value} {xs : List Value} (ho : w.ownsRow base e sz v n xs) (he : ¬ Own4 e) : w'.ownsRow base e sz v n xs :=
  own_same ho (fun k hk => by
    rcases ho.2 with ⟨rfl, _⟩ | ⟨g, cap, cur, rfl, _, hg, _⟩
    · simp [Value.ownBlock] at hk
    · simp only [Value.ownBlock, Option.some.injEq] at hk
      subst hk
      exact h.2 _ _ _ _ hg he)
theorem Rv.fr {w w' : World} {v : Value} {r : Rd} (h : Rv w v r) (f : Fr w w') : Rv w' v r := by
  obtain ⟨vd, vw, vo, rfl, h1, h2, h3⟩ := h
  exact ⟨vd, vw, vo, rfl, f.own h1 (by unfold Own4; decide), f.own h2 (by unfold Own4; decide), f.own h3 (by unfold Own4; decide)⟩
/-- A disk of a call's own. -/
def Cm (w0 w : World) (D : Nat) (d : Dk) : Prop := ∃ fp, Cx w0 w D fp d
theorem Cm.foot {w0 w : World} {D : Nat} {d : Dk} (h : Cm w0 w D d) : ∃ fp, Cx w0 w D fp d ∧ ∀ (k : Nat) (cs : Array Value) (t : TypeId) (fr : Nat × Nat), w.heap[k]? = some (.cells cs t fr) → ¬ Own4 t → ¬ fp k := by
  obtain ⟨fp, ⟨P, uv, ov, h1, h2⟩, hb, hlo, hhi⟩ := h
  refine ⟨Go.Proofs.Ytlokhbkjkobmaaa.foot D P uv ov, ⟨⟨P, uv, ov, h1, fun _ hk => hk⟩, hb, fun k hk => hlo k (h2 k hk), fun k hk => h1.lt k hk⟩, fun k cs t fr hk ht hf => ht ?_⟩
  rcases hf with rfl | rfl | hf | hf
  · rw [h1.hd] at hk
    simp only [Option.some.injEq, Obj.cells.injEq] at hk
    exact .inl hk.2.1.symm
  · obtain ⟨c, h3, _⟩ := h1.hp
    rw [h3] at hk
    simp only [Option.some.injEq, Obj.cells.injEq] at hk
    exact .inr (.inl hk.2.1.symm)
  · rcases h1.hu.2 with ⟨e, _⟩ | ⟨g, cap, cur, e, _, hg, _⟩
    · rw [e] at hf; simp [Value.ownBlock] at hf
    · rw [e] at hf
      simp only [Value.ownBlock, Option.some.injEq] at hf
      subst hf
      rw [hg] at hk
      simp only [Option.some.injEq, Obj.cells.injEq] at hk
      exact .inr (.inr (.inl hk.2.1.symm))
  · rcases h1.ho.2 with ⟨e, _⟩ | ⟨g, cap, cur, e, _, hg, _⟩
    · rw [e] at hf; simp [Value.ownBlock] at hf
    · rw [e] at hf
      simp only [Value.ownBlock, Option.some.injEq] at hf
      subst hf
      rw [hg] at hk
      simp only [Option.some.injEq, Obj.cells.injEq] at hk
      exact .inr (.inr (.inr hk.2.1.symm))
theorem Cm.step {w0 w w' : World} {D : Nat} {d : Dk} (h : Cm w0 w D d) (hb : Below w.heap.size w w') : Cm w0 w' D d := by
  obtain ⟨fp, c⟩ := h
  exact ⟨fp, c.step hb⟩
theorem fr_fol {w w' : World} {fp fp' : Nat → Prop} (hf : ∀ (k : Nat) (cs : Array Value) (t : TypeId) (fr : Nat × Nat), w.heap[k]? = some (.cells cs t fr) → ¬ Own4 t → ¬ fp k) (h : Fol w fp w' fp') : Fr w w' :=
  ⟨h.t.size, fun k cs t fr hk ht => h.t.block k (Array.getElem?_eq_some_iff.1 hk).1 (hf k cs t fr hk ht)⟩
/-- They are alike; so many steps at the most were done. -/
structure J (k : Nat) (d : Dk) (r : Rd) : Prop where
  n : r.n = d.n
  pl : ∀ i, rat r.done i = d.pl i
  way : r.way = d.uw
  down : r.down = d.down
  st : d.st = true → r.left = d.left
  no : d.st = false → r.left = -1
  lo : 0 ≤ d.left ∧ d.left ≤ 9223372036854775807
  ops : r.ops = d.ops
  l1 : r.done.length + r.way.length ≤ k
  l2 : r.ops.length ≤ k
theorem J.on {k : Nat} {d : Dk} {r : Rd} (h : J k d r) : J (k + 1) d r := ⟨h.n, h.pl, h.way, h.down, h.st, h.no, h.lo, h.ops, by have := h.l1; omega, by have := h.l2; omega⟩
theorem j_new (n : Nat) : J 0 (dk0 n) (rd0 n) := ⟨rfl, fun _ => rfl, rfl, rfl, fun h => by simp [dk0] at h, fun _ => rfl, by simp [dk0], rfl, Nat.le_refl _, Nat.le_refl _⟩
theorem rat_app (A L : List (Nat × List Int)) (i : Nat) : rat (A ++ L) i = lay L (rat A) i := by
  induction L using snoc_ind with
  | nil => simp [lay]
  | snoc L x ih =>
    rw [← List.append_assoc, lay_snoc, rat, lastOf_snoc, upd]
    by_cases e : x.1 = i
    · simp [e]
    · rw [if_neg e, if_neg (fun h => e h.symm), ← ih, rat]
theorem lay_congr (L : List (Nat × List Int)) (p q : Nat → List Int) (h : ∀ i, p i = q i) (i : Nat) : lay L p i = lay L q i := by rw [lay_get, lay_get, h]
theorem oneR {w : World} {v : Value} {L : List (Nat × List Int)} (h : Rw w v L) : v.oneCell' = true := one_own h
theorem oneO {w : World} {v : Value} {L : List (Int × Int)} (h : Ro w v L) : v.oneCell' = true := one_own h
/-- What a step leaves. -/
structure Nxt (w0 w : World) (D k : Nat) (d0 : Dk) (w' : World) (d' : Dk) (r' : Rd) : Prop where
  c : Cm w0 w' D d'
  f : Fr w w'
  j : J (k + 1) d' r'
  nn : d'.n = d0.n
theorem fit_r {k : Nat} {d : Dk} {r : Rd} (h : J k d r) (i : Int) (len : Nat) : rfit r.n i len = fit d i len := by
  rw [h.n]
  rfl
theorem fit_zero {d : Dk} {i : Int} {len : Nat} (h : fit d i len = 0) : ∃ m : Nat, i = (m : Int) ∧ m < d.n ∧ len = 192 := by
  unfold fit at h
  by_cases h1 : hsp d i = true
  · rw [if_pos h1] at h
    by_cases h2 : len = 192
    · simp only [hsp, decide_eq_true_eq] at h1
      exact ⟨i.toNat, by omega, by omega, h2⟩
    · rw [if_neg h2] at h
      omega
  · rw [if_neg h1] at h
    omega
theorem both_write {w0 w : World} {D k : Nat} {d : Dk} {r : Rd} (C : Cm w0 w D d) (hJ : J k d r) (hk : k < 900000) (i : Int) (g : Nat) (B : List Int) (hB : w.heap[g]? = some (.cells (u8s B) 5 (0, 0))) (hBb : Byt B) :
    Calls Try.prog 18 #[.pointer (some ⟨D, 0, none⟩), .int .i64 i, .slice (some ⟨g, 0, none⟩) B.length B.length] w fun e w' => ∃ x d' r', e = .returned (.int .i64 x) ∧ Nxt w0 w D k d w' d' r' ∧ ∀ w2 v, Rv w2 v r →
      Calls Try.prog 28 #[v, .int .i64 i, .string (strOfNums B)] w2 fun e w3 => ∃ v', e = .returned (.tuple #[v', .int .i64 x]) ∧ Rv w3 v' r' ∧ Below w2.heap.size w2 w3 := by
  obtain ⟨fp, c, hf⟩ := C.foot
  have hng : ¬ fp g := hf g _ _ _ hB (by unfold Own4; decide)
  have l1 := hJ.l1
  have l2 := hJ.l2
  have e1 := hJ.way
  have e2 := hJ.ops
  have e1' : d.uw.length ≤ k := by rw [← e1]; omega
  have e2' : d.ops.length ≤ k := by rw [← e2]; omega
  cases hd : d.down with
  | true =>
    refine (write_down w D fp d c.is i _ _ _ hd).mono ?_
    rintro e w' ⟨rfl, rfl⟩
    refine ⟨13, d, r, rfl, ⟨C, Fr.refl _, hJ.on, rfl⟩, fun w2 v hv => ?_⟩
    obtain ⟨vd, vw, vo, rfl, h1, h2, h3⟩ := hv
    rw [hJ.down, hd]
    refine (rwrite_down w2 r.n vd vw vo r.left (oneR h1) (oneR h2) (oneO h3) i (strOfNums B)).mono ?_
    rintro e w3 ⟨rfl, hb⟩
    exact ⟨_, rfl, ⟨vd, vw, vo, by rw [hJ.down, hd], h1.below hb, h2.below hb, h3.below hb⟩, hb⟩
  | false =>
    by_cases hfit : fit d i B.length = 0
    · obtain ⟨m, rfl, hm, hl⟩ := fit_zero hfit
      have hBy : Bytes w (some ⟨g, 0, none⟩) 192 B := by rw [← hl]; exact bytes_of_row hBb hB
      have hap : ∀ ad : Addr, some (⟨g, 0, none⟩ : Addr) = some ad → ¬ fp ad.block := fun ad e => by simp only [Option.some.injEq] at e; subst e; exact hng
      have hrf : rfit r.n (m : Int) B.length = 0 := by rw [fit_r hJ]; exact hfit
      by_cases hstop : d.st = true ∧ d.left = 0
      · have hrl : r.left = 0 := by rw [hJ.st hstop.1]; exact hstop.2
        refine (write_stop w D fp d c.is (m : Int) _ _ _ hd hfit hstop.1 hstop.2).mono ?_
        rintro e w' ⟨rfl, hn⟩
        obtain ⟨fp', c', fo⟩ := c.nx hn
        refine ⟨13, _, { r with down := true }, rfl, ⟨⟨fp', c'⟩, fr_fol hf fo, ⟨hJ.n, hJ.pl, hJ.way, rfl, hJ.st, hJ.no, hJ.lo, hJ.ops, by show r.done.length + r.way.length ≤ k + 1; omega, by show r.ops.length ≤ k + 1; omega⟩, rfl⟩, fun w2 v hv => ?_⟩
        obtain ⟨vd, vw, vo, rfl, h1, h2, h3⟩ := hv
        rw [hJ.down, hd, hrl]
        refine (rwrite_stop w2 r.n vd vw vo (oneR h1) (oneR h2) (oneO h3) (m : Int) (strOfNums B) B.length (size_str B) hrf).mono ?_
        rintro e w3 ⟨rfl, hb⟩
        exact ⟨_, rfl, ⟨vd, vw, vo, rfl, h1.below hb, h2.below hb, h3.below hb⟩, hb⟩
      · have hw := write_ok w D fp d c.is m (some ⟨g, 0, none⟩) 192 B hBy hap hd hm (fun h1 h2 => hstop ⟨h1, h2⟩) hJ.lo (by omega) (by omega)
        rw [← hl] at hw
        refine hw.mono ?_
        rintro e w' ⟨rfl, hn⟩
        obtain ⟨fp', c', fo⟩ := c.nx hn
        by_cases hst : d.st = true
        · have hrl := hJ.st hst
          have hlo := hJ.lo
          have hpos : 0 < r.left := by rw [hrl]; have : d.left ≠ 0 := fun h => hstop ⟨hst, h⟩; omega
          refine ⟨0, _, { r with left := r.left - 1, way := r.way ++ [(m, B)], ops := r.ops ++ [(2, (m : Int))] }, rfl, ⟨⟨fp', c'⟩, fr_fol hf fo, ⟨hJ.n, hJ.pl, by show r.way ++ [(m, B)] = d.uw ++ [(m, B)]; rw [e1], hJ.down, fun _ => by show r.left - 1 = if d.st then d.left - 1 else d.left; rw [if_pos hst, hrl], fun h => absurd h (by rw [show (wrOk d m B).st = d.st from rfl, hst]; simp), by show 0 ≤ (if d.st then d.left - 1 else d.left) ∧ (if d.st then d.left - 1 else d.left) ≤ _; rw [if_pos hst]; omega, by show r.ops ++ _ = d.ops ++ _; rw [e2], by show r.done.length + (r.way ++ [(m, B)]).length ≤ k + 1; simp; omega, by show (r.ops ++ _).length ≤ k + 1; simp; omega⟩, rfl⟩, fun w2 v hv => ?_⟩
          obtain ⟨vd, vw, vo, rfl, h1, h2, h3⟩ := hv
          rw [hJ.down, hd]
          refine (rwrite_left w2 r.n vd vw vo r.left r.way r.ops (oneR h1) h2 h3 (by omega) (by omega) m B hrf hpos (by omega)).mono ?_
          rintro e w3 ⟨vw', vo', rfl, hb, h4, h5⟩
          exact ⟨_, rfl, ⟨vd, vw', vo', rfl, h1.below hb, h4, h5⟩, hb⟩
        · have hst' : d.st = false := by simpa using hst
          have hrl := hJ.no hst'
          refine ⟨0, _, { r with way := r.way ++ [(m, B)], ops := r.ops ++ [(2, (m : Int))] }, rfl, ⟨⟨fp', c'⟩, fr_fol hf fo, ⟨hJ.n, hJ.pl, by show r.way ++ [(m, B)] = d.uw ++ [(m, B)]; rw [e1], hJ.down, fun h => by rw [show (wrOk d m B).st = d.st from rfl] at h; exact absurd h hst, fun _ => hrl, by show 0 ≤ (if d.st then d.left - 1 else d.left) ∧ (if d.st then d.left - 1 else d.left) ≤ _; rw [if_neg hst]; exact hJ.lo, by show r.ops ++ _ = d.ops ++ _; rw [e2], by show r.done.length + (r.way ++ [(m, B)]).length ≤ k + 1; simp; omega, by show (r.ops ++ _).length ≤ k + 1; simp; omega⟩, rfl⟩, fun w2 v hv => ?_⟩
          obtain ⟨vd, vw, vo, rfl, h1, h2, h3⟩ := hv
          rw [hJ.down, hd]
          refine (rwrite_on w2 r.n vd vw vo r.left r.way r.ops (oneR h1) h2 h3 (by omega) (by omega) m B hrf (by omega)).mono ?_
          rintro e w3 ⟨vw', vo', rfl, hb, h4, h5⟩
          exact ⟨_, rfl, ⟨vd, vw', vo', rfl, h1.below hb, h4, h5⟩, hb⟩
    · refine (write_misfit w D fp d c.is i _ _ _ hd hfit).mono ?_
      rintro e w' ⟨rfl, rfl⟩
      refine ⟨fit d i B.length, d, r, rfl, ⟨C, Fr.refl _, hJ.on, rfl⟩, fun w2 v hv => ?_⟩
      obtain ⟨vd, vw, vo, rfl, h1, h2, h3⟩ := hv
      rw [hJ.down, hd]
      refine (rwrite_misfit w2 r.n vd vw vo r.left (oneR h1) (oneR h2) (oneO h3) i (strOfNums B) B.length (size_str B) _ (fit_r hJ i _) hfit).mono ?_
      rintro e w3 ⟨rfl, hb⟩
      exact ⟨_, rfl, ⟨vd, vw, vo, by rw [hJ.down, hd], h1.below hb, h2.below hb, h3.below hb⟩, hb⟩
theorem both_flush {w0 w : World} {D k : Nat} {d : Dk} {r : Rd} (C : Cm w0 w D d) (hJ : J k d r) (hk : k < 900000) :
    Calls Try.prog 19 #[.pointer (some ⟨D, 0, none⟩)] w fun e w' => ∃ x d' r', e = .returned (.int .i64 x) ∧ Nxt w0 w D k d w' d' r' ∧ ∀ w2 v, Rv w2 v r →
      Calls Try.prog 30 #[v] w2 fun e w3 => ∃ v', e = .returned (.tuple #[v', .int .i64 x]) ∧ Rv w3 v' r' ∧ Below w2.heap.size w2 w3 := by
  obtain ⟨fp, c, hf⟩ := C.foot
  have l1 := hJ.l1
  have l2 := hJ.l2
  have e1 := hJ.way
  have e2 := hJ.ops
  have e1' : d.uw.length ≤ k := by rw [← e1]; omega
  have e2' : d.ops.length ≤ k := by rw [← e2]; omega
  cases hd : d.down with
  | true =>
    refine (flush_down w D fp d c.is hd).mono ?_
    rintro e w' ⟨rfl, rfl⟩
    refine ⟨13, d, r, rfl, ⟨C, Fr.refl _, hJ.on, rfl⟩, fun w2 v hv => ?_⟩
    obtain ⟨vd, vw, vo, rfl, h1, h2, h3⟩ := hv
    rw [hJ.down, hd]
    refine (rflush_down w2 r.n vd vw vo r.left (oneR h1) (oneR h2) (oneO h3)).mono ?_
    rintro e w3 ⟨rfl, hb⟩
    exact ⟨_, rfl, ⟨vd, vw, vo, by rw [hJ.down, hd], h1.below hb, h2.below hb, h3.below hb⟩, hb⟩
  | false =>
    refine (flush_ok w D fp d c.is hd (by omega) (by omega)).mono ?_
    rintro e w' ⟨rfl, hn⟩
    obtain ⟨fp', c', fo⟩ := c.nx hn
    refine ⟨0, _, { r with done := r.done ++ r.way, way := [], ops := r.ops ++ [(3, 0)] }, rfl, ⟨⟨fp', c'⟩, fr_fol hf fo, ⟨hJ.n, fun i => ?_, rfl, hJ.down, hJ.st, hJ.no, hJ.lo, by show r.ops ++ _ = d.ops ++ _; rw [e2], by show (r.done ++ r.way).length + 0 ≤ k + 1; simp; omega, by show (r.ops ++ _).length ≤ k + 1; simp; omega⟩, rfl⟩, fun w2 v hv => ?_⟩
    · show rat (r.done ++ r.way) i = lay d.uw d.pl i
      rw [rat_app, e1]
      exact lay_congr _ _ _ hJ.pl i
    · obtain ⟨vd, vw, vo, rfl, h1, h2, h3⟩ := hv
      rw [hJ.down, hd]
      refine (rflush_ok w2 r.n vd vw vo r.left r.done r.way r.ops h1 h2 h3 (by omega) (by omega)).mono ?_
      rintro e w3 ⟨vd', vo', rfl, hb, h4, h5⟩
      exact ⟨_, rfl, ⟨vd', _, vo', rfl, h4, Rw.nil _, h5⟩, hb⟩
theorem both_stop {w0 w : World} {D k : Nat} {d : Dk} {r : Rd} (C : Cm w0 w D d) (hJ : J k d r) (i : Int) (hi : i ≤ 9223372036854775807) :
    Calls Try.prog 23 #[.pointer (some ⟨D, 0, none⟩), .int .i64 i] w fun e w' => ∃ d' r', e = .returned (.tuple #[]) ∧ Nxt w0 w D k d w' d' r' ∧ ∀ w2 v, Rv w2 v r →
      Calls Try.prog 31 #[v, .int .i64 i] w2 fun e w3 => ∃ v', e = .returned v' ∧ Rv w3 v' r' ∧ Below w2.heap.size w2 w3 := by
  obtain ⟨fp, c, hf⟩ := C.foot
  have l1 := hJ.l1
  have l2 := hJ.l2
  refine (stop_any w D fp d c.is i).mono ?_
  rintro e w' ⟨rfl, hn⟩
  obtain ⟨fp', c', fo⟩ := c.nx hn
  refine ⟨_, { r with left := rlf i }, rfl, ⟨⟨fp', c'⟩, fr_fol hf fo, ⟨hJ.n, hJ.pl, hJ.way, hJ.down, fun h => ?_, fun h => ?_, ?_, hJ.ops, by show r.done.length + r.way.length ≤ k + 1; omega, by show r.ops.length ≤ k + 1; omega⟩, rfl⟩, fun w2 v hv => ?_⟩
  · have h0 : 0 ≤ i := by simpa using h
    show rlf i = max i 0
    rw [rlf, if_neg (by omega)]
    omega
  · have h0 : ¬ 0 ≤ i := by simpa using h
    show rlf i = -1
    rw [rlf, if_pos (by omega)]
  · show 0 ≤ max i 0 ∧ max i 0 ≤ 9223372036854775807
    omega
  · obtain ⟨vd, vw, vo, rfl, h1, h2, h3⟩ := hv
    refine (rstop_any w2 r.n vd vw vo r.left r.down (oneR h1) (oneR h2) (oneO h3) i).mono ?_
    rintro e w3 ⟨rfl, hb⟩
    exact ⟨_, rfl, ⟨vd, vw, vo, rfl, h1.below hb, h2.below hb, h3.below hb⟩, hb⟩
theorem both_crash {w0 w : World} {D k : Nat} {d : Dk} {r : Rd} (C : Cm w0 w D d) (hJ : J k d r) (hk : k < 900000) (ka : Option Addr) (kl kc : Nat) (K : List Bool) (hK : ∀ x, Below w0.heap.size w0 x → Bools x ka kl K) (hKn : ∀ ad, ka = some ad → 0 < kl → ad.block < w0.heap.size) (hkl : kl ≤ maxLen) :
    Calls Try.prog 20 #[.pointer (some ⟨D, 0, none⟩), .slice ka kl kc] w fun e w' => ∃ d' r', e = .returned (.tuple #[]) ∧ Nxt w0 w D k d w' d' r' ∧ ∀ w2 v, Below w0.heap.size w0 w2 → Rv w2 v r →
      Calls Try.prog 32 #[v, .slice ka kl kc] w2 fun e w3 => ∃ v', e = .returned v' ∧ Rv w3 v' r' ∧ Below w2.heap.size w2 w3 := by
  obtain ⟨fp, c, hf⟩ := C.foot
  have l1 := hJ.l1
  have l2 := hJ.l2
  have e1 := hJ.way
  have e1' : d.uw.length ≤ k := by rw [← e1]; omega
  refine (crash_any w D fp d c.is ka kl kc K (hK w c.bel) (fun ad e h0 h => by have := c.lo _ h; have := hKn ad e h0; omega) (by omega) hkl).mono ?_
  rintro e w' ⟨rfl, hn⟩
  obtain ⟨fp', c', fo⟩ := c.nx hn
  refine ⟨_, { r with done := r.done ++ kp r.way K, way := [], left := -1, down := false }, rfl, ⟨⟨fp', c'⟩, fr_fol hf fo, ⟨hJ.n, fun i => ?_, rfl, rfl, fun h => by simp [crOk] at h, fun _ => rfl, by simp [crOk], hJ.ops, by show (r.done ++ kp r.way K).length + 0 ≤ k + 1; have := length_kp r.way K; simp; omega, by show r.ops.length ≤ k + 1; omega⟩, rfl⟩, fun w2 v hb2 hv => ?_⟩
  · show rat (r.done ++ kp r.way K) i = lay (kp d.uw K) d.pl i
    rw [rat_app, e1]
    exact lay_congr _ _ _ hJ.pl i
  · obtain ⟨vd, vw, vo, rfl, h1, h2, h3⟩ := hv
    refine (rcrash_any w2 r.n vd vw vo r.left r.down r.done r.way ka kl kc K (hK w2 hb2) h1 h2 (oneO h3) (by omega) hkl).mono ?_
    rintro e w3 ⟨vd', rfl, hb, h4⟩
    exact ⟨_, rfl, ⟨vd', _, vo, rfl, h4, Rw.nil _, h3.below hb⟩, hb⟩
theorem both_tamper {w0 w : World} {D k : Nat} {d : Dk} {r : Rd} (C : Cm w0 w D d) (hJ : J k d r) (hk : k < 900000) (i : Int) (g : Nat) (B : List Int) (hB : w.heap[g]? = some (.cells (u8s B) 5 (0, 0))) (hBb : Byt B) :
    Calls Try.prog 24 #[.pointer (some ⟨D, 0, none⟩), .int .i64 i, .slice (some ⟨g, 0, none⟩) B.length B.length] w fun e w' => ∃ x d' r', e = .returned (.int .i64 x) ∧ Nxt w0 w D k d w' d' r' ∧ ∀ w2 v, Rv w2 v r →
      Calls Try.prog 33 #[v, .int .i64 i, .string (strOfNums B)] w2 fun e w3 => ∃ v', e = .returned (.tuple #[v', .int .i64 x]) ∧ Rv w3 v' r' ∧ Below w2.heap.size w2 w3 := by
  obtain ⟨fp, c, hf⟩ := C.foot
  have hng : ¬ fp g := hf g _ _ _ hB (by unfold Own4; decide)
  have l1 := hJ.l1
  have l2 := hJ.l2
  have e1 := hJ.way
  have e1' : d.uw.length ≤ k := by rw [← e1]; omega
  by_cases hfit : fit d i B.length = 0
  · obtain ⟨m, rfl, hm, hl⟩ := fit_zero hfit
    have hBy : Bytes w (some ⟨g, 0, none⟩) 192 B := by rw [← hl]; exact bytes_of_row hBb hB
    have hap : ∀ ad : Addr, some (⟨g, 0, none⟩ : Addr) = some ad → ¬ fp ad.block := fun ad e => by simp only [Option.some.injEq] at e; subst e; exact hng
    have hrf : rfit r.n (m : Int) B.length = 0 := by rw [fit_r hJ]; exact hfit
    have hw := tamper_ok w D fp d c.is m (some ⟨g, 0, none⟩) 192 B hBy hap hm (by omega)
    rw [← hl] at hw
    refine hw.mono ?_
    rintro e w' ⟨rfl, hn⟩
    obtain ⟨fp', c', fo⟩ := c.nx hn
    refine ⟨0, _, { r with done := r.done ++ [(m, B)], way := oth m r.way }, rfl, ⟨⟨fp', c'⟩, fr_fol hf fo, ⟨hJ.n, fun i => ?_, by show oth m r.way = oth m d.uw; rw [e1], hJ.down, hJ.st, hJ.no, hJ.lo, hJ.ops, by show (r.done ++ [(m, B)]).length + (oth m r.way).length ≤ k + 1; have := oth_len m r.way; simp; omega, by show r.ops.length ≤ k + 1; omega⟩, rfl⟩, fun w2 v hv => ?_⟩
    · show rat (r.done ++ [(m, B)]) i = upd d.pl m B i
      rw [rat_app]
      show upd (rat r.done) m B i = upd d.pl m B i
      unfold upd
      rw [hJ.pl]
    · obtain ⟨vd, vw, vo, rfl, h1, h2, h3⟩ := hv
      refine (rtamper_ok w2 r.n vd vw vo r.left r.down r.done r.way h1 h2 (oneO h3) (by omega) (by omega) m B hrf).mono ?_
      rintro e w3 ⟨vd', vw', rfl, hb, h4, h5⟩
      exact ⟨_, rfl, ⟨vd', vw', vo, rfl, h4, h5, h3.below hb⟩, hb⟩
  · refine (tamper_misfit w D fp d c.is i _ _ _ hfit).mono ?_
    rintro e w' ⟨rfl, hb⟩
    refine ⟨fit d i B.length, d, r, rfl, ⟨C.step hb, Fr.below hb, hJ.on, rfl⟩, fun w2 v hv => ?_⟩
    obtain ⟨vd, vw, vo, rfl, h1, h2, h3⟩ := hv
    refine (rtamper_misfit w2 r.n vd vw vo r.left r.down (oneR h1) (oneR h2) (oneO h3) i (strOfNums B) B.length (size_str B) _ (fit_r hJ i _) hfit).mono ?_
    rintro e w3 ⟨rfl, hb⟩
    exact ⟨_, rfl, ⟨vd, vw, vo, rfl, h1.below hb, h2.below hb, h3.below hb⟩, hb⟩
theorem both_read {w0 w : World} {D k : Nat} {d : Dk} {r : Rd} (C : Cm w0 w D d) (hJ : J k d r) (hk : k < 900000) (i : Int) :
    Calls Try.prog 21 #[.pointer (some ⟨D, 0, none⟩), .int .i64 i] w fun e w' => ∃ a len cap X x d' r', e = .returned (.tuple #[.slice a len cap, .int .i64 x]) ∧ Bytes w' a len X ∧ Nxt w0 w D k d w' d' r' ∧ ∀ w2 v, Rv w2 v r →
      Calls Try.prog 29 #[v, .int .i64 i] w2 fun e w3 => ∃ v', e = .returned (.tuple #[v', .string (strOfNums X), .int .i64 x]) ∧ Rv w3 v' r' ∧ Below w2.heap.size w2 w3 := by
  obtain ⟨fp, c, hf⟩ := C.foot
  have l1 := hJ.l1
  have l2 := hJ.l2
  have e1 := hJ.way
  have e2 := hJ.ops
  have e1' : d.uw.length ≤ k := by rw [← e1]; omega
  have e2' : d.ops.length ≤ k := by rw [← e2]; omega
  have hnil : ∀ x : World, Bytes x none 0 [] := fun x => ⟨rfl, fun i => by simp, fun h => by omega⟩
  cases hd : d.down with
  | true =>
    refine (read_down w D fp d c.is i hd).mono ?_
    rintro e w' ⟨rfl, rfl⟩
    refine ⟨none, 0, 0, [], 13, d, r, rfl, hnil _, ⟨C, Fr.refl _, hJ.on, rfl⟩, fun w2 v hv => ?_⟩
    obtain ⟨vd, vw, vo, rfl, h1, h2, h3⟩ := hv
    rw [hJ.down, hd, str_nil]
    refine (rread_down w2 r.n vd vw vo r.left (oneR h1) (oneR h2) (oneO h3) i).mono ?_
    rintro e w3 ⟨rfl, hb⟩
    exact ⟨_, rfl, ⟨vd, vw, vo, by rw [hJ.down, hd], h1.below hb, h2.below hb, h3.below hb⟩, hb⟩
  | false =>
    cases hh : hsp d i with
    | false =>
      refine (read_range w D fp d c.is i hd hh).mono ?_
      rintro e w' ⟨rfl, rfl⟩
      refine ⟨none, 0, 0, [], 12, d, r, rfl, hnil _, ⟨C, Fr.refl _, hJ.on, rfl⟩, fun w2 v hv => ?_⟩
      obtain ⟨vd, vw, vo, rfl, h1, h2, h3⟩ := hv
      rw [hJ.down, hd, str_nil]
      refine (rread_no w2 r.n vd vw vo r.left (oneR h1) (oneR h2) (oneO h3) i (by rw [hJ.n]; exact hh)).mono ?_
      rintro e w3 ⟨rfl, hb⟩
      exact ⟨_, rfl, ⟨vd, vw, vo, by rw [hJ.down, hd], h1.below hb, h2.below hb, h3.below hb⟩, hb⟩
    | true =>
      have hm : ∃ m : Nat, i = (m : Int) ∧ m < d.n := by
        simp only [hsp, decide_eq_true_eq] at hh
        exact ⟨i.toNat, by omega, by omega⟩
      obtain ⟨m, rfl, hm⟩ := hm
      refine (read_cx c m hd hm (by omega) (by omega)).mono ?_
      rintro e w' ⟨R, fp', rfl, c', fo, lc, _, hl, hb192⟩
      refine ⟨some ⟨R, 0, none⟩, 192, 192, lat d m, 0, _, { r with ops := r.ops ++ [(1, (m : Int))] }, rfl, lc.bytes hb192 192 hl, ⟨⟨fp', c'⟩, fr_fol hf fo, ⟨hJ.n, hJ.pl, hJ.way, hJ.down, hJ.st, hJ.no, hJ.lo, by show r.ops ++ _ = d.ops ++ _; rw [e2], by show r.done.length + r.way.length ≤ k + 1; omega, by show (r.ops ++ _).length ≤ k + 1; simp; omega⟩, rfl⟩, fun w2 v hv => ?_⟩
      obtain ⟨vd, vw, vo, rfl, h1, h2, h3⟩ := hv
      rw [hJ.down, hd]
      have hlat : lat d m = rlat r.done r.way m := by rw [lat, rlat, e1, hJ.pl]
      rw [hlat]
      refine (rread_ok w2 r.n vd vw vo r.left r.done r.way r.ops h1 h2 h3 (by omega) (by omega) (by omega) m (by rw [hJ.n]; exact hm)).mono ?_
      rintro e w3 ⟨vo', rfl, hb, h4⟩
      exact ⟨_, rfl, ⟨vd, vw, vo', rfl, h1.below hb, h2.below hb, h4⟩, hb⟩
end Go.Proofs.Ytlokhbkjkobmaaa
