/-
  A whole update of a vault, told plainly: the blocks handed in, the items by rising numbers, what is refused; pieces of its loops. And what follows it.
-/
import Derived.Test.YthbbijaikcmaeaaGreatDoorX20
import Derived.Test.YthbbijaikcmaeaaGreatDoorX16
import Derived.MapKept
import Derived.Test.YthbbijaikcmaeaaGreatDoorX00
import Derived.Test.YthbbijaikcmaeaaGreatDoorX10
import Derived.Test.YthbbijaikcmaeaaGreatDoorX15
import Derived.Test.YthbbijaikcmaeaaGreatDoorX17
import Derived.Test.YthbbijaikcmaeaaGreatDoorX19
namespace Go.Proofs.YthbbijaikcmaeaaGreatDoor.Plain
set_option maxRecDepth 100000
set_option linter.unusedVariables false
set_option maxRecDepth 100000
open Go.RowKit
def dec (n : Nat) : Nat → Nat → Nat → Nat × Nat
  | 0, l, x => (l, x)
  | f + 1, l, x => if x < wd n l then (l, x) else dec n f (l + 1) (x - wd n l)
theorem dec_spec (n : Nat) : ∀ f l x, off n l + x < off n (l + f + 1) → l ≤ (dec n f l x).1 ∧ (dec n f l x).1 ≤ l + f ∧ (dec n f l x).2 < wd n (dec n f l x).1 ∧ itm n (dec n f l x).1 (dec n f l x).2 = off n l + x
  | 0, l, x, h => by
    rw [Nat.add_zero, off] at h
    exact ⟨Nat.le_refl _, Nat.le_refl _, by rw [dec]; show x < wd n l; omega, rfl⟩
  | f + 1, l, x, h => by
    rw [dec]
    by_cases hx : x < wd n l
    · rw [if_pos hx]
      exact ⟨Nat.le_refl _, by omega, hx, rfl⟩
    · rw [if_neg hx]
      have e : off n (l + 1) + (x - wd n l) = off n l + x := by rw [off]; omega
      obtain ⟨h1, h2, h3, h4⟩ := dec_spec n f (l + 1) (x - wd n l) (by rw [e, show l + 1 + f + 1 = l + (f + 1) + 1 by omega]; exact h)
      exact ⟨by omega, by omega, h3, h4.trans e⟩
def lvi (n T x : Nat) : Nat × Nat := dec n T 0 x
theorem lvi_spec (n T x : Nat) (h : x < off n (T + 1)) : (lvi n T x).1 ≤ T ∧ (lvi n T x).2 < wd n (lvi n T x).1 ∧ itm n (lvi n T x).1 (lvi n T x).2 = x := by
  obtain ⟨_, h2, h3, h4⟩ := dec_spec n T 0 x (by simpa [off] using h)
  exact ⟨by simpa [lvi] using h2, h3, h4.trans (by simp [off])⟩
theorem lvi_itm (n T l i : Nat) (hl : l ≤ T) (hi : i < wd n l) : lvi n T (itm n l i) = (l, i) := by
  obtain ⟨h1, h2, h3⟩ := lvi_spec n T _ (itm_lt n T l i hl hi)
  obtain ⟨e1, e2⟩ := itm_inj n _ l _ i h2 hi h3
  exact Prod.ext e1 e2
def itsTo (g : Nat → Option (List Int)) (n T : Nat) : Nat → List (Nat × Nat)
  | 0 => []
  | k + 1 => itsTo g n T k ++ if wrt g n (lvi n T k).1 (lvi n T k).2 = true then [lvi n T k] else []
theorem mem_itsTo (g : Nat → Option (List Int)) (n T : Nat) (x : Nat × Nat) : ∀ k, x ∈ itsTo g n T k ↔ ∃ y, y < k ∧ lvi n T y = x ∧ wrt g n x.1 x.2 = true
  | 0 => by simp [itsTo]
  | k + 1 => by
    rw [itsTo, List.mem_append, mem_itsTo g n T x k]
    constructor
    · rintro (⟨y, h1, h2, h3⟩ | h)
      · exact ⟨y, by omega, h2, h3⟩
      · split at h
        · rename_i hw
          simp only [List.mem_singleton] at h
          subst h
          exact ⟨k, by omega, rfl, hw⟩
        · cases h
    · rintro ⟨y, h1, h2, h3⟩
      by_cases hy : y < k
      · exact .inl ⟨y, hy, h2, h3⟩
      · obtain rfl : y = k := by omega
        rw [h2, if_pos h3]
        exact .inr (by simp)
theorem itsTo_mem (g : Nat → Option (List Int)) (n T l i : Nat) : (l, i) ∈ itsTo g n T (off n (T + 1)) ↔ l ≤ T ∧ wrt g n l i = true := by
  rw [mem_itsTo]
  constructor
  · rintro ⟨y, hy, h2, h3⟩
    have := lvi_spec n T y hy
    rw [h2] at this
    exact ⟨this.1, h3⟩
  · rintro ⟨hl, hw⟩
    have hi := wrt_lt g n l i hw
    exact ⟨itm n l i, itm_lt n T l i hl hi, lvi_itm n T l i hl hi, hw⟩
theorem itsTo_ord (g : Nat → Option (List Int)) (n T : Nat) : ∀ k, k ≤ off n (T + 1) → (itsTo g n T k).Pairwise fun a b => itm n a.1 a.2 < itm n b.1 b.2
  | 0, _ => by simp [itsTo]
  | k + 1, hk => by
    rw [itsTo, List.pairwise_append]
    refine ⟨itsTo_ord g n T k (by omega), by split <;> simp, fun a ha b hb => ?_⟩
    split at hb
    · simp only [List.mem_singleton] at hb
      subst hb
      obtain ⟨y, hy, h2, _⟩ := (mem_itsTo g n T a k).1 ha
      have e1 := (lvi_spec n T y (by omega)).2.2
      have e2 := (lvi_spec n T k (by omega)).2.2
      rw [← h2, e1, e2]
      exact hy
    · cases hb
def lastB : List (Int × List Int) → Nat → Option (List Int)
  | [], _ => none
  | x :: L, j => match lastB L j with
    | some b => some b
    | none => if x.1 = (j : Int) then some x.2 else none
theorem lastB_mem : ∀ (L : List (Int × List Int)) (j : Nat) (b : List Int), lastB L j = some b → ((j : Int), b) ∈ L
  | [], j, b, h => by cases h
  | x :: L, j, b, h => by
    rw [lastB] at h
    cases hq : lastB L j with
    | some c =>
      rw [hq] at h
      cases h
      exact List.mem_cons_of_mem _ (lastB_mem L j _ hq)
    | none =>
      rw [hq] at h
      simp only at h
      split at h
      · rename_i e
        cases h
        rw [← e]
        exact List.mem_cons_self
      · cases h
theorem lastB_some : ∀ (L : List (Int × List Int)) (j : Nat) (b : List Int), ((j : Int), b) ∈ L → (lastB L j).isSome = true
  | [], j, b, h => by cases h
  | x :: L, j, b, h => by
    rw [lastB]
    cases hq : lastB L j with
    | some c => rfl
    | none =>
      rcases List.mem_cons.1 h with h | h
      · rw [← h]; simp
      · have := lastB_some L j b h
        rw [hq] at this
        cases this
theorem wrt_last (L : List (Int × List Int)) (n l i : Nat) (hL : ∀ x ∈ L, 0 ≤ x.1 ∧ x.1 < (n : Int)) : wrt (lastB L) n l i = true ↔ ∃ x ∈ L, x.1.toNat / 4 ^ l = i := by
  rw [wrt_iff]
  constructor
  · rintro ⟨j, hj, hs, he⟩
    obtain ⟨b, hb⟩ := Option.isSome_iff_exists.1 hs
    exact ⟨_, lastB_mem L j b hb, by simpa using he⟩
  · rintro ⟨x, hx, he⟩
    have := hL x hx
    have e : ((x.1.toNat : Nat) : Int) = x.1 := by omega
    exact ⟨x.1.toNat, by omega, lastB_some L _ x.2 (by rw [e]; exact hx), he⟩
def updM {D : Type} (Y : Sys) (X : Dsk D) (n T : Nat) (lim : Int) (L : List (Int × List Int)) (d : D) (nx : Int) (top : Rf) : D × Int × Int × Rf :=
  if L.any (fun x => decide (x.2.length ≠ 160)) = true then (d, nx, 1, yr) else
  if L.any (fun x => decide ((n : Int) ≤ x.1)) = true then (d, nx, 12, yr) else
  if L = [] then (d, nx, 0, top) else
  if (gat Y X n (lastB L) T d (fun _ _ => top)).2.1 ≠ 0 then ((gat Y X n (lastB L) T d (fun _ _ => top)).1, nx, (gat Y X n (lastB L) T d (fun _ _ => top)).2.1, yr) else
  if lim < nx + ((itsTo (lastB L) n T (off n (T + 1))).length : Int) then ((gat Y X n (lastB L) T d (fun _ _ => top)).1, nx, 15, yr) else
  if (wrM Y X n (lastB L) (itsTo (lastB L) n T (off n (T + 1))) (gat Y X n (lastB L) T d (fun _ _ => top)).1 nx (gat Y X n (lastB L) T d (fun _ _ => top)).2.2).2.2.1 ≠ 0 then
    ((wrM Y X n (lastB L) (itsTo (lastB L) n T (off n (T + 1))) (gat Y X n (lastB L) T d (fun _ _ => top)).1 nx (gat Y X n (lastB L) T d (fun _ _ => top)).2.2).1, (wrM Y X n (lastB L) (itsTo (lastB L) n T (off n (T + 1))) (gat Y X n (lastB L) T d (fun _ _ => top)).1 nx (gat Y X n (lastB L) T d (fun _ _ => top)).2.2).2.1, (wrM Y X n (lastB L) (itsTo (lastB L) n T (off n (T + 1))) (gat Y X n (lastB L) T d (fun _ _ => top)).1 nx (gat Y X n (lastB L) T d (fun _ _ => top)).2.2).2.2.1, yr) else
  ((wrM Y X n (lastB L) (itsTo (lastB L) n T (off n (T + 1))) (gat Y X n (lastB L) T d (fun _ _ => top)).1 nx (gat Y X n (lastB L) T d (fun _ _ => top)).2.2).1, (wrM Y X n (lastB L) (itsTo (lastB L) n T (off n (T + 1))) (gat Y X n (lastB L) T d (fun _ _ => top)).1 nx (gat Y X n (lastB L) T d (fun _ _ => top)).2.2).2.1, 0, (wrM Y X n (lastB L) (itsTo (lastB L) n T (off n (T + 1))) (gat Y X n (lastB L) T d (fun _ _ => top)).1 nx (gat Y X n (lastB L) T d (fun _ _ => top)).2.2).2.2.2 T 0)
theorem updM_ok {D : Type} {Y : Sys} {X : Dsk D} {lat : D → Nat → List Int} {up : D → Prop} {n T m : Nat} {f : Nat → List Int} {K : Nat → Nat → Rf} (hX : Sound X lat up m) (hm : 2 * off n (T + 1) ≤ m) (hT : wd n T = 1) (L : List (Int × List Int)) (hL : ∀ x ∈ L, x.2.length = 160 ∧ Byt x.2 ∧ 0 ≤ x.1 ∧ x.1 < (n : Int)) (hne : L ≠ []) (nx lim : Int) (h1 : 1 ≤ nx) (hlim : lim ≤ 9223372036854775807) (hw : nx + ((itsTo (lastB L) n T (off n (T + 1))).length : Int) ≤ lim)
    (d : D) (hu : up d) (hC : Cert Y n T (lat d) f K) :
    ∃ d', updM Y X n T lim L d nx (K T 0) = (d', nx + ((itsTo (lastB L) n T (off n (T + 1))).length : Int), 0, newK Y n K (lastB L) (verOf (itsTo (lastB L) n T (off n (T + 1))) nx) T 0) ∧ up d' ∧
      (∀ l i, l ≤ T → wrt (lastB L) n l i = true → lat d' (np n K l i) = Y.sl (np n K l i) (verOf (itsTo (lastB L) n T (off n (T + 1))) nx l i) (body (newF f (lastB L)) (newK Y n K (lastB L) (verOf (itsTo (lastB L) n T (off n (T + 1))) nx)) l i)) ∧
      (∀ q, (∀ l i, l ≤ T → wrt (lastB L) n l i = true → q ≠ np n K l i) → lat d' q = lat d q) ∧
      Cert Y n T (lat d') (newF f (lastB L)) (newK Y n K (lastB L) (verOf (itsTo (lastB L) n T (off n (T + 1))) nx)) ∧ Cert Y n T (lat d') f K := by
  have hg : ∀ j b, lastB L j = some b → b.length = 160 ∧ Byt b := fun j b hb => by
    have := hL _ (lastB_mem L j b hb)
    exact ⟨this.1, this.2.1⟩
  obtain ⟨d1, K1, d', K', e1, e2, u, l1, k1, k2, hnew, hold, c1, c2⟩ := update_ok (lastB L) nx hX hm hT (itsTo (lastB L) n T (off n (T + 1))) (itsTo_mem (lastB L) n T) (itsTo_ord (lastB L) n T _ (Nat.le_refl _)) hg h1 (by omega) d hu hC (fun _ _ => K T 0) rfl
  have hits : itsTo (lastB L) n T (off n (T + 1)) ≠ [] := by
    intro h0
    obtain ⟨x, hx⟩ := List.exists_mem_of_ne_nil L hne
    have hwx : wrt (lastB L) n 0 (x.1.toNat / 4 ^ 0) = true := (wrt_last L n 0 _ (fun y hy => (hL y hy).2.2)).2 ⟨x, hx, rfl⟩
    have := (itsTo_mem (lastB L) n T 0 _).2 ⟨Nat.zero_le _, hwx⟩
    rw [h0] at this
    cases this
  refine ⟨d', ?_, u, hnew, hold, c1, c2⟩
  have a1 : L.any (fun x => decide (x.2.length ≠ 160)) = false := by
    rw [List.any_eq_false]
    intro x hx
    simp [(hL x hx).1]
  have a2 : L.any (fun x => decide ((n : Int) ≤ x.1)) = false := by
    rw [List.any_eq_false]
    intro x hx
    have := (hL x hx).2.2.2
    simp; omega
  rw [updM, a1, a2, e1]
  simp only [Bool.false_eq_true, if_false, if_neg hne, ne_eq, not_true_eq_false]
  rw [e2]
  simp only [not_true_eq_false, if_false]
  rw [if_neg (by omega), k1 hits]
end Go.Proofs.YthbbijaikcmaeaaGreatDoor.Plain
namespace Go.Proofs.YthbbijaikcmaeaaGreatDoor.Plain
set_option maxRecDepth 100000
set_option linter.unusedVariables false
open Go.RowKit Go.Proofs.YthbbijaikcmaeaaGreatDoor.Shap.Plain
theorem wid_wd (n : Nat) (h1 : 1 ≤ n) (h2 : n ≤ 1024) : ∀ l, l < (wid n).length → (wid n).getD l 0 = (wd n l : Int)
  | 0, _ => by rw [wid_zero]; rfl
  | l + 1, h => by
    rw [(shp_wid n h1 h2).st l h, wid_wd n h1 h2 l (by omega), wd]
    omega
theorem wid_off (n : Nat) (h1 : 1 ≤ n) (h2 : n ≤ 1024) : ∀ l, l ≤ (wid n).length → sumTo (wid n) l = (off n l : Int)
  | 0, _ => rfl
  | l + 1, h => by
    rw [sumTo, wid_off n h1 h2 l (by omega), wid_wd n h1 h2 l (by omega), off]
    omega
def topL (n : Nat) : Nat := (wid n).length - 1
theorem topL_one (n : Nat) (h1 : 1 ≤ n) (h2 : n ≤ 1024) : wd n (topL n) = 1 := by
  have h := shp_wid n h1 h2
  have hlo := h.lo
  have := wid_wd n h1 h2 (topL n) (by unfold topL; omega)
  unfold topL at this ⊢
  rw [h.top] at this
  omega
theorem topL_bd (n : Nat) (h1 : 1 ≤ n) (h2 : n ≤ 1024) : 1 ≤ topL n ∧ topL n ≤ 5 ∧ topL n + 1 = (wid n).length := by
  have h := shp_wid n h1 h2
  have := h.lo
  have := h.hi
  unfold topL
  omega
theorem wid_items (n : Nat) (h1 : 1 ≤ n) (h2 : n ≤ 1024) : sumTo (wid n) (wid n).length = (off n (topL n + 1) : Int) := by
  rw [(topL_bd n h1 h2).2.2]
  exact wid_off n h1 h2 _ (Nat.le_refl _)
theorem pth_itm (n : Nat) (h1 : 1 ≤ n) (h2 : n ≤ 1024) (q m k : Nat) (hk : k < m) (hm : m ≤ (wid n).length) : (pth (wid n) q m).getD k 0 = (itm n k (q / 4 ^ k) : Int) := by
  rw [pth_get (wid n) q m k hk, wid_off n h1 h2 k (by omega), itm]
  omega
end Go.Proofs.YthbbijaikcmaeaaGreatDoor.Plain
namespace Go.Proofs.YthbbijaikcmaeaaGreatDoor
set_option maxRecDepth 100000
set_option linter.unusedVariables false
open Go.RowKit Go.MapKept Plain
def mget (m : List (Int × Value)) (i : Int) : Option Value := (m.find? (fun p => p.1 == i)).map (·.2)
def fput (f : Int → Option Value) (i : Int) (v : Value) : Int → Option Value := fun j => if j = i then some v else f j
def Mp (w : World) (b : Nat) (f : Int → Option Value) : Prop :=
  ∃ es clock m, w.heap[b]? = some (.map es clock) ∧ es.toList.map (fun e => (e.key, e.val)) = m.map (fun p : Int × Value => (Value.int .i64 p.1, p.2)) ∧ f = mget m
theorem Mp.lt {w : World} {b : Nat} {f : Int → Option Value} (h : Mp w b f) : b < w.heap.size := by
  obtain ⟨es, c, m, h1, _⟩ := h
  exact (Array.getElem?_eq_some_iff.1 h1).1
theorem Mp.same {w w' : World} {b : Nat} {f : Int → Option Value} (h : Mp w b f) (hs : w'.heap[b]? = w.heap[b]?) : Mp w' b f := by
  obtain ⟨es, c, m, h1, h2, h3⟩ := h
  exact ⟨es, c, m, hs.trans h1, h2, h3⟩
theorem mp_new (w : World) : Mp (w.alloc (.map #[] 0)) w.heap.size (fun _ => none) := ⟨#[], 0, [], (heap_alloc w _).1, rfl, rfl⟩
theorem mp_find (i : Int) : ∀ (l : List MapEntry) (m : List (Int × Value)) (k : Nat), l.map (fun e => (e.key, e.val)) = m.map (fun p : Int × Value => (Value.int .i64 p.1, p.2)) →
    (Instr.findNow (.int .i64) (.int .i64 i) l k = some none ∧ mget m i = none ∧ ∀ p ∈ m, p.1 ≠ i) ∨
    ∃ A v B, m = A ++ (i, v) :: B ∧ (∀ p ∈ A, p.1 ≠ i) ∧ Instr.findNow (.int .i64) (.int .i64 i) l k = some (some (k + A.length, v)) ∧ mget m i = some v
  | [], [], k, _ => .inl ⟨rfl, rfl, fun p hp => by cases hp⟩
  | [], p :: m, k, h => by simp at h
  | e :: l, [], k, h => by simp at h
  | e :: l, p :: m, k, h => by
    simp only [List.map_cons, List.cons.injEq, Prod.mk.injEq] at h
    obtain ⟨⟨h1, h2⟩, h3⟩ := h
    by_cases hp : p.1 = i
    · refine .inr ⟨[], p.2, m, by rw [← hp]; rfl, ⟨(fun q hq => absurd hq List.not_mem_nil), ?_, ?_⟩⟩
      · simp [Instr.findNow, Instr.sameNow, h1, hp, h2]
      · simp [mget, hp]
    · have hn : Instr.findNow (.int .i64) (.int .i64 i) (e :: l) k = Instr.findNow (.int .i64) (.int .i64 i) l (k + 1) := by
        have hb : (i == p.1) = false := by simpa using (fun e => hp e.symm : ¬ i = p.1)
        simp [Instr.findNow, Instr.sameNow, h1, hb]
      have hm : mget (p :: m) i = mget m i := by simp [mget, hp]
      rcases mp_find i l m (k + 1) h3 with ⟨a, b, c⟩ | ⟨A, v, B, a, b, c, d⟩
      · refine .inl ⟨by rw [hn, a], by rw [hm, b], fun q hq => ?_⟩
        rcases List.mem_cons.1 hq with rfl | hq
        · exact hp
        · exact c q hq
      · refine .inr ⟨p :: A, v, B, by rw [a]; rfl, fun q hq => ?_, ?_, by rw [hm, d]⟩
        · rcases List.mem_cons.1 hq with rfl | hq
          · exact hp
          · exact b q hq
        · rw [hn, c]
          simp only [List.length_cons, Nat.add_assoc, Nat.add_comm 1]
theorem mget_app_no (m : List (Int × Value)) (i j : Int) (v : Value) (h : ∀ p ∈ m, p.1 ≠ i) : mget (m ++ [(i, v)]) j = fput (mget m) i v j := by
  unfold mget fput
  rw [List.find?_append]
  by_cases hj : j = i
  · subst hj
    have : m.find? (fun p => p.1 == j) = none := by
      rw [List.find?_eq_none]
      intro p hp
      simpa using h p hp
    simp [this]
  · rw [if_neg hj]
    have : ¬ i = j := fun e => hj e.symm
    cases hq : m.find? (fun p => p.1 == j) <;> simp [this, hq]
theorem mget_mid (A B : List (Int × Value)) (i j : Int) (u v : Value) (h : ∀ p ∈ A, p.1 ≠ i) : mget (A ++ (i, v) :: B) j = fput (mget (A ++ (i, u) :: B)) i v j := by
  unfold fput
  simp only [mget, List.find?_append]
  by_cases hj : j = i
  · subst hj
    have : A.find? (fun p => p.1 == j) = none := by
      rw [List.find?_eq_none]
      intro p hp
      simpa using h p hp
    simp [this]
  · rw [if_neg hj]
    have : ¬ i = j := fun e => hj e.symm
    cases hq : A.find? (fun p => p.1 == j) <;> simp [this]
section
variable {P : Program} {t k e : TypeId}
theorem Mp.look {w : World} {b : Nat} {f : Int → Option Value} (h : Mp w b f) (ht : P.underlying t = some (.map k e)) (hk : P.underlying k = some (.int .i64)) (z : Value) (hz : (zeroValue e).run P w = .ok z w) (i : Int) (c : Bool) :
    (Instr.lookup t (.map (some b)) (.int .i64 i) c).run P w = .ok (if c then .tuple #[(f i).getD z, .bool (f i).isSome] else (f i).getD z) w := by
  obtain ⟨es, clock, m, h1, h2, rfl⟩ := h
  have hkey : IsKey (.int .i64) (.int .i64 i) := by simp [IsKey]
  rcases mp_find i es.toList m 0 h2 with ⟨a, b', _⟩ | ⟨A, v, B, _, _, c', d⟩
  · simp only [Instr.lookup, Sem.run_bind, run_underlying ht, Result.andThen_ok, MapKept.run_getObj_map h1, Sem.run_pure, run_checkKey hk hkey, run_findKey hk a, hz, b']
    cases c <;> rfl
  · simp only [Instr.lookup, Sem.run_bind, run_underlying ht, Result.andThen_ok, MapKept.run_getObj_map h1, Sem.run_pure, run_checkKey hk hkey, run_findKey hk c', d]
    cases c <;> rfl
theorem Mp.put {w : World} {b : Nat} {f : Int → Option Value} (h : Mp w b f) (ht : P.underlying t = some (.map k e)) (hk : P.underlying k = some (.int .i64)) (i : Int) (v : Value) :
    ∃ w', (Instr.mapUpdate t (.map (some b)) (.int .i64 i) v).run P w = .ok () w' ∧ Mp w' b (fput f i v) ∧ But b w w' ∧ w'.heap.size = w.heap.size := by
  obtain ⟨es, clock, m, h1, h2, rfl⟩ := h
  have hkey : IsKey (.int .i64) (.int .i64 i) := by simp [IsKey]
  have hlt := (Array.getElem?_eq_some_iff.1 h1).1
  have hbut : ∀ o, But b w { w with heap := w.heap.setIfInBounds b o } := fun o => ⟨rfl, rfl, rfl, by simp, fun j hj hne => (heap_set h1).2 j hne⟩
  rcases mp_find i es.toList m 0 h2 with ⟨a, _, c'⟩ | ⟨A, u, B, hm, hA, c', d⟩
  · refine ⟨{ w with heap := w.heap.setIfInBounds b (.map (es.push { key := .int .i64 i, val := v, born := clock }) (clock + 1)) }, ?_, ⟨_, _, m ++ [(i, v)], (heap_set h1).1, ?_, ?_⟩, hbut _, by simp⟩
    · simp only [Instr.mapUpdate, Sem.run_bind, run_underlying ht, Result.andThen_ok, MapKept.run_getObj_map h1, run_checkKey hk hkey, run_findKey hk a, MapKept.run_setObj_map _ h1]
    · simp [h2]
    · funext j
      exact (mget_app_no m i j v c').symm
  · have hl := congrArg List.length h2
    have hlen : A.length < es.size := by
      simp only [List.length_map, Array.length_toList] at hl
      rw [hl, hm]
      simp
    have hj : es[A.length]? = some es[A.length] := by simp [hlen]
    have hkv : es[A.length].key = .int .i64 i := by
      have := congrArg (fun l : List (Value × Value) => l[A.length]?) h2
      simp only [List.getElem?_map, hm] at this
      simp [hlen] at this
      exact this.1
    have hst : (Instr.keyThatStays (.int .i64 i) (.int .i64 i)).run P w = .ok (.int .i64 i) w := by simp [Instr.keyThatStays, Instr.sameBits]
    refine ⟨{ w with heap := w.heap.setIfInBounds b (.map (es.modify A.length fun e => { e with key := .int .i64 i, val := v }) clock) }, ?_, ⟨_, _, A ++ (i, v) :: B, (heap_set h1).1, ?_, ?_⟩, hbut _, by simp⟩
    · have c2 : Instr.findNow (.int .i64) (.int .i64 i) es.toList 0 = some (some (A.length, u)) := by rw [c', Nat.zero_add]
      simp only [Instr.mapUpdate, Sem.run_bind, run_underlying ht, Result.andThen_ok, MapKept.run_getObj_map h1, run_checkKey hk hkey, run_findKey hk c2, hj, Option.map_some, Option.getD_some, hkv, hst, MapKept.run_setObj_map _ h1]
    · have e1 : (es.modify A.length fun e => { e with key := .int .i64 i, val := v }).toList = es.toList.modify A.length (fun e => { e with key := .int .i64 i, val := v }) := by simp
      rw [e1]
      apply List.ext_getElem?
      intro q
      have hq := congrArg (fun l : List (Value × Value) => l[q]?) h2
      simp only [List.getElem?_map, hm] at hq
      simp only [List.getElem?_map, List.getElem?_modify]
      by_cases hqa : A.length = q
      · subst hqa
        simp [hlen]
      · simp only [hqa, if_false]
        rw [show ((fun a : MapEntry => a) <$> es.toList[q]?) = es.toList[q]? from by cases es.toList[q]? <;> rfl, hq]
        congr 1
        rw [List.getElem?_append, List.getElem?_append]
        split
        · rfl
        · have : ∃ r, q - A.length = r + 1 := ⟨q - A.length - 1, by omega⟩
          obtain ⟨r, hr⟩ := this
          rw [hr]
          simp
    · funext j
      rw [hm]
      exact (mget_mid A B i j u v hA).symm
end
end Go.Proofs.YthbbijaikcmaeaaGreatDoor
namespace Go.Proofs.YthbbijaikcmaeaaGreatDoor
set_option maxRecDepth 100000
set_option linter.unusedVariables false
open Go.RowKit Plain Go.Proofs.YthbbijaikcmaeaaGreatDoor.Shap.Plain
structure Vt where
  key : List Int
  n : Nat
  top : Rf
  nx : Int
  lim : Int
structure Vt.Ok (v : Vt) : Prop where
  key : v.key.length = 32
  kb : Byt v.key
  lo : 1 ≤ v.n
  hi : v.n ≤ 1024
  top : OkR v.top
  nx : 0 ≤ v.nx ∧ v.nx ≤ 18446744073709551615
  lim : 0 ≤ v.lim ∧ v.lim ≤ 9223372036854775807
def vcs (D : Nat) (v : Vt) (sa : Option Addr) (sc : Nat) : List Value :=
  .pointer (some ⟨D, 0, none⟩) :: (v.key.map (Value.int .u8) ++ (.int .u64 (v.n : Int) :: .slice sa (wid v.n).length sc :: (rc v.top ++ [.int .u64 v.nx, .int .u64 v.lim])))
structure VC (w0 w : World) (V D : Nat) (fp : Nat → Prop) (v : Vt) (d : Disk.Dk) (sa : Option Addr) (sc : Nat) : Prop where
  cx : Disk.Cx w0 w D fp d
  row : w.heap[V]? = some (.cells (vcs D v sa sc).toArray 79 (0, 0))
  ints : Shap.Ints w sa (wid v.n).length (wid v.n)
  lo : w0.heap.size ≤ V
  nV : ¬ fp V
  nS : ∀ ad, sa = some ad → ¬ fp ad.block ∧ ad.block ≠ V ∧ w0.heap.size ≤ ad.block
  cells : ∀ k, fp k → ∃ cs t, w.heap[k]? = some (.cells cs t (0, 0))
  ok : v.Ok
  fit : 2 * off v.n (topL v.n + 1) ≤ d.n
  dig : Dig.Tabs w0
  tab : Seal.Tab w0
structure Fw (S : Nat → Prop) (w w' : World) (fp fp' : Nat → Prop) : Prop where
  t : Disk.Turned (fun k => fp k ∨ S k) w w'
  k : ∀ k, k < w.heap.size → ¬ fp k → ¬ fp' k
def No (k : Nat) : Prop := False
theorem Fw.refl (S : Nat → Prop) (w : World) (fp : Nat → Prop) : Fw S w w fp fp := ⟨Disk.Turned.refl _ _, fun _ _ h => h⟩
theorem Fw.below {w w' : World} (S : Nat → Prop) (fp : Nat → Prop) (h : Below w.heap.size w w') : Fw S w w' fp fp := ⟨Disk.Turned.of_below h, fun _ _ h => h⟩
theorem Fw.size {S : Nat → Prop} {w w' : World} {fp fp' : Nat → Prop} (h : Fw S w w' fp fp') : w.heap.size ≤ w'.heap.size := h.t.size
theorem Fw.block {S : Nat → Prop} {w w' : World} {fp fp' : Nat → Prop} (h : Fw S w w' fp fp') {k : Nat} (hk : k < w.heap.size) (h1 : ¬ fp k) (h2 : ¬ S k) : w'.heap[k]? = w.heap[k]? := h.t.block k hk (fun h => h.elim h1 h2)
theorem Fw.trans {S : Nat → Prop} {a b c : World} {fp fp' fp'' : Nat → Prop} (h : Fw S a b fp fp') (k : Fw S b c fp' fp'') : Fw S a c fp fp'' := by
  refine ⟨⟨k.t.os.trans h.t.os, k.t.tape.trans h.t.tape, k.t.output.trans h.t.output, Nat.le_trans h.t.size k.t.size, fun i hi hn => ?_⟩, fun i hi hn => ?_⟩
  · have h1 : ¬ fp i := fun hf => hn (.inl hf)
    have h2 : ¬ S i := fun hf => hn (.inr hf)
    exact (k.block (Nat.lt_of_lt_of_le hi h.size) (h.k i hi h1) h2).trans (h.block hi h1 h2)
  · exact k.k i (Nat.lt_of_lt_of_le hi h.size) (h.k i hi hn)
theorem Fw.wider {S S' : Nat → Prop} {w w' : World} {fp fp' : Nat → Prop} (h : Fw S w w' fp fp') (hs : ∀ k, k < w.heap.size → S k → S' k) : Fw S' w w' fp fp' :=
  ⟨⟨h.t.os, h.t.tape, h.t.output, h.t.size, fun i hi hn => h.t.block i hi (fun hf => hn (hf.imp id (hs i hi)))⟩, h.k⟩
theorem Fw.of_fol {w w' : World} {fp fp' : Nat → Prop} (h : Disk.Fol w fp w' fp') (S : Nat → Prop) : Fw S w w' fp fp' :=
  ⟨⟨h.t.os, h.t.tape, h.t.output, h.t.size, fun i hi hn => h.t.block i hi (fun hf => hn (.inl hf))⟩, h.k⟩
theorem Fw.of_but {w w' : World} {G : Nat} (h : But G w w') (fp : Nat → Prop) : Fw (fun k => k = G) w w' fp fp :=
  ⟨⟨h.os, h.tape, h.output, h.size, fun i hi hn => h.block i hi (fun e => hn (.inr e))⟩, fun _ _ h => h⟩
theorem ints_same {w w' : World} {a : Option Addr} {len : Nat} {L : List Int} (h : Shap.Ints w a len L) (hs : ∀ ad, a = some ad → w'.heap[ad.block]? = w.heap[ad.block]?) (hz : w.heap.size ≤ w'.heap.size) : Shap.Ints w' a len L := by
  refine ⟨h.1, fun hp => ?_⟩
  obtain ⟨b, o, e, hlt, hc⟩ := h.2 hp
  refine ⟨b, o, e, Nat.lt_of_lt_of_le hlt hz, fun i hi => ?_⟩
  have hq : w'.cell? ⟨b, o + i, none⟩ = w.cell? ⟨b, o + i, none⟩ := World.cell?_of_block (hs ⟨b, o, none⟩ e)
  rw [hq]
  exact hc i hi
theorem ints_lt {w : World} {a : Option Addr} {len : Nat} {L : List Int} (h : Shap.Ints w a len L) (hp : 0 < len) : ∀ ad, a = some ad → ad.block < w.heap.size := by
  obtain ⟨b, o, e, hlt, hc⟩ := h.2 hp
  intro ad had
  rw [e] at had
  cases had
  exact hlt
theorem wid_pos (n : Nat) : 0 < (wid n).length := by simp [wid]
theorem tight {w0 w : World} {D : Nat} {fp : Nat → Prop} {d : Disk.Dk} (h : Disk.Cx w0 w D fp d) : ∃ fp', Disk.Cx w0 w D fp' d ∧ (∀ k, fp' k → fp k) ∧ ∀ k, fp' k → ∃ cs t, w.heap[k]? = some (.cells cs t (0, 0)) := by
  obtain ⟨P, uv, ov, h1, h2⟩ := h.is
  refine ⟨Disk.foot D P uv ov, ⟨⟨P, uv, ov, h1, fun _ h => h⟩, h.bel, fun k hk => h.lo k (h2 k hk), fun k hk => h.hi k (h2 k hk)⟩, h2, ?_⟩
  rintro k (rfl | rfl | hk | hk)
  · exact ⟨_, _, h1.hd⟩
  · obtain ⟨cs, h3, _⟩ := h1.hp
    exact ⟨_, _, h3⟩
  · rcases h1.hu.2 with ⟨rfl, _⟩ | ⟨g, cap, cur, rfl, _, hg, _⟩
    · cases hk
    · cases hk
      exact ⟨_, _, hg⟩
  · rcases h1.ho.2 with ⟨rfl, _⟩ | ⟨g, cap, cur, rfl, _, hg, _⟩
    · cases hk
    · cases hk
      exact ⟨_, _, hg⟩
theorem VC.lt {w0 w : World} {V D : Nat} {fp : Nat → Prop} {v : Vt} {d : Disk.Dk} {sa : Option Addr} {sc : Nat} (h : VC w0 w V D fp v d sa sc) : V < w.heap.size := (Array.getElem?_eq_some_iff.1 h.row).1
theorem VC.fol {w0 w w' : World} {V D : Nat} {fp fp' : Nat → Prop} {v : Vt} {d d' : Disk.Dk} {sa : Option Addr} {sc : Nat} (h : VC w0 w V D fp v d sa sc) (c : Disk.Cx w0 w' D fp' d') (f : Disk.Fol w fp w' fp') (hd : d'.n = d.n) :
    ∃ fp'', VC w0 w' V D fp'' v d' sa sc ∧ Fw No w w' fp fp'' ∧ ∀ k, fp'' k → fp' k := by
  obtain ⟨fp'', c', hs, hcs⟩ := tight c
  have hS := ints_lt h.ints (wid_pos _)
  refine ⟨fp'', ⟨c', (f.t.block V h.lt h.nV).trans h.row, ints_same h.ints (fun ad e => f.t.block _ (hS ad e) (h.nS ad e).1) f.t.size, h.lo, fun hf => f.k V h.lt h.nV (hs _ hf), fun ad e => ⟨fun hf => f.k _ (hS ad e) (h.nS ad e).1 (hs _ hf), (h.nS ad e).2⟩, hcs, h.ok, by rw [hd]; exact h.fit, h.dig, h.tab⟩, ?_, hs⟩
  exact ⟨(Fw.of_fol f No).t, fun k hk hn hf => f.k k hk hn (hs _ hf)⟩
theorem VC.below {w0 w w' : World} {V D : Nat} {fp : Nat → Prop} {v : Vt} {d : Disk.Dk} {sa : Option Addr} {sc : Nat} (h : VC w0 w V D fp v d sa sc) (hb : Below w.heap.size w w') : VC w0 w' V D fp v d sa sc :=
  ⟨h.cx.step hb, (hb.block V h.lt).trans h.row, h.ints.below hb, h.lo, h.nV, h.nS, fun k hk => by
    obtain ⟨cs, t, e⟩ := h.cells k hk
    exact ⟨cs, t, (hb.block k (Array.getElem?_eq_some_iff.1 e).1).trans e⟩, h.ok, h.fit, h.dig, h.tab⟩
theorem VC.set {w0 w w' : World} {V D : Nat} {fp : Nat → Prop} {v : Vt} {d : Disk.Dk} {sa : Option Addr} {sc : Nat} (h : VC w0 w V D fp v d sa sc) (G : Nat) (hb : But G w w') (h1 : ¬ fp G) (h2 : G ≠ V) (h3 : ∀ ad, sa = some ad → ad.block ≠ G) (h4 : w0.heap.size ≤ G) : VC w0 w' V D fp v d sa sc := by
  have hS := ints_lt h.ints (wid_pos _)
  have hne : ∀ k, fp k → k ≠ G := fun k hk e => h1 (e ▸ hk)
  refine ⟨⟨h.cx.is.same (fun k hk hl => hb.block k hl (hne k hk)), ?_, h.cx.lo, fun k hk => Nat.lt_of_lt_of_le (h.cx.hi k hk) hb.size⟩, (hb.block V h.lt (fun e => h2 e.symm)).trans h.row, ints_same h.ints (fun ad e => hb.block _ (hS ad e) (h3 ad e)) hb.size, h.lo, h.nV, h.nS, fun k hk => by
    obtain ⟨cs, t, e⟩ := h.cells k hk
    exact ⟨cs, t, (hb.block k (Array.getElem?_eq_some_iff.1 e).1 (hne k hk)).trans e⟩, h.ok, h.fit, h.dig, h.tab⟩
  have hl := h.cx.bel
  exact ⟨hb.os.trans hl.os, hb.tape.trans hl.tape, hb.output.trans hl.output, Nat.le_trans hl.size hb.size, fun k hk => (hb.block k (Nat.lt_of_lt_of_le hk hl.size) (by omega)).trans (hl.block k hk)⟩
theorem VC.drew {w0 w : World} {V D : Nat} {fp : Nat → Prop} {v : Vt} {d : Disk.Dk} {sa : Option Addr} {sc : Nat} (h : VC w0 w V D fp v d sa sc) : VC w0 w.drew V D fp v d sa sc := h.below ((Below.refl _ _).drew)
theorem VC.grown {w0 w w' : World} {V D : Nat} {fp : Nat → Prop} {v : Vt} {d : Disk.Dk} {sa : Option Addr} {sc : Nat} {row : Option Nat} (h : VC w0 w V D fp v d sa sc) (hg : w.grownBy w' row) (hr : ∀ k, row = some k → w0.heap.size ≤ k ∧ ∃ o, w.heap[k]? = some o ∧ o.isCells = false) : VC w0 w' V D fp v d sa sc := by
  cases row with
  | none =>
    exact h.below ⟨hg.os, hg.tape, hg.output, hg.size, fun k hk => hg.block k hk (by simp)⟩
  | some G =>
    obtain ⟨hG, o, ho, hc⟩ := hr G rfl
    have hne : ∀ k cs t f, w.heap[k]? = some (.cells cs t f) → k ≠ G := fun k cs t f e e' => by
      subst e'
      rw [e] at ho
      cases ho
      cases hc
    refine h.set G ⟨hg.os, hg.tape, hg.output, hg.size, fun k hk hn => hg.block k hk (by simpa using hn)⟩ (fun hf => ?_) (fun e => hne V _ _ _ h.row e.symm) (fun ad e => ?_) hG
    · obtain ⟨cs, t, e⟩ := h.cells G hf
      exact hne G _ _ _ e rfl
    · obtain ⟨b, off, e', hlt, hcell⟩ := h.ints.2 (wid_pos _)
      rw [e] at e'
      cases e'
      intro e2
      have := hcell 0 (wid_pos _)
      simp only at e2
      subst e2
      unfold World.cell? at this
      rw [ho] at this
      cases o <;> simp_all [Obj.isCells]
end Go.Proofs.YthbbijaikcmaeaaGreatDoor
namespace Go.Proofs.YthbbijaikcmaeaaGreatDoor
set_option maxRecDepth 100000
set_option linter.unusedVariables false
open Go.RowKit Plain Go.Proofs.YthbbijaikcmaeaaGreatDoor.Shap.Plain
theorem vcs_at (D : Nat) (v : Vt) (sa : Option Addr) (sc : Nat) (hk : v.key.length = 32) (ht : v.top.d.length = 32) :
    (vcs D v sa sc)[0]? = some (.pointer (some ⟨D, 0, none⟩)) ∧ (∀ j x, (v.key.map (Value.int .u8))[j]? = some x → (vcs D v sa sc)[1 + j]? = some x) ∧ (vcs D v sa sc)[33]? = some (.int .u64 (v.n : Int)) ∧ (vcs D v sa sc)[34]? = some (.slice sa (wid v.n).length sc) ∧
    (∀ j x, (rc v.top)[j]? = some x → (vcs D v sa sc)[35 + j]? = some x) ∧ (vcs D v sa sc)[68]? = some (.int .u64 v.nx) ∧ (vcs D v sa sc)[69]? = some (.int .u64 v.lim) := by
  have hr : (rc v.top).length = 33 := by simp [rc, ht]
  have hm : (v.key.map (Value.int .u8)).length = 32 := by simp [hk]
  have key : ∀ j, (vcs D v sa sc)[33 + j]? = (Value.int .u64 (v.n : Int) :: .slice sa (wid v.n).length sc :: (rc v.top ++ [.int .u64 v.nx, .int .u64 v.lim]))[j]? := fun j => by
    rw [vcs, show 33 + j = (32 + j) + 1 by omega, List.getElem?_cons_succ, List.getElem?_append_right (by omega), hm]
    congr 1
    omega
  refine ⟨rfl, fun j x hx => ?_, key 0, key 1, fun j x hx => ?_, ?_, ?_⟩
  · have hj := (List.getElem?_eq_some_iff.1 hx).1
    rw [vcs, Nat.add_comm, List.getElem?_cons_succ, List.getElem?_append_left hj]
    exact hx
  · have hj := (List.getElem?_eq_some_iff.1 hx).1
    rw [show 35 + j = 33 + (j + 2) by omega, key, List.getElem?_cons_succ, List.getElem?_cons_succ, List.getElem?_append_left hj]
    exact hx
  · rw [show 68 = 33 + (33 + 2) by rfl, key, List.getElem?_cons_succ, List.getElem?_cons_succ, List.getElem?_append_right (by omega), hr]
    rfl
  · rw [show 69 = 33 + (34 + 2) by rfl, key, List.getElem?_cons_succ, List.getElem?_cons_succ, List.getElem?_append_right (by omega), hr]
    rfl
structure Vrd (w : World) (V D : Nat) (v : Vt) (sa : Option Addr) (sc : Nat) : Prop where
  disk : w.cell? ⟨V, 0, none⟩ = some (.pointer (some ⟨D, 0, none⟩))
  key : w.rangeAt V 1 (v.key.map (Value.int .u8))
  leaves : w.cell? ⟨V, 33, none⟩ = some (.int .u64 (v.n : Int))
  shp : w.rangeAt V 34 [.slice sa (wid v.n).length sc]
  top : w.rangeAt V 35 (rc v.top)
  nx : w.cell? ⟨V, 68, none⟩ = some (.int .u64 v.nx)
  lim : w.cell? ⟨V, 69, none⟩ = some (.int .u64 v.lim)
theorem vrd_of {w : World} {V D : Nat} {v : Vt} {sa : Option Addr} {sc : Nat} (h : w.heap[V]? = some (.cells (vcs D v sa sc).toArray 79 (0, 0))) (ok : v.Ok) : Vrd w V D v sa sc := by
  obtain ⟨a0, a1, a2, a3, a4, a5, a6⟩ := vcs_at D v sa sc ok.key ok.top.ld
  have hc : ∀ i x, (vcs D v sa sc)[i]? = some x → w.cell? ⟨V, i, none⟩ = some x := fun i x hx => by
    rw [cell_of_row _ _ _ _ _ _ h]
    simpa using hx
  refine ⟨hc _ _ a0, fun j x hx => hc _ _ (a1 j x hx), hc _ _ a2, fun j x hx => ?_, fun j x hx => hc _ _ (a4 j x hx), hc _ _ a5, hc _ _ a6⟩
  cases j with
  | zero => simp at hx; subst hx; exact hc _ _ a3
  | succ j => simp at hx
theorem VC.rd {w0 w : World} {V D : Nat} {fp : Nat → Prop} {v : Vt} {d : Disk.Dk} {sa : Option Addr} {sc : Nat} (h : VC w0 w V D fp v d sa sc) : Vrd w V D v sa sc := vrd_of h.row h.ok
theorem infoShp : (Tryz.prog.info? 74).map (·.size) = some 1 := by kernel_rfl
theorem infoRef : (Tryz.prog.info? 36).map (·.size) = some 33 := by kernel_rfl
theorem infoSum : (Tryz.prog.info? 23).map (·.size) = some 32 := by kernel_rfl
theorem wpList_ldMid {ops : Array Oper} {rest : List Oper} {o : Oper} {a : Act} {w : World} {Q : Exit → Act → World → Prop} (hg : o.guard = none) (t : TypeId) (d : TypeDesc) (x : Operand) (ho : o.op = .load t x) (hu : Tryz.prog.underlying t = some d) (hd : d.isRow = true) (b off : Nat) (hx : a.eval x = .pointer (some ⟨b, off, none⟩)) (cs : List Value) (hi : (Tryz.prog.info? t).map (·.size) = some cs.length) (hc : w.rangeAt b off cs)
    (h : wpList Tryz.prog ops Q rest (a.put o.dst (.agg cs.toArray)) w) : wpList Tryz.prog ops Q (o :: rest) a w := wpList_run hg _ _ (exec_load_mid t d x ho hu hd b off hx cs hi hc) h
theorem otherSide_any (r : Rf) (w : World) (hr : OkR r) : Calls Tryz.prog 50 #[.int .u64 r.s] w fun e w' => e = .returned (.int .i64 (ns r : Nat)) ∧ w = w' := by
  have HS : Box (∀ x, Calls Tryz.prog 64 #[.int .u64 r.s] x fun e w' => e = .returned (.int .i64 (r.s % 2)) ∧ x = w') := ⟨fun x => side_any r.s x hr.hs⟩
  by_cases h0 : r.s = 0
  · have e : ns r = 0 := by simp [ns, h0]
    rw [h0, e]
    go_enter Tryz.func50, Tryz.ntmps50
    go_wp2
    go_ret
    exact ⟨rfl, rfl⟩
  · have hq : (r.s == 0) = false := by simpa using h0
    have e : ((ns r : Nat) : Int) = 1 - r.s % 2 := by
      unfold ns sd
      rw [if_neg h0]
      omega
    rw [e]
    have hw : IntKind.i64.wrap (1 - r.s % 2) = 1 - r.s % 2 := by rw [IntKind.wrap_i64]; omega
    clear hr h0 e
    go_enter Tryz.func50, Tryz.ntmps50
    go_wp2_with (go_at_call 64; refine (HS.out _).mono ?_; rintro e w' ⟨rfl, rfl⟩)
    go_ret
    exact ⟨rfl, rfl⟩
theorem items_of (n : Nat) (a : Option Addr) (cap : Nat) (w : World) (h1 : 1 ≤ n) (h2 : n ≤ 1024) (hI : Shap.Ints w a (wid n).length (wid n)) :
    Calls Tryz.prog 46 #[.agg #[.slice a (wid n).length cap]] w fun e w' => e = .returned (.int .i64 (off n (topL n + 1) : Nat)) ∧ Below w.heap.size w w' := by
  have := Shap.items_any a (wid n).length cap (wid n) w hI (shp_wid n h1 h2)
  rw [wid_items n h1 h2] at this
  exact this
theorem off_le (n : Nat) (h1 : 1 ≤ n) (h2 : n ≤ 1024) : 2 ≤ off n (topL n + 1) ∧ off n (topL n + 1) ≤ 6144 := by
  have h := shp_wid n h1 h2
  have e := wid_items n h1 h2
  have hs := h.sum (wid n).length
  have h6 := h.hi
  have hm := h.mono 2 (wid n).length h.lo
  have b0 := h.bd 0 (by have := h.lo; omega)
  have b1 := h.bd 1 (by have := h.lo; omega)
  have e2 : sumTo (wid n) 2 = (wid n).getD 0 0 + (wid n).getD 1 0 := by simp [sumTo]
  omega
theorem places_any (n : Nat) (a : Option Addr) (cap : Nat) (w : World) (h1 : 1 ≤ n) (h2 : n ≤ 1024) (hI : Shap.Ints w a (wid n).length (wid n)) :
    Calls Tryz.prog 25 #[.agg #[.slice a (wid n).length cap]] w fun e w' => e = .returned (.int .i64 (2 * off n (topL n + 1) : Nat)) ∧ Below w.heap.size w w' := by
  have HC : Box (Calls Tryz.prog 46 #[.agg #[.slice a (wid n).length cap]] (w.alloc (.cells #[.slice a (wid n).length cap] 74)) fun e w' => e = .returned (.int .i64 (off n (topL n + 1) : Nat)) ∧ Below (w.alloc (.cells #[.slice a (wid n).length cap] 74)).heap.size (w.alloc (.cells #[.slice a (wid n).length cap] 74)) w') := ⟨items_of n a cap _ h1 h2 (hI.below (Shap.box_below _ _))⟩
  have HB : Box (Below w.heap.size w (w.alloc (.cells #[.slice a (wid n).length cap] 74))) := ⟨Shap.box_below _ _⟩
  have hr : (w.alloc (.cells #[.slice a (wid n).length cap] 74)).heap[w.heap.size]? = some (.cells #[.slice a (wid n).length cap] 74 (0, 0)) := al_at rfl
  have ho := off_le n h1 h2
  have hw : IntKind.i64.wrap (2 * ((off n (topL n + 1) : Nat) : Int)) = ((2 * off n (topL n + 1) : Nat) : Int) := by rw [IntKind.wrap_i64]; omega
  clear hI
  generalize off n (topL n + 1) = q at *
  go_enter Tryz.func25, Tryz.ntmps25
  go_wp2_with (first
    | (go_at_call 46; refine HC.out.mono ?_; rintro e w' ⟨rfl, hb⟩)
    | (refine Shap.wpList_ldS rfl _ rfl _ _ rfl hr ?_))
  go_ret
  exact ⟨rfl, HB.out.trans (hb.mono (by simp))⟩
end Go.Proofs.YthbbijaikcmaeaaGreatDoor
