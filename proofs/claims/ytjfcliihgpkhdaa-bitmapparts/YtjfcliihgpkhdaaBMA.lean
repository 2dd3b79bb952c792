/-
  Plain facts on the bits of bytes: which are set, how many are, the first that isn't, and what bytes become of bits.
-/
import Derived.Test.YtjfcliihgpkhdaaA1
namespace Go.Proofs.Ytjfcliihgpkhdaa.Plain
set_option linter.unusedVariables false
open Go.RowKit

/-- The bit k of a number. -/
def bt (x : Int) (k : Nat) : Bool := decide (x / 2 ^ k % 2 = 1)
def u8sh (k : Nat) : Int := IntKind.u8.wrap (2 ^ k)
/-- The byte with the bit k set, or cleared. -/
def setb (x : Int) (k : Nat) (on : Bool) : Int := if bt x k = on then x else if on then x + 2 ^ k else x - 2 ^ k
def popk (x : Int) : Nat → Int
  | 0 => 0
  | k + 1 => popk x k + if bt x k then 1 else 0
/-- The byte of eight bits, the highest first. -/
def hv (f : Nat → Bool) : Nat → Int
  | 0 => 0
  | j + 1 => hv f j * 2 + if f (7 - j) then 1 else 0

theorem fin_int {p : Int → Prop} (h : ∀ x : Fin 256, p ((x.val : Nat) : Int)) (x : Int) (h0 : 0 ≤ x) (h1 : x ≤ 255) : p x := by
  have := h ⟨x.toNat, by omega⟩
  simpa [Int.toNat_of_nonneg h0] using this
set_option maxRecDepth 100000 in
theorem and_bt_f : ∀ x : Fin 256, ∀ k : Fin 8, (decide (bits .and .u8 ((x.val : Nat) : Int) (2 ^ k.val) = 0)) = !bt ((x.val : Nat) : Int) k.val := by decide +kernel
set_option maxRecDepth 100000 in
theorem or_bt_f : ∀ x : Fin 256, ∀ k : Fin 8, bits .or .u8 ((x.val : Nat) : Int) (2 ^ k.val) = setb ((x.val : Nat) : Int) k.val true := by decide +kernel
set_option maxRecDepth 100000 in
theorem andNot_bt_f : ∀ x : Fin 256, ∀ k : Fin 8, bits .andNot .u8 ((x.val : Nat) : Int) (2 ^ k.val) = setb ((x.val : Nat) : Int) k.val false := by decide +kernel
set_option maxRecDepth 100000 in
theorem setb_f : ∀ x : Fin 256, ∀ k : Fin 8, ∀ on : Bool, ∀ j : Fin 8, (0 ≤ setb ((x.val : Nat) : Int) k.val on ∧ setb ((x.val : Nat) : Int) k.val on ≤ 255) ∧ bt (setb ((x.val : Nat) : Int) k.val on) j.val = if j = k then on else bt ((x.val : Nat) : Int) j.val := by decide +kernel
set_option maxRecDepth 100000 in
theorem pop_f : ∀ x : Fin 256, ∀ k : Fin 8, popk (bits .and .u8 ((x.val : Nat) : Int) (2 ^ k.val - 1)) 8 = popk ((x.val : Nat) : Int) k.val ∧ 0 ≤ bits .and .u8 ((x.val : Nat) : Int) (2 ^ k.val - 1) ∧ bits .and .u8 ((x.val : Nat) : Int) (2 ^ k.val - 1) ≤ 255 := by decide +kernel
set_option maxRecDepth 100000 in
theorem not_f : ∀ x : Fin 256, (0 ≤ bits .xor .u8 255 ((x.val : Nat) : Int) ∧ bits .xor .u8 255 ((x.val : Nat) : Int) ≤ 255) ∧ ∀ k : Fin 8, bt (bits .xor .u8 255 ((x.val : Nat) : Int)) k.val = !bt ((x.val : Nat) : Int) k.val := by decide +kernel
set_option maxRecDepth 100000 in
theorem shr_f : ∀ x : Fin 256, ∀ k : Fin 8, ((x.val : Nat) : Int) / 2 ^ k.val = 0 → ∀ j : Fin 8, k ≤ j → bt ((x.val : Nat) : Int) j.val = false := by decide +kernel
set_option maxRecDepth 100000 in
theorem hv_f : ∀ x : Fin 256, hv (bt ((x.val : Nat) : Int)) 8 = ((x.val : Nat) : Int) := by decide +kernel

theorem and_bt (x : Int) (k : Nat) (h0 : 0 ≤ x) (h1 : x ≤ 255) (hk : k < 8) : bits .and .u8 x (2 ^ k) = 0 ↔ bt x k = false := by
  have := fin_int (p := fun x => (decide (bits .and .u8 x (2 ^ k) = 0)) = !bt x k) (fun x => and_bt_f x ⟨k, hk⟩) x h0 h1
  by_cases h : bits .and .u8 x (2 ^ k) = 0 <;> simp [h] at this ⊢ <;> simp [this]
theorem or_bt (x : Int) (k : Nat) (h0 : 0 ≤ x) (h1 : x ≤ 255) (hk : k < 8) : bits .or .u8 x (2 ^ k) = setb x k true := fin_int (p := fun x => bits .or .u8 x (2 ^ k) = setb x k true) (fun x => or_bt_f x ⟨k, hk⟩) x h0 h1
theorem andNot_bt (x : Int) (k : Nat) (h0 : 0 ≤ x) (h1 : x ≤ 255) (hk : k < 8) : bits .andNot .u8 x (2 ^ k) = setb x k false := fin_int (p := fun x => bits .andNot .u8 x (2 ^ k) = setb x k false) (fun x => andNot_bt_f x ⟨k, hk⟩) x h0 h1
theorem setb_bd (x : Int) (k : Nat) (on : Bool) (h0 : 0 ≤ x) (h1 : x ≤ 255) (hk : k < 8) : 0 ≤ setb x k on ∧ setb x k on ≤ 255 := fin_int (p := fun x => 0 ≤ setb x k on ∧ setb x k on ≤ 255) (fun x => (setb_f x ⟨k, hk⟩ on ⟨0, by omega⟩).1) x h0 h1
theorem setb_bt (x : Int) (k j : Nat) (on : Bool) (h0 : 0 ≤ x) (h1 : x ≤ 255) (hk : k < 8) (hj : j < 8) : bt (setb x k on) j = if j = k then on else bt x j := by
  have := fin_int (p := fun x => bt (setb x k on) j = if (⟨j, hj⟩ : Fin 8) = ⟨k, hk⟩ then on else bt x j) (fun x => (setb_f x ⟨k, hk⟩ on ⟨j, hj⟩).2) x h0 h1
  simpa [Fin.ext_iff] using this
theorem pop_and (x : Int) (k : Nat) (h0 : 0 ≤ x) (h1 : x ≤ 255) (hk : k < 8) : popk (bits .and .u8 x (2 ^ k - 1)) 8 = popk x k ∧ 0 ≤ bits .and .u8 x (2 ^ k - 1) ∧ bits .and .u8 x (2 ^ k - 1) ≤ 255 := fin_int (p := fun x => popk (bits .and .u8 x (2 ^ k - 1)) 8 = popk x k ∧ 0 ≤ bits .and .u8 x (2 ^ k - 1) ∧ bits .and .u8 x (2 ^ k - 1) ≤ 255) (fun x => pop_f x ⟨k, hk⟩) x h0 h1
theorem not_bd (x : Int) (h0 : 0 ≤ x) (h1 : x ≤ 255) : 0 ≤ bits .xor .u8 255 x ∧ bits .xor .u8 255 x ≤ 255 := fin_int (p := fun x => 0 ≤ bits .xor .u8 255 x ∧ bits .xor .u8 255 x ≤ 255) (fun x => (not_f x).1) x h0 h1
theorem not_bt (x : Int) (k : Nat) (h0 : 0 ≤ x) (h1 : x ≤ 255) (hk : k < 8) : bt (bits .xor .u8 255 x) k = !bt x k := fin_int (p := fun x => bt (bits .xor .u8 255 x) k = !bt x k) (fun x => (not_f x).2 ⟨k, hk⟩) x h0 h1
theorem shr_bt (x : Int) (k j : Nat) (h0 : 0 ≤ x) (h1 : x ≤ 255) (hk : k < 8) (hj : j < 8) (hkj : k ≤ j) (h : x / 2 ^ k = 0) : bt x j = false := fin_int (p := fun x => x / 2 ^ k = 0 → bt x j = false) (fun x hx => shr_f x ⟨k, hk⟩ hx ⟨j, hj⟩ hkj) x h0 h1 h
theorem hv_bt (x : Int) (h0 : 0 ≤ x) (h1 : x ≤ 255) : hv (bt x) 8 = x := fin_int (p := fun x => hv (bt x) 8 = x) hv_f x h0 h1
theorem popk_bd (x : Int) (k : Nat) : 0 ≤ popk x k ∧ popk x k ≤ k := by
  induction k with
  | zero => exact ⟨Int.le_refl _, Int.le_refl _⟩
  | succ k ih => unfold popk; split <;> omega
theorem hv_bd (f : Nat → Bool) (j : Nat) : 0 ≤ hv f j ∧ hv f j < 2 ^ j := by
  induction j with
  | zero => exact ⟨Int.le_refl _, by simp [hv]⟩
  | succ j ih =>
    have e : (2 : Int) ^ (j + 1) = 2 ^ j * 2 := Int.pow_succ 2 j
    unfold hv
    split <;> omega

/-- The bit i of bytes. -/
def onB (B : List Int) (i : Nat) : Bool := bt (B.getD (i / 8) 0) (i % 8)
def put (B : List Int) (i : Nat) (on : Bool) : List Int := B.set (i / 8) (setb (B.getD (i / 8) 0) (i % 8) on)
theorem length_put (B : List Int) (i : Nat) (on : Bool) : (put B i on).length = B.length := by simp [put]
theorem byt_put (B : List Int) (i : Nat) (on : Bool) (hB : Byt B) : Byt (put B i on) := by
  intro j
  unfold put
  have h := hB (i / 8)
  have hs := setb_bd (B.getD (i / 8) 0) (i % 8) on h.1 h.2 (Nat.mod_lt _ (by omega))
  simp only [List.getD]
  rw [List.getElem?_set]
  split
  · split
    · simpa [List.getD] using hs
    · simp
  · exact hB j
theorem put_on (B : List Int) (i j : Nat) (on : Bool) (hB : Byt B) (hi : i < 8 * B.length) : onB (put B i on) j = if j = i then on else onB B j := by
  have h := hB (i / 8)
  have e : (put B i on).getD (j / 8) 0 = if j / 8 = i / 8 then setb (B.getD (i / 8) 0) (i % 8) on else B.getD (j / 8) 0 := by
    unfold put
    have hl : i / 8 < B.length := by omega
    simp only [List.getD]
    rw [List.getElem?_set]
    by_cases hq : j / 8 = i / 8
    · rw [if_pos hq.symm, if_pos hl, if_pos hq]; rfl
    · rw [if_neg (fun x => hq x.symm), if_neg hq]
  unfold onB
  rw [e]
  by_cases hq : j / 8 = i / 8
  · rw [if_pos hq, setb_bt _ _ _ _ h.1 h.2 (Nat.mod_lt _ (by omega)) (Nat.mod_lt _ (by omega))]
    by_cases hj : j = i
    · rw [if_pos (by rw [hj]), if_pos hj]
    · rw [if_neg (fun x => hj (by omega)), if_neg hj, hq]
  · rw [if_neg hq, if_neg (fun x => hq (by rw [x]))]
/-- How many of the first bits are set. -/
def cnt (B : List Int) : Nat → Int
  | 0 => 0
  | n + 1 => cnt B n + if onB B n then 1 else 0
theorem cnt_bd (B : List Int) (n : Nat) : 0 ≤ cnt B n ∧ cnt B n ≤ n := by
  induction n with
  | zero => exact ⟨Int.le_refl _, Int.le_refl _⟩
  | succ n ih => unfold cnt; split <;> omega
theorem cnt_le (B : List Int) (m k : Nat) : cnt B m ≤ cnt B (m + k) ∧ cnt B (m + k) ≤ cnt B m + k := by
  induction k with
  | zero => simp
  | succ k ih =>
    rw [show m + (k + 1) = m + k + 1 by omega, show cnt B (m + k + 1) = cnt B (m + k) + if onB B (m + k) then 1 else 0 from rfl]
    split <;> omega
theorem cnt_row (B : List Int) (r k : Nat) (hk : k ≤ 8) : cnt B (8 * r + k) = cnt B (8 * r) + popk (B.getD r 0) k := by
  induction k with
  | zero => simp [popk]
  | succ k ih =>
    rw [show 8 * r + (k + 1) = 8 * r + k + 1 by omega, cnt, ih (by omega), popk]
    have e : onB B (8 * r + k) = bt (B.getD r 0) k := by
      unfold onB
      rw [show (8 * r + k) / 8 = r by omega, show (8 * r + k) % 8 = k by omega]
    rw [e]
    omega
/-- All bits from a on, below t, are set. -/
def All (B : List Int) (a t : Nat) : Prop := ∀ i, a ≤ i → i < t → onB B i = true
/-- The first bit from a on that isn't set, or t. -/
def fz (B : List Int) (a : Nat) : Nat → Nat
  | 0 => a
  | n + 1 => if onB B a then fz B (a + 1) n else a
theorem fz_is (B : List Int) (n : Nat) : ∀ a, a ≤ fz B a n ∧ fz B a n ≤ a + n ∧ All B a (fz B a n) ∧ (fz B a n < a + n → onB B (fz B a n) = false) := by
  induction n with
  | zero => intro a; exact ⟨Nat.le_refl _, Nat.le_refl _, fun i h1 h2 => by simp only [fz] at h2; omega, fun h => by simp only [fz] at h; omega⟩
  | succ n ih =>
    intro a
    obtain ⟨h1, h2, h3, h4⟩ := ih (a + 1)
    by_cases h : onB B a = true
    · rw [show fz B a (n + 1) = fz B (a + 1) n by rw [fz, if_pos h]]
      refine ⟨by omega, by omega, fun i hi hj => ?_, fun hl => h4 (by omega)⟩
      by_cases e : i = a
      · rw [e]; exact h
      · exact h3 i (by omega) hj
    · rw [show fz B a (n + 1) = a by rw [fz, if_neg h]]
      exact ⟨Nat.le_refl _, by omega, fun i hi hj => by omega, fun _ => by simpa using h⟩
/-- The first bit from a on, below t, that isn't set, or t. -/
def fst0 (B : List Int) (a t : Nat) : Nat := fz B a (t - a)
theorem fst0_is (B : List Int) (a t : Nat) (h : a ≤ t) : a ≤ fst0 B a t ∧ fst0 B a t ≤ t ∧ All B a (fst0 B a t) ∧ (fst0 B a t < t → onB B (fst0 B a t) = false) := by
  obtain ⟨h1, h2, h3, h4⟩ := fz_is B (t - a) a
  exact ⟨h1, by unfold fst0; omega, h3, fun hl => h4 (by unfold fst0 at hl; omega)⟩
theorem fst0_eq (B : List Int) (a t r : Nat) (h1 : a ≤ r) (h2 : r ≤ t) (h3 : All B a r) (h4 : r < t → onB B r = false) : fst0 B a t = r := by
  obtain ⟨g1, g2, g3, g4⟩ := fst0_is B a t (by omega)
  apply Nat.le_antisymm
  · apply Nat.le_of_not_lt
    intro hl
    have := g3 r h1 hl
    rw [h4 (by omega)] at this
    cases this
  · apply Nat.le_of_not_lt
    intro hl
    have := h3 _ g1 hl
    rw [g4 (by omega)] at this
    cases this
/-- All that are set from a on are as many. -/
theorem cnt_all (B : List Int) (a : Nat) : ∀ k, All B a (a + k) → cnt B (a + k) = cnt B a + k := by
  intro k
  induction k with
  | zero => intro _; simp
  | succ k ih =>
    intro h
    rw [show a + (k + 1) = a + k + 1 by omega, cnt, ih (fun i h1 h2 => h i h1 (by omega)), h (a + k) (by omega) (by omega)]
    simp; omega
/-- All bits of bytes, in order. -/
def bitsOf (B : List Int) (n : Nat) : List Bool := (List.range n).map (onB B)
theorem length_bitsOf (B : List Int) (n : Nat) : (bitsOf B n).length = n := by simp [bitsOf]
theorem bitsOf_succ (B : List Int) (n : Nat) : bitsOf B (n + 1) = bitsOf B n ++ [onB B n] := by simp [bitsOf, List.range_succ]
theorem bitsOf_get (B : List Int) (n i : Nat) (h : i < n) : (bitsOf B n)[i]? = some (onB B i) := by simp [bitsOf, h]
theorem bitsOf_put (B : List Int) (i : Nat) (on : Bool) (hB : Byt B) (hi : i < 8 * B.length) : (bitsOf B (8 * B.length)).set i on = bitsOf (put B i on) (8 * B.length) := by
  apply List.ext_getElem?
  intro j
  rw [List.getElem?_set]
  by_cases hj : j < 8 * B.length
  · rw [bitsOf_get _ _ _ hj, bitsOf_get _ _ _ hj, put_on B i j on hB hi]
    by_cases e : i = j
    · rw [if_pos e, if_pos (by rw [length_bitsOf]; exact hi), if_pos e.symm]
    · rw [if_neg e, if_neg (fun x => e x.symm)]
  · have n1 : (bitsOf B (8 * B.length))[j]? = none := List.getElem?_eq_none (by rw [length_bitsOf]; omega)
    have n2 : (bitsOf (put B i on) (8 * B.length))[j]? = none := List.getElem?_eq_none (by rw [length_bitsOf]; omega)
    rw [n1, n2, if_neg (by omega)]
theorem hv_row (B : List Int) (r : Nat) (hB : Byt B) : hv (fun k => onB B (8 * r + k)) 8 = B.getD r 0 := by
  have h := hB r
  have e : ∀ k, k < 8 → onB B (8 * r + k) = bt (B.getD r 0) k := fun k hk => by
    unfold onB
    rw [show (8 * r + k) / 8 = r by omega, show (8 * r + k) % 8 = k by omega]
  have e2 := hv_bt (B.getD r 0) h.1 h.2
  simp only [hv] at e2 ⊢
  simp only [e 7 (by omega), e 6 (by omega), e 5 (by omega), e 4 (by omega), e 3 (by omega), e 2 (by omega), e 1 (by omega), e 0 (by omega), Nat.sub_self, Nat.sub_zero, Nat.reduceSub]
  simpa using e2
end Go.Proofs.Ytjfcliihgpkhdaa.Plain
