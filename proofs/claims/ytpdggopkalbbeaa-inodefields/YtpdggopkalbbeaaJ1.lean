/-
  Bytes that are the same, one of two numbers, and the first of several rows: plain facts; nothing of the program is said here.
-/
import Derived.Test.YtpdggopkalbbeaaA1
namespace Go.Proofs.Ytpdggopkalbbeaa.Plain
set_option linter.unusedVariables false
open Go.RowKit

/-- What differs in the first k bytes of two rows, laid over each other. -/
def unl (A B : List Int) : Nat → Int
  | 0 => 0
  | k + 1 => bits .or .u8 (unl A B k) (bits .xor .u8 (A.getD k 0) (B.getD k 0))
theorem bits_u8 (op : BinOp) (x y : Int) : 0 ≤ bits op .u8 x y ∧ bits op .u8 x y ≤ 255 := by
  unfold Go.bits
  rw [IntKind.wrap_u8]; omega
theorem unl_bd (A B : List Int) (k : Nat) : 0 ≤ unl A B k ∧ unl A B k ≤ 255 := by
  cases k with
  | zero => simp [unl]
  | succ k => exact bits_u8 _ _ _
theorem unl_zero (A B : List Int) (hA : Byt A) (hB : Byt B) (k : Nat) : unl A B k = 0 ↔ ∀ i, i < k → A.getD i 0 = B.getD i 0 := by
  induction k with
  | zero => simp [unl]
  | succ k ih =>
    have h1 := unl_bd A B k
    have h2 := hA k
    have h3 := hB k
    rw [unl]
    have key : bits .or .u8 (unl A B k) (bits .xor .u8 (A.getD k 0) (B.getD k 0)) = 0 ↔ unl A B k = 0 ∧ A.getD k 0 = B.getD k 0 := by
      generalize unl A B k = u at h1
      generalize A.getD k 0 = x at h2
      generalize B.getD k 0 = y at h3
      obtain ⟨U, rfl⟩ := Int.eq_ofNat_of_zero_le h1.1
      obtain ⟨X, rfl⟩ := Int.eq_ofNat_of_zero_le h2.1
      obtain ⟨Y, rfl⟩ := Int.eq_ofNat_of_zero_le h3.1
      have hx : X ^^^ Y < 2 ^ 8 := Nat.xor_lt_two_pow (by omega) (by omega)
      rw [u8_xor_nat X Y (by omega) (by omega), u8_or_nat U _ (by omega) (by omega)]
      constructor
      · intro h
        have h' : U ||| (X ^^^ Y) = 0 := by exact_mod_cast h
        rw [Nat.or_eq_zero_iff] at h'
        refine ⟨by rw [h'.1]; rfl, ?_⟩
        have : X = Y := by
          have h2 : X ^^^ Y ^^^ Y = 0 ^^^ Y := by rw [h'.2]
          rwa [Nat.xor_assoc, Nat.xor_self, Nat.xor_zero, Nat.zero_xor] at h2
        rw [this]
      · rintro ⟨h, h'⟩
        have e1 : U = 0 := by omega
        have e2 : X = Y := by omega
        rw [e1, e2, Nat.xor_self]; rfl
    rw [key, ih]
    constructor
    · rintro ⟨h, h'⟩ i hi
      by_cases e : i < k
      · exact h i e
      · obtain rfl : i = k := by omega
        exact h'
    · intro h
      exact ⟨fun i hi => h i (by omega), h k (by omega)⟩
/-- 1, if two rows are the same, else 0. -/
def sm (A B : List Int) : Int := if A = B then 1 else 0
theorem sm_end (A B : List Int) (hA : Byt A) (hB : Byt B) (n : Nat) (lA : A.length = n) (lB : B.length = n) : IntKind.u64.wrap (unl A B n - 1) / 9223372036854775808 = sm A B := by
  have h := unl_bd A B n
  unfold sm
  rw [IntKind.wrap_u64]
  split
  · rename_i e
    subst e
    have : unl A A n = 0 := (unl_zero A A hA hA n).2 (fun _ _ => rfl)
    rw [this]; rfl
  · rename_i e
    have : unl A B n ≠ 0 := fun h0 => e (eq_getD A B n lA lB ((unl_zero A B hA hB n).1 h0))
    omega
theorem sm_len (A B : List Int) (h : A.length ≠ B.length) : sm A B = 0 := by
  unfold sm
  rw [if_neg]
  intro e; exact h (by rw [e])
theorem sm_one (A B : List Int) : decide (sm A B = 1) = decide (A = B) := by
  unfold sm; split <;> simp [*]
theorem sm_cases (A B : List Int) : (sm A B = 1 ∧ A = B) ∨ (sm A B = 0 ∧ A ≠ B) := by
  unfold sm; split <;> simp [*]
/-- One of two numbers, by a bit. -/
def cho (bit one other : Int) : Int := if bit % 2 = 1 then one else other
theorem u64_and1 (x : Int) (h : 0 ≤ x ∧ x ≤ 18446744073709551615) : bits .and .u64 x 1 = x % 2 := by
  obtain ⟨X, rfl⟩ := Int.eq_ofNat_of_zero_le h.1
  have := u64_and_nat X 1 (by omega) (by omega)
  rw [Nat.and_one_is_mod] at this
  exact_mod_cast this
theorem cho_end (bit one other : Int) (h1 : 0 ≤ bit ∧ bit ≤ 18446744073709551615) (h2 : 0 ≤ one ∧ one ≤ 18446744073709551615) (h3 : 0 ≤ other ∧ other ≤ 18446744073709551615) :
    bits .xor .u64 other (bits .and .u64 (IntKind.u64.wrap (-(bits .and .u64 bit 1))) (bits .xor .u64 one other)) = cho bit one other := by
  rw [u64_and1 _ h1]
  obtain ⟨X, rfl⟩ := Int.eq_ofNat_of_zero_le h2.1
  obtain ⟨Y, rfl⟩ := Int.eq_ofNat_of_zero_le h3.1
  have hx : X ^^^ Y < 2 ^ 64 := Nat.xor_lt_two_pow (by omega) (by omega)
  rw [u64_xor_nat X Y (by omega) (by omega)]
  unfold cho
  by_cases h : bit % 2 = 1
  · rw [if_pos h, h, show IntKind.u64.wrap (-1) = ((2 ^ 64 - 1 : Nat) : Int) by rw [IntKind.wrap_u64]; rfl, u64_and_nat (2 ^ 64 - 1) _ (by omega) (by omega), Nat.and_comm, Nat.and_two_pow_sub_one_eq_mod, Nat.mod_eq_of_lt hx, u64_xor_nat Y _ (by omega) (by omega), Nat.xor_comm X Y, ← Nat.xor_assoc, Nat.xor_self, Nat.zero_xor]
  · have h' : bit % 2 = 0 := by omega
    rw [if_neg h, h', show IntKind.u64.wrap (-0) = ((0 : Nat) : Int) by rw [IntKind.wrap_u64]; rfl, u64_and_nat 0 _ (by omega) (by omega), Nat.zero_and, u64_xor_nat Y 0 (by omega) (by omega), Nat.xor_zero]
theorem cho_bd (bit one other : Int) (h2 : 0 ≤ one ∧ one ≤ 18446744073709551615) (h3 : 0 ≤ other ∧ other ≤ 18446744073709551615) : 0 ≤ cho bit one other ∧ cho bit one other ≤ 18446744073709551615 := by
  unfold cho; split <;> assumption

/-- What the last k rows of n have come to. -/
def fnd (C : Nat → List Int) (b : List Int) (n : Nat) : Nat → Int
  | 0 => 18446744073709551615
  | k + 1 => cho (sm (C (n - 1 - k)) b) ((n - 1 - k : Nat) : Int) (fnd C b n k)
theorem fnd_is (C : Nat → List Int) (b : List Int) (n k : Nat) (hk : k ≤ n) : (fnd C b n k = 18446744073709551615 ∧ ∀ i, n - k ≤ i → i < n → C i ≠ b) ∨ ∃ j : Nat, n - k ≤ j ∧ j < n ∧ fnd C b n k = j ∧ C j = b ∧ ∀ i, n - k ≤ i → i < j → C i ≠ b := by
  induction k with
  | zero => exact .inl ⟨rfl, fun i h1 h2 => by omega⟩
  | succ k ih =>
    rw [fnd]
    rcases sm_cases (C (n - 1 - k)) b with ⟨h1, h2⟩ | ⟨h1, h2⟩
    · rw [h1]
      exact .inr ⟨n - 1 - k, by omega, by omega, by simp [cho], h2, fun i h3 h4 => by omega⟩
    · rw [h1]
      have e : cho 0 ((n - 1 - k : Nat) : Int) (fnd C b n k) = fnd C b n k := by simp [cho]
      rw [e]
      have hx : ∀ i, n - (k + 1) ≤ i → i < n - k → C i ≠ b := by
        intro i h3 h4
        obtain rfl : i = n - 1 - k := by omega
        exact h2
      rcases ih (by omega) with ⟨h3, h4⟩ | ⟨j, h3, h4, h5, h6, h7⟩
      · refine .inl ⟨h3, fun i h5 h6 => ?_⟩
        by_cases h : i < n - k
        · exact hx i h5 h
        · exact h4 i (by omega) h6
      · refine .inr ⟨j, by omega, h4, h5, h6, fun i h8 h9 => ?_⟩
        by_cases h : i < n - k
        · exact hx i h8 h
        · exact h7 i (by omega) h9
theorem fnd_bd (C : Nat → List Int) (b : List Int) (n k : Nat) (hn : n ≤ 9223372036854775807) (hk : k ≤ n) : 0 ≤ fnd C b n k ∧ fnd C b n k ≤ 18446744073709551615 := by
  rcases fnd_is C b n k hk with ⟨h, _⟩ | ⟨j, _, h2, h, _⟩ <;> omega
/-- r is the number of the first row that is b, or -1, if none is. -/
def Hit (C : Nat → List Int) (n : Nat) (b : List Int) (r : Int) : Prop := (r = -1 ∧ ∀ i, i < n → C i ≠ b) ∨ ∃ k : Nat, k < n ∧ r = k ∧ C k = b ∧ ∀ i, i < k → C i ≠ b
theorem Hit.only {C : Nat → List Int} {n : Nat} {b : List Int} {r s : Int} (h : Hit C n b r) (k : Hit C n b s) : r = s := by
  rcases h with ⟨h1, h2⟩ | ⟨i, h1, h2, h3, h4⟩ <;> rcases k with ⟨k1, k2⟩ | ⟨j, k1, k2, k3, k4⟩
  · rw [h1, k1]
  · exact absurd k3 (h2 j k1)
  · exact absurd h3 (k2 i h1)
  · have e1 : ¬ i < j := fun h => k4 i h h3
    have e2 : ¬ j < i := fun h => h4 j h k3
    omega
def hit (C : Nat → List Int) (n : Nat) (b : List Int) : Int := IntKind.i64.wrap (fnd C b n n)
theorem hit_is (C : Nat → List Int) (n : Nat) (b : List Int) (hn : n ≤ 9223372036854775807) : Hit C n b (hit C n b) := by
  unfold hit
  rw [IntKind.wrap_i64]
  rcases fnd_is C b n n (Nat.le_refl _) with ⟨h1, h2⟩ | ⟨j, h1, h2, h3, h4, h5⟩
  · exact .inl ⟨by omega, fun i hi => h2 i (by omega) hi⟩
  · exact .inr ⟨j, h2, by omega, h4, fun i hi => h5 i (by omega) hi⟩

/-- Rows stand, one behind the other, where a slice's address says. -/
def Pcs (w : World) (a : Option Addr) (n : Nat) (va : Nat → Option Addr) (vl vc : Nat → Nat) (C : Nat → List Int) : Prop :=
  (0 < n → ∃ b off, a = some ⟨b, off, none⟩ ∧ b < w.heap.size ∧ ∀ i, i < n → w.cell? ⟨b, off + i, none⟩ = some (.slice (va i) (vl i) (vc i))) ∧
  ∀ i, i < n → Bytes w (va i) (vl i) (C i) ∧ vl i ≤ vc i ∧ vc i ≤ 9223372036854775807
theorem Pcs.below {w w' : World} {a : Option Addr} {n : Nat} {va : Nat → Option Addr} {vl vc : Nat → Nat} {C : Nat → List Int} (h : Pcs w a n va vl vc C) (hb : Below w.heap.size w w') : Pcs w' a n va vl vc C := by
  refine ⟨fun hp => ?_, fun i hi => ⟨(h.2 i hi).1.below hb, (h.2 i hi).2⟩⟩
  obtain ⟨b, off, e, hlt, hc⟩ := h.1 hp
  exact ⟨b, off, e, Nat.lt_of_lt_of_le hlt hb.size, fun i hi => (hb.cell hlt).trans (hc i hi)⟩
theorem bytes_none (w : World) : Bytes w none 0 [] := ⟨rfl, byt_nil, fun h => by omega⟩
end Go.Proofs.Ytpdggopkalbbeaa.Plain
