/-
  The walk of EqualTurned: bytes that differ in one bit aren't the same; a copy is: the law returns true.
-/
import Derived.Test.YtggkapgfljdgdaaJ5
namespace Go.Proofs.Ytggkapgfljdgdaa
set_option linter.unusedVariables false
open Go.RowKit Plain

theorem u8_and7 (x : Int) (h : 0 ≤ x ∧ x ≤ 255) : bits .and .u8 x 7 = x % 8 := by
  obtain ⟨X, rfl⟩ := Int.eq_ofNat_of_zero_le h.1
  have := u8_and_nat X 7 (by omega) (by omega)
  rw [show (7 : Nat) = 2 ^ 3 - 1 from rfl, Nat.and_two_pow_sub_one_eq_mod] at this
  exact_mod_cast this
theorem turn_ne (x y : Int) (hx : 0 ≤ x ∧ x ≤ 255) (hy : 0 < y ∧ y ≤ 255) : bits .xor .u8 x y ≠ x := by
  obtain ⟨X, rfl⟩ := Int.eq_ofNat_of_zero_le hx.1
  obtain ⟨Y, rfl⟩ := Int.eq_ofNat_of_zero_le (show 0 ≤ y by omega)
  rw [u8_xor_nat X Y (by omega) (by omega)]
  intro h
  have h1 : X ^^^ Y = X := by exact_mod_cast h
  have h2 : X ^^^ (X ^^^ Y) = X ^^^ X := by rw [h1]
  rw [← Nat.xor_assoc, Nat.xor_self, Nat.zero_xor] at h2
  omega
theorem set_ne (A : List Int) (k : Nat) (z : Int) (hk : k < A.length) (h : z ≠ A.getD k 0) : A ≠ A.set k z := by
  intro e
  have := congrArg (fun l => List.getD l k 0) e
  simp [hk] at this
  simp [hk] at h
  exact h this.symm

/-- What a copy gives. -/
theorem turn_own {w w1 : World} {a : Option Addr} {la ca : Nat} {A : List Int} {v : Value} (hA : Bytes w a la A) (hp : 0 < la) (hl : la ≤ 9223372036854775807) (h : w1.ownsRow w.heap.size 5 1 v (0 + la) (([] ++ A).map (Value.int .u8)) ∧ Below w.heap.size w w1 ∧ w.heap.size ≤ w1.heap.size) :
    ∃ g cv cur, v = .slice (some ⟨g, 0, none⟩) la cv ∧ Box (Calls Try.prog 9 #[.slice a la ca, .slice (some ⟨g, 0, none⟩) la cv] w1 fun e w' => e = .returned (.bool true) ∧ w1 = w') ∧
      Box (w.heap.size ≤ g ∧ w1.heap[g]? = some (.cells cur 5 (0, 0)) ∧ la ≤ cur.size ∧ la ≤ cv ∧ cv ≤ maxLen ∧ (∀ i, i < la → cur[i]? = some (.int .u8 (A.getD i 0))) ∧ Below w.heap.size w w1) := by
  obtain ⟨ho, hb, _⟩ := h
  rw [Nat.zero_add, List.nil_append] at ho
  obtain ⟨g, cv, cur, rfl, h1, h2, h3, h4, h5, h6⟩ := own_block ho hp
  refine ⟨g, cv, cur, rfl, ⟨?_⟩, ⟨h1, h2, h3, h4, h5, h6, hb⟩⟩
  have := bytes_any a (some ⟨g, 0, none⟩) la ca la cv A A w1 (hA.below hb) (own_bytes ho hA.2.1) hl hl
  rwa [show decide (A = A) = true by simp] at this

/-- What the law asks behind the turn. -/
theorem turn_calls {w w1 : World} {a : Option Addr} {la ca g cv k j : Nat} {cur : Array Value} {A : List Int} {x z : Int} (hA : Bytes w a la A) (hp : 0 < la) (hl : la ≤ 9223372036854775807) (hl2 : la ≤ 3000) (hca : la ≤ ca)
    (K : w.heap.size ≤ g ∧ w1.heap[g]? = some (.cells cur 5 (0, 0)) ∧ la ≤ cur.size ∧ la ≤ cv ∧ cv ≤ maxLen ∧ (∀ i, i < la → cur[i]? = some (.int .u8 (A.getD i 0))) ∧ Below w.heap.size w w1)
    (hx : A.getD k 0 = x) (hz : bits .xor .u8 x (2 ^ j % 256) = z) (hj : j < 8) (hk : k < la) :
    ∃ a1, (∀ x, (Instr.sliceAt 22 (.slice a la ca) (some (.int .i64 1)) none none).run Try.prog x = .ok (.slice a1 (la - 1) (ca - 1)) x) ∧
      Box (∀ u v, (u = .slice a la ca ∧ v = .slice (some ⟨g, 0, none⟩) la cv) ∨ (u = .slice (some ⟨g, 0, none⟩) la cv ∧ v = .slice a la ca) ∨ (u = .slice a la ca ∧ v = .slice a1 (la - 1) (ca - 1)) →
        Calls Try.prog 9 #[u, v] (w1.setCell ⟨g, k, none⟩ (.int .u8 z)) fun e w' => e = .returned (.bool false) ∧ w1.setCell ⟨g, k, none⟩ (.int .u8 z) = w') := by
  obtain ⟨a1, hsl, hB1⟩ := slice_lo a la ca 1 hp hca
  have hxb := hA.2.1 k
  rw [hx] at hxb
  have hy : (0 : Int) < 2 ^ j % 256 ∧ (2 : Int) ^ j % 256 ≤ 255 := by
    have h : j = 0 ∨ j = 1 ∨ j = 2 ∨ j = 3 ∨ j = 4 ∨ j = 5 ∨ j = 6 ∨ j = 7 := by omega
    rcases h with rfl | rfl | rfl | rfl | rfl | rfl | rfl | rfl <;> decide
  have hzx := turn_ne x _ hxb hy
  have hzb := bits_u8 .xor x (2 ^ j % 256)
  rw [hz] at hzx hzb
  have hne : A ≠ A.set k z := set_ne A k z (by rw [hA.1]; exact hk) (by rw [hx]; exact hzx)
  have hBel : Below w.heap.size w (w1.setCell ⟨g, k, none⟩ (.int .u8 z)) := below_set K.2.2.2.2.2.2 K.1 _
  have hA2 := hA.below hBel
  have hS2 := own_set K.2.1 K.2.2.1 K.2.2.2.2.2.1 hA.1 hA.2.1 hzb hk
  refine ⟨a1, hsl, ⟨fun u v h => ?_⟩⟩
  rcases h with ⟨rfl, rfl⟩ | ⟨rfl, rfl⟩ | ⟨rfl, rfl⟩
  · have := bytes_any a (some ⟨g, 0, none⟩) la ca la cv A _ _ hA2 hS2 hl hl
    rwa [show decide (A = A.set k z) = false by simpa using hne] at this
  · have := bytes_any (some ⟨g, 0, none⟩) a la cv la ca _ A _ hS2 hA2 hl hl
    rwa [show decide (A.set k z = A) = false by simpa using hne.symm] at this
  · have := bytes_any a a1 la ca (la - 1) (ca - 1) A _ _ hA2 (hB1 _ _ hA2) hl (by omega)
    rwa [show decide (A = A.drop 1) = false by
      have hl := hA.1
      simp only [decide_eq_false_iff_not]
      intro e
      have := congrArg List.length e
      rw [List.length_drop] at this
      omega] at this

set_option maxHeartbeats 2000000 in
theorem turned_in (a : Option Addr) (la ca : Nat) (A : List Int) (at' bit : Int) (k j : Nat) (w : World) (hA : Bytes w a la A) (hp : 0 < la) (hl : la ≤ 3000) (hca : la ≤ ca) (hca2 : ca ≤ 9223372036854775807) (h1 : 0 ≤ at' ∧ at' ≤ 65535) (hk : at' % (la : Int) = (k : Int)) (hj : bits .and .u8 bit 7 = (j : Int)) (hj8 : j < 8) :
    Calls Try.prog 5 #[.slice a la ca, .int .u16 at', .int .u8 bit] w fun e w' => e = .returned (.bool true) ∧ Below w.heap.size w w' := by
  have d0 : ((la : Int) == 0) = false := by simp; omega
  have d1 : ¬ 3000 < (la : Int) := by omega
  have hkl : k < la := by have := Int.emod_lt_of_pos at' (show (0 : Int) < la by omega); omega
  obtain ⟨S, hS⟩ : ∃ S, w.heap.size = S := ⟨_, rfl⟩
  have HA : Box (Bytes w a la A) := ⟨hA⟩
  have HS : Box (w.heap.size = S) := ⟨hS⟩
  clear hA hS
  go_enter Try.func5, Try.ntmps5
  go_upto_region 9 with (first
    | (go_at_call 8; refine (awake_any _).mono ?_; rintro e w' ⟨rfl, rfl⟩)
    | (go_at_call 9; refine Calls.mono E1.out ?_; rintro e w' ⟨rfl, rfl⟩)
    | (at_builtin; refine wpList_app rfl (.tmp 21) (.tmp 22) rfl w.heap.size 0 la ca (.slice none 0 0) [] A a w rfl rfl (World.ownsRow_nil _ _ _ _) HA.out (by omega) (Below.refl _ _) (Nat.le_refl _) ?_; intro v1 w1 H1; obtain ⟨g, cv, cur, rfl, E1, K1⟩ := turn_own HA.out hp (by omega) H1.out))
  obtain ⟨x, HX⟩ : ∃ x, Box (A.getD k 0 = x) := ⟨_, ⟨rfl⟩⟩
  have c1 : w1.cell? ⟨g, k, none⟩ = some (.int .u8 x) := by rw [cell_of_row _ _ _ _ _ _ K1.out.2.1, K1.out.2.2.2.2.2.1 k hkl, HX.out]
  have f1 : w1.frozen? ⟨g, k, none⟩ = false := frozen_of_row w1 g k _ 5 K1.out.2.1
  go_upto_region 10 with fail
  obtain ⟨z, HZ⟩ : ∃ z, Box (bits .xor .u8 x (2 ^ j % 256) = z) := ⟨_, ⟨rfl⟩⟩
  have E2 := turn_calls (ca := ca) (cv := cv) HA.out hp (by omega) (by omega) hca K1.out HX.out HZ.out hj8 hkl
  have HB2 : Box (Below w.heap.size w (w1.setCell ⟨g, k, none⟩ (.int .u8 z))) := ⟨below_set K1.out.2.2.2.2.2.2 K1.out.1 _⟩
  rw [HZ.out]
  generalize w1.setCell ⟨g, k, none⟩ (.int .u8 z) = w2 at E2 HB2 ⊢
  obtain ⟨a1, hsl, E2⟩ := E2
  clear c1 f1 HX HZ HA K1 E1 H1
  generalize la - 1 = l1 at hsl E2
  generalize ca - 1 = c1 at hsl E2
  go_wp2_with (go_at_call 9; refine Calls.mono (E2.out _ _ (by first | exact .inl ⟨rfl, rfl⟩ | exact .inr (.inl ⟨rfl, rfl⟩) | exact .inr (.inr ⟨rfl, rfl⟩))) ?_; rintro e w' ⟨rfl, rfl⟩)
  go_ret
  exact ⟨rfl, HB2.out⟩

set_option maxHeartbeats 1000000 in
theorem turned_out (a : Option Addr) (la ca : Nat) (at' bit : Int) (w : World) (hl : la ≤ 9223372036854775807) (h : la = 0 ∨ 3000 < la) :
    Calls Try.prog 5 #[.slice a la ca, .int .u16 at', .int .u8 bit] w fun e w' => e = .returned (.bool true) ∧ Below w.heap.size w w' := by
  by_cases h0 : la = 0
  · subst h0
    go_enter Try.func5, Try.ntmps5
    go_wp2_with (go_at_call 8; refine (awake_any _).mono ?_; rintro e w' ⟨rfl, rfl⟩)
    go_ret
    exact ⟨rfl, Below.refl _ _⟩
  · have d0 : ((la : Int) == 0) = false := by simp; omega
    have d1 : 3000 < (la : Int) := by omega
    clear h h0
    go_enter Try.func5, Try.ntmps5
    go_wp2_with (go_at_call 8; refine (awake_any _).mono ?_; rintro e w' ⟨rfl, rfl⟩)
    go_ret
    exact ⟨rfl, Below.refl _ _⟩

theorem equalTurned_walk (a : Option Addr) (la ca : Nat) (zA : List Int) (at' bit : Int) (w : World) (hA : IsRow .u8 w a la ca zA) (w1 : (Lit.int .u16 at').wf = true) (w2 : (Lit.int .u8 bit).wf = true) :
    Calls Try.prog 5 #[.slice a la ca, .int .u16 at', .int .u8 bit] w fun e w' => e = .returned (.bool true) ∧ Below w.heap.size w w' := by
  have b1 := bounds_u16 w1
  have b2 := bounds_u8 w2
  have mA := hA.pc
  by_cases h : la = 0 ∨ 3000 < la
  · exact turned_out a la ca at' bit w (by omega) h
  · have hb : 0 ≤ at' % (la : Int) := Int.emod_nonneg _ (by omega)
    have e7 := u8_and7 bit ⟨by omega, by omega⟩
    exact turned_in a la ca _ at' bit (at' % (la : Int)).toNat (bit % 8).toNat w mA.1 (by omega) (by omega) mA.2.1 mA.2.2 ⟨by omega, by omega⟩ (by omega) (by omega) (by omega)
end Go.Proofs.Ytggkapgfljdgdaa
