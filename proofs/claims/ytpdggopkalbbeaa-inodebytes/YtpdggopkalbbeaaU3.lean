/-
  Plain facts on the numbers of bytes that were put one behind the other; nothing of the program is said here.
-/
import Derived.Test.YtpdggopkalbbeaaU2
namespace Go.Proofs.Ytpdggopkalbbeaa.Plain
set_option linter.unusedVariables false
open Go.RowKit

theorem pow8 (k : Nat) : (2 : Int) ^ (8 * (k + 1)) = 256 * 2 ^ (8 * k) := by rw [show 8 * (k + 1) = 8 * k + 8 by omega, Int.pow_add]; omega
theorem emod_step (x P : Int) (hP : 0 < P) : x % (256 * P) = x % P + x / P % 256 * P := by
  have h1 := Int.emod_add_mul_ediv x P
  have h2 := Int.emod_add_mul_ediv (x / P) 256
  have h3 := Int.emod_nonneg x (Int.ne_of_gt hP)
  have h4 := Int.emod_lt_of_pos x hP
  have h5 := Int.emod_nonneg (x / P) (b := 256) (by decide)
  have h6 := Int.emod_lt_of_pos (x / P) (b := 256) (by decide)
  have e : x = (x % P + x / P % 256 * P) + 256 * P * (x / P / 256) := by
    calc x = x % P + P * (x / P) := h1.symm
      _ = x % P + P * (x / P % 256 + 256 * (x / P / 256)) := by rw [h2]
      _ = _ := by rw [Int.mul_add, Int.mul_comm P (x / P % 256), ← Int.mul_assoc, Int.mul_comm P 256]; omega
  generalize hr : x % P = r at *
  generalize hs : x / P % 256 = s at *
  generalize hq : x / P / 256 = q at *
  have h7 : 0 ≤ s * P := Int.mul_nonneg h5 (by omega)
  have h8 : s * P ≤ 255 * P := Int.mul_le_mul_of_nonneg_right (by omega) (by omega)
  rw [e, Int.add_mul_emod_self_left]
  exact Int.emod_eq_of_lt (by omega) (by omega)
theorem num_congr (L L' : List Int) (p p' k : Nat) (h : ∀ t, t < k → L.getD (p + t) 0 = L'.getD (p' + t) 0) : num L p k = num L' p' k := by
  induction k with
  | zero => rfl
  | succ k ih => rw [num, num, ih (fun t ht => h t (by omega)), h k (by omega)]
theorem bytesOf_get (x : Int) (K i : Nat) (h : i < K) : (bytesOf x K).getD i 0 = byteAt x i := by
  induction K with
  | zero => omega
  | succ K ih =>
    rw [bytesOf]
    by_cases e : i < K
    · rw [← ih e]
      simp only [List.getD, List.getElem?_append_left (show i < (bytesOf x K).length by rw [length_bytesOf]; exact e)]
    · obtain rfl : i = K := by omega
      simp only [List.getD]
      rw [List.getElem?_append_right (by rw [length_bytesOf]; omega), length_bytesOf]
      simp
theorem num_bytesOf (x : Int) (K k : Nat) (h : k ≤ K) : num (bytesOf x K) 0 k = x % 2 ^ (8 * k) := by
  induction k with
  | zero => simp [num]
  | succ k ih =>
    rw [num, ih (by omega), Nat.zero_add, bytesOf_get x K k (by omega), pow8, emod_step _ _ (Int.pow_pos (by omega)), byteAt]

/-- The numbers of L, each in K bytes, one behind the other: the first j of them. -/
def rowsOf (L : List Int) (K : Nat) : Nat → List Int
  | 0 => []
  | j + 1 => rowsOf L K j ++ bytesOf (L.getD j 0) K
theorem length_rowsOf (L : List Int) (K j : Nat) : (rowsOf L K j).length = j * K := by
  induction j with
  | zero => simp [rowsOf]
  | succ j ih => simp [rowsOf, ih, length_bytesOf, Nat.add_mul]
theorem rowsOf_get (L : List Int) (K i t j : Nat) (hi : i < j) (ht : t < K) : (rowsOf L K j).getD (i * K + t) 0 = (bytesOf (L.getD i 0) K).getD (0 + t) 0 := by
  induction j with
  | zero => omega
  | succ j ih =>
    rw [rowsOf]
    by_cases e : i < j
    · have hlt : i * K + t < (rowsOf L K j).length := by
        rw [length_rowsOf]
        have := Nat.mul_le_mul_right K (show i + 1 ≤ j by omega)
        rw [Nat.add_mul] at this
        omega
      rw [← ih e]
      simp only [List.getD, List.getElem?_append_left hlt]
    · obtain rfl : i = j := by omega
      simp only [List.getD]
      rw [List.getElem?_append_right (by rw [length_rowsOf]; omega), length_rowsOf, show i * K + t - i * K = 0 + t by omega]
theorem num_rowsOf (L : List Int) (K i j : Nat) (hi : i < j) : num (rowsOf L K j) (i * K) K = L.getD i 0 % 2 ^ (8 * K) := by
  rw [num_congr _ (bytesOf (L.getD i 0) K) (i * K) 0 K (fun t ht => rowsOf_get L K i t j hi ht), num_bytesOf _ K K (Nat.le_refl _)]
theorem bd_append (A B : List Int) (hA : ∀ i, 0 ≤ A.getD i 0 ∧ A.getD i 0 ≤ 255) (hB : ∀ i, 0 ≤ B.getD i 0 ∧ B.getD i 0 ≤ 255) : ∀ i, 0 ≤ (A ++ B).getD i 0 ∧ (A ++ B).getD i 0 ≤ 255 := by
  intro i
  by_cases h : i < A.length
  · have := hA i
    simpa only [List.getD, List.getElem?_append_left h] using this
  · have := hB (i - A.length)
    simpa only [List.getD, List.getElem?_append_right (Nat.le_of_not_lt h)] using this
theorem rowsOf_bd (L : List Int) (K j : Nat) : ∀ i, 0 ≤ (rowsOf L K j).getD i 0 ∧ (rowsOf L K j).getD i 0 ≤ 255 := by
  induction j with
  | zero => intro i; simp [rowsOf]
  | succ j ih => exact bd_append _ _ ih (bytesOf_bd _ _)

theorem i64_and7 (n : Int) : bits .and .i64 n 7 = n % 8 := by
  have h7 : (BitVec.ofInt 64 7).toNat = 2 ^ 3 - 1 := by decide
  have key : (BitVec.ofInt 64 n &&& BitVec.ofInt 64 7).toNat = (n % ((2 ^ 64 : Nat) : Int)).toNat % 2 ^ 3 := by
    rw [BitVec.toNat_and, BitVec.toNat_ofInt, h7, Nat.and_two_pow_sub_one_eq_mod]
  show IntKind.i64.wrap ((BitVec.ofInt 64 n &&& BitVec.ofInt 64 7).toNat : Nat) = n % 8
  rw [key, IntKind.wrap_i64]
  omega
theorem and7 (n : Int) : ∃ K : Nat, 1 ≤ K ∧ K ≤ 8 ∧ bits .and .i64 n 7 = (K : Int) - 1 := by
  refine ⟨(n % 8 + 1).toNat, by omega, by omega, ?_⟩
  rw [i64_and7]; omega
theorem own_later {w w' : World} {base n : Nat} {v : Value} {xs : List Value} (h : w.ownsRow base 5 1 v n xs) (hb : Below w.heap.size w w') : w'.ownsRow base 5 1 v n xs := by
  refine ⟨h.1, ?_⟩
  rcases h.2 with h3 | ⟨g, cap', cur, h3, hb', hh, r⟩
  · exact .inl h3
  · exact .inr ⟨g, cap', cur, h3, hb', by rw [hb.block g (Array.getElem?_eq_some_iff.1 hh).1]; exact hh, r⟩
theorem own_form {w : World} {base n : Nat} {v : Value} {xs : List Value} (h : w.ownsRow base 5 1 v n xs) : ∃ a cap, v = .slice a n cap := by
  rcases h.2 with ⟨rfl, rfl⟩ | ⟨g, cap', cur, rfl, _⟩
  · exact ⟨_, _, rfl⟩
  · exact ⟨_, _, rfl⟩
theorem own_bytes {w : World} {base n cap : Nat} {a : Option Addr} {L : List Int} (h : w.ownsRow base 5 1 (.slice a n cap) n (L.map (Value.int .u8))) (hL : ∀ i, 0 ≤ L.getD i 0 ∧ L.getD i 0 ≤ 255) : Bytes w a n L := by
  have hn : L.length = n := by simpa using h.1
  refine ⟨hn, hL, fun hp => ?_⟩
  rcases h.2 with ⟨_, h3⟩ | ⟨g, cap', cur, h3, _, hh, _, _, _, _⟩
  · omega
  · simp only [Value.slice.injEq, true_and] at h3
    obtain ⟨rfl, rfl⟩ := h3
    refine ⟨g, 0, rfl, (Array.getElem?_eq_some_iff.1 hh).1, fun i hi => ?_⟩
    rw [Nat.zero_add, h.cellAt i (by omega)]
    have hi' : i < L.length := by rw [hn]; exact hi
    simp [hi']
theorem Bytes.news {w : World} {ad : Addr} {len : Nat} {L : List Int} (h : Bytes w (some ad) len L) : ∀ j u, (L.map (Value.int .u8))[j]? = some u → w.cell? (ad.add j) = some u := by
  intro j u hj
  have hlt : j < L.length := by simpa using (List.getElem?_eq_some_iff.1 hj).1
  obtain ⟨ad', he, hc⟩ := h.src (by rw [← h.1]; omega)
  simp only [Option.some.injEq] at he
  subst he
  exact hc j u hj
theorem own_block_le {w : World} {base n : Nat} {v : Value} {xs : List Value} (h : w.ownsRow base 5 1 v n xs) : ∀ k, v.ownBlock = some k → base ≤ k := fun k hk => (h.lt k hk).1
theorem mul_bd (t K B : Nat) (h : t * K ≤ B) : 0 ≤ (t : Int) * (K : Int) ∧ (t : Int) * (K : Int) ≤ (B : Int) := by
  have e : (t : Int) * (K : Int) = ((t * K : Nat) : Int) := (Int.natCast_mul t K).symm
  rw [e]; omega
/-- A number shifted up and down again by what 8 bytes have more than K. -/
theorem shift_back (x : Int) (K : Nat) (h1 : 1 ≤ K) (h2 : K ≤ 8) (hx : 0 ≤ x ∧ x ≤ 18446744073709551615) : IntKind.u64.wrap (x * 2 ^ (64 - 8 * K)) / 2 ^ (64 - 8 * K) = x % 2 ^ (8 * K) := by
  rw [IntKind.wrap_u64]
  have h : K = 1 ∨ K = 2 ∨ K = 3 ∨ K = 4 ∨ K = 5 ∨ K = 6 ∨ K = 7 ∨ K = 8 := by omega
  rcases h with rfl | rfl | rfl | rfl | rfl | rfl | rfl | rfl <;> simp <;> omega

end Go.Proofs.Ytpdggopkalbbeaa.Plain
