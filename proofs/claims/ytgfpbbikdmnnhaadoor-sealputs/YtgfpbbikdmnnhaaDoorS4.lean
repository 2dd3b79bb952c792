/-
  What is sealed is opened, and what is opened is sealed as it was, in Lean; bytes cut, or filled up, to a block's or a record's; the document's examples of layer 8.
-/
import Derived.Test.YtgfpbbikdmnnhaaDoorS3
namespace Go.Proofs.YtgfpbbikdmnnhaaDoor
set_option linter.unusedVariables false
open Go.RowKit Plain

theorem sl_at (K : List Int) (p v : Int) (B : List Int) (n i : Nat) (hB : B.length = n) (hn : n ≤ 184) (hi : i < 192) : (sl K p v B).getD i 0 = if i < 8 then byteAt v i else if i < 8 + n then xr (B.getD (i - 8) 0) (stm K 0 (non p v) (i - 8)) else 0 := by
  have hl : (bytesOf v 8 ++ cr K 0 (non p v) B n).length = 8 + n := by rw [List.length_append, length_bytesOf, length_cr]
  unfold sl padTo
  rw [hB, List.take_of_length_le (by omega), getD_app, hl]
  by_cases h8 : i < 8
  · rw [if_pos (by omega), if_pos h8, getD_app, if_pos (by rw [length_bytesOf]; exact h8), bytesOf_get v 8 i h8]
  · rw [if_neg h8]
    by_cases hn' : i < 8 + n
    · rw [if_pos hn', if_pos hn', getD_app, if_neg (by rw [length_bytesOf]; exact h8), length_bytesOf, cr_at _ _ _ _ _ _ (by omega)]
    · rw [if_neg hn', if_neg hn']
      simp only [List.getD, List.getElem?_replicate]
      split <;> simp
theorem sl_num (K : List Int) (p v : Int) (B : List Int) (n : Nat) (hB : B.length = n) (hn : n ≤ 184) (hv : 0 ≤ v ∧ v ≤ 18446744073709551615) : num (sl K p v B) 0 8 = v := by
  rw [num_congr (sl K p v B) (bytesOf v 8) 0 0 8 (fun t ht => by
    rw [sl_at K p v B n (0 + t) hB hn (by omega), if_pos (by omega), bytesOf_get v 8 (0 + t) (by omega)])]
  have h := num_bytesOf v 8 8 (by omega)
  have h2 : v % 2 ^ (8 * 8) = v := Int.emod_eq_of_lt hv.1 (by omega)
  rw [h2] at h
  exact h
theorem sl_fit (K : List Int) (p v : Int) (B : List Int) (n : Nat) (hB : B.length = n) (hn : n ≤ 184) (hv : 0 ≤ v ∧ v ≤ 18446744073709551615) (h0 : ¬ v = 0) (h1 : ¬ v = 18446744073709551615) : Fit (sl K p v B) n := by
  unfold Fit
  rw [sl_num K p v B n hB hn hv]
  exact ⟨h0, h1, fun i h1 h2 => by rw [sl_at K p v B n i hB hn h2, if_neg (by omega), if_neg (by omega)]⟩
theorem mid_at (L : List Int) (n i : Nat) (h : i < n) : ((L.take (8 + n)).drop 8).getD i 0 = L.getD (8 + i) 0 := by
  simp only [List.getD, List.getElem?_drop, List.getElem?_take]
  rw [if_pos (by omega)]
/-- What was sealed is opened. -/
theorem op_sl (K : List Int) (p v : Int) (B : List Int) (n : Nat) (hB : B.length = n) (hb : Byt B) (hn : n ≤ 184) (hv : 0 ≤ v ∧ v ≤ 18446744073709551615) : op K p (sl K p v B) n = B := by
  unfold op
  rw [sl_num K p v B n hB hn hv]
  apply eq_getD _ _ n (length_cr _ _ _ _ _) hB
  intro i hi
  rw [cr_at _ _ _ _ _ _ hi, mid_at _ _ _ hi, sl_at K p v B n (8 + i) hB hn (by omega), if_neg (by omega), if_pos (by omega), show 8 + i - 8 = i by omega, xr_xr _ _ (hb i) (stm_bd _ _ _ _)]
theorem byteAt_num (L : List Int) (p : Nat) (hL : Byt L) (K j : Nat) (hj : j < K) : byteAt (num L p K) j = L.getD (p + j) 0 := by
  induction K with
  | zero => omega
  | succ K ih =>
    have hb := num_bd L p hL K
    have hp : (0 : Int) < 2 ^ (8 * K) := Int.pow_pos (by omega)
    have hz := hL (p + K)
    rw [num]
    by_cases e : j = K
    · subst e
      unfold byteAt
      rw [Int.add_mul_ediv_right _ _ (by omega), Int.ediv_eq_zero_of_lt hb.1 hb.2]
      omega
    · have hlt : j < K := by omega
      rw [← ih hlt]
      unfold byteAt
      have hK : (2 : Int) ^ (8 * K) = 2 ^ (8 * j) * (256 * 2 ^ (8 * (K - j - 1))) := by
        rw [← pow8, ← Int.pow_add]
        congr 1; omega
      rw [hK, show L.getD (p + K) 0 * (2 ^ (8 * j) * (256 * 2 ^ (8 * (K - j - 1)))) = 2 ^ (8 * j) * (256 * (L.getD (p + K) 0 * 2 ^ (8 * (K - j - 1)))) by
        rw [Int.mul_left_comm, Int.mul_left_comm (L.getD (p + K) 0) 256], Int.add_mul_ediv_left _ _ (Int.ne_of_gt (Int.pow_pos (by omega))), Int.add_mul_emod_self_left]
/-- What is opened is sealed as it was. -/
theorem sl_op (K : List Int) (p : Int) (L : List Int) (n : Nat) (hL : L.length = 192) (hb : Byt L) (hn : n ≤ 184) (h : Fit L n) : sl K p (num L 0 8) (op K p L n) = L := by
  apply eq_getD _ _ 192 (length_sl _ _ _ _) hL
  intro i hi
  rw [sl_at K p _ _ n i (length_op _ _ _ _) hn hi]
  by_cases h8 : i < 8
  · rw [if_pos h8, byteAt_num L 0 hb 8 i h8, Nat.zero_add]
  · rw [if_neg h8]
    by_cases hi8 : i < 8 + n
    · rw [if_pos hi8]
      unfold op
      rw [cr_at _ _ _ _ _ _ (by omega), mid_at _ _ _ (by omega), xr_xr _ _ (hb _) (stm_bd _ _ _ _), show 8 + (i - 8) = i by omega]
    · rw [if_neg hi8]
      exact (h.2.2 i (by omega) hi).symm
end Go.Proofs.YtgfpbbikdmnnhaaDoor
