/-
  The Go function WordRows answers true, for every list of at most 100 numbers.
-/
import Derived.Test.YtkbbknbdkbcaeaaW7
import Derived.Test.YtkbbknbdkbcaeaaP3
namespace Go.Proofs.Ytkbbknbdkbcaeaa
set_option linter.unusedVariables false
open Go.RowKit Plain

theorem get_at (a : Option Addr) (len cap : Nat) (L : List Int) (p n : Nat) (pi ni : Int) (w : World) (hb : Bytes w a len L) (hl : len ≤ maxLen) (hn1 : 1 ≤ n) (hn2 : n ≤ 8) (hp : p + n ≤ len) (hpi : pi = (p : Int)) (hni : ni = (n : Int)) (Y : Int) (hY : num L p n = Y) :
    Calls Try.prog 10 #[.slice a len cap, .int .i64 pi, .int .i64 ni] w fun e w' => e = .returned (.tuple #[.int .u64 Y, .int .i64 0]) ∧ w = w' := by
  subst hpi hni hY
  exact get_ok a len cap L p n w hb hl hn1 hn2 hp

set_option maxHeartbeats 400000 in
theorem rows_any (a : Option Addr) (len cap : Nat) (L : List Int) (n : Int) (w : World) (hb : Nums w a len L) (hl : len ≤ 100) :
    Calls Try.prog 7 #[.slice a len cap, .int .i64 n] w fun e w' => e = .returned (.bool true) ∧ Below w.heap.size w w' := by
  obtain ⟨K, hK1, hK2, hK⟩ := and7 n
  obtain ⟨i0, hi, hz0, hz1, hz2⟩ := info_parts Try.info5
  go_enter Try.func7, Try.ntmps7
  go_wp2_with (go_at_call 9; refine (awake_any _).mono ?_; rintro e w1 ⟨rfl, hb1⟩)
  go_loopw [7, 8] (fun v i wr => ∃ j : Nat, j ≤ len ∧ i = .int .i64 j ∧ wr.ownsRow w.heap.size 5 1 v (j * K) ((rowsOf L K j).map (Value.int .u8)) ∧ Below w.heap.size w wr) (fun _ i _ => len - (intOf i).toNat)
  case atStart => exact ⟨0, Nat.zero_le _, rfl, by rw [Nat.zero_mul]; exact World.ownsRow_nil _ _ _ _, hb1⟩
  case round =>
    obtain ⟨j, hj, rfl, hown, hbel⟩ := hrel
    by_cases hlt : j < len
    · have hN := hb.below hbel
      obtain ⟨b, off, rfl, hblt, hc⟩ := hN.2.2 (by omega)
      have hck := hc j hlt
      have hzk := hb.2.1 j
      have hr : rowsOf L K (j + 1) = rowsOf L K j ++ bytesOf (L.getD j 0) K := rfl
      generalize L.getD j 0 = z at hck hzk hr
      have HR : Hid (rowsOf L K (j + 1) = rowsOf L K j ++ bytesOf z K) := hr
      clear hr hc hN hb
      have hjk : j * K ≤ 100 * 8 := Nat.mul_le_mul (by omega) hK2
      have hlb : ((bytesOf z K).map (Value.int .u8)).length = K * 1 := by simp [length_bytesOf]
      go_wp2_with (first | (go_at_call 14; refine (put_ok z K _ hzk.1 hzk.2 hK1 hK2).mono ?_; rintro e w2 ⟨g, rfl, ho⟩; have hown2 := own_later hown ho.2.2; have hby := (ho.bytes (bytesOf_bd z K)).news; have hsz2 := Nat.le_trans hbel.size ho.2.2.size; have hbel2 := hbel.trans (ho.2.2.mono hbel.size); clear ho) | (at_builtin; refine wpList_append_own _ rfl (.tmp 29) (.tmp 35) 22 rfl w.heap.size 5 i0 (.int .u8 0) 1 1 Try.underlying22 hi hz0 hz1 hz2 rfl (by decide) _ _ _ rfl hown2 _ _ _ ((bytesOf z K).map (Value.int .u8)) rfl hlb hby (ints_oneCell _ _) (by unfold maxLen; omega) (by omega) hsz2 ?_; intro v' w3 hown3 hgrow3 _; have hbel3 := hbel2.grown hgrow3 hsz2 (own_block_le hown2); clear hgrow3 hown2 hown hbel2 hby))
      go_roundw
      case rel => exact ⟨j + 1, by omega, by go_num, by rw [HR.out, List.map_append, Nat.add_mul, Nat.one_mul]; exact hown3, hbel3⟩
      case measure => simp [intOf]; omega
    · obtain rfl : j = len := by omega
      obtain ⟨a', cap', rfl⟩ := own_form hown
      have hB := own_bytes hown (rowsOf_bd L K j)
      have hN := hb.below hbel
      have hjk : j * K ≤ 100 * 8 := Nat.mul_le_mul (by omega) hK2
      clear hown hb hb1
      go_wp2
      go_loop [9] (fun i => ∃ t : Nat, t ≤ j ∧ i = .int .i64 t) (fun i => j - (intOf i).toNat)
      case atStart => exact ⟨0, Nat.zero_le _, rfl⟩
      case round =>
        obtain ⟨t, ht, rfl⟩ := hrel
        by_cases hlt2 : t < j
        · obtain ⟨b, off, rfl, hblt, hc⟩ := hN.2.2 (by omega)
          have hck := hc t hlt2
          have hzk := hN.2.1 t
          have hnum := num_rowsOf L K t j hlt2
          generalize L.getD t 0 = z at hck hzk hnum
          have hsh := shift_back z K hK1 hK2 hzk
          have htk : t * K + K ≤ j * K := by have := Nat.mul_le_mul_right K hlt2; rw [Nat.succ_mul] at this; exact this
          have htk0 := mul_bd t K 800 (by omega)
          generalize z % 2 ^ (8 * K) = Y at hnum hsh
          clear hc hN
          go_wp2_with (first | (go_at_call 10; refine (get_at a' (j * K) cap' (rowsOf L K j) (t * K) K _ _ _ hB (by unfold maxLen; omega) hK1 hK2 htk (by rw [Int.natCast_mul]) rfl Y hnum).mono ?_; rintro e w2 ⟨rfl, rfl⟩))
          go_round
          case rel => exact ⟨t + 1, by omega, by go_num⟩
          case measure => simp [intOf]; omega
        · obtain rfl : t = j := by omega
          have htk0 := mul_bd t K 800 (by omega)
          have hR : (t : Int) * (K : Int) < 0 ∨ ((t * K : Nat) : Int) - (K : Int) < (t : Int) * (K : Int) := Or.inr (by rw [Int.natCast_mul]; omega)
          go_wp2_with (go_at_call 10; refine (get_range _ _ _ _ _ _ (by omega) (by omega) (by unfold maxLen; omega) hR).mono ?_; rintro e w2 ⟨rfl, rfl⟩)
          go_ret
          exact ⟨rfl, hbel⟩


set_option maxHeartbeats 400000 in
theorem rows_long (a : Option Addr) (len cap : Nat) (n : Int) (w : World) (hl : 100 < (len : Int)) (hm : len ≤ maxLen) :
    Calls Try.prog 7 #[.slice a len cap, .int .i64 n] w fun e w' => e = .returned (.bool true) ∧ Below w.heap.size w w' := by
  unfold maxLen at hm
  obtain ⟨K, hK1, hK2, hK⟩ := and7 n
  go_enter Try.func7, Try.ntmps7
  go_wp2_with (go_at_call 9; refine (awake_any _).mono ?_; rintro e w1 ⟨rfl, hb1⟩)
  go_ret
  exact ⟨rfl, hb1⟩

end Go.Proofs.Ytkbbknbdkbcaeaa
