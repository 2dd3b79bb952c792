/-
  The Go function WordBack answers true, for every list of at most 3000 bytes.
-/
import Derived.Test.YtkbbknbdkbcaeaaW7
import Derived.Test.YtkbbknbdkbcaeaaP4
import Derived.Deep.QuietTactic
import Derived.BigQuiet
namespace Go.Proofs.Ytkbbknbdkbcaeaa
set_option linter.unusedVariables false
open Go.RowKit Plain

theorem num_splice (L : List Int) (p K : Nat) (x : Int) (h : p + K ≤ L.length) : num (splice L p (bytesOf x K)) p K = x % 2 ^ (8 * K) := by
  rw [num_congr _ (bytesOf x K) p 0 K, num_bytesOf x K K (Nat.le_refl _)]
  intro t ht
  have h1 : (L.take p).length = p := by simp; omega
  have h2 := length_bytesOf x K
  simp only [splice, List.getD]
  rw [List.getElem?_append_right (by omega), h1, List.getElem?_append_left (by omega)]
  congr 2
  omega
theorem get_set (a : Option Addr) (len cap : Nat) (L : List Int) (p n : Nat) (pi : Int) (w : World) (hb : Bytes w a len L) (hl : len ≤ maxLen) (hn1 : 1 ≤ n) (hn2 : n ≤ 8) (hp : p + n ≤ len) (hpi : pi = (p : Int)) (Y : Int) (hY : num L p n = Y) :
    Calls Try.prog 10 #[.slice a len cap, .int .i64 pi, .int .i64 n] w fun e w' => e = .returned (.tuple #[.int .u64 Y, .int .i64 0]) ∧ w = w' := by
  subst hpi hY
  exact get_ok a len cap L p n w hb hl hn1 hn2 hp

theorem bytes_take {w : World} {a : Option Addr} {len : Nat} {L : List Int} (h : Bytes w a len L) (p : Nat) (hp : p ≤ len) : Bytes w a p (L.take p) := by
  have h1 := h.1
  refine ⟨by simp; omega, fun i => ?_, fun h0 => ?_⟩
  · by_cases hi : i < p
    · have := h.2.1 i
      simpa only [List.getD, List.getElem?_take, if_pos hi] using this
    · simp [List.getD, List.getElem?_take, hi]
  · obtain ⟨b, off, e, hlt, hc⟩ := h.2.2 (by omega)
    refine ⟨b, off, e, hlt, fun i hi => ?_⟩
    rw [hc i (by omega)]
    simp only [List.getD, List.getElem?_take, if_pos hi]
theorem bytes_drop {w : World} {b off len : Nat} {L : List Int} (h : Bytes w (some ⟨b, off, none⟩) len L) (p : Nat) (hp : p ≤ len) : Bytes w (some ⟨b, off + p, none⟩) (len - p) (L.drop p) := by
  have h1 := h.1
  have hg : ∀ i, (L.drop p).getD i 0 = L.getD (p + i) 0 := fun i => by simp only [List.getD, List.getElem?_drop]
  refine ⟨by simp; omega, fun i => ?_, fun h0 => ?_⟩
  · rw [hg]; exact h.2.1 _
  · obtain ⟨b', off', e, hlt, hc⟩ := h.2.2 (by omega)
    simp only [Option.some.injEq, Addr.mk.injEq, and_true] at e
    obtain ⟨rfl, rfl⟩ := e
    refine ⟨b, off + p, rfl, hlt, fun i hi => ?_⟩
    rw [hg, ← hc (p + i) (by omega), Nat.add_assoc]
theorem bytes_drewN {w : World} {a : Option Addr} {len : Nat} {L : List Int} (h : Bytes w a len L) (m : Nat) : Bytes (w.drewN m) a len L := h
theorem splice_take (L cs : List Int) (p : Nat) (h : p ≤ L.length) : (splice L p cs).take p = L.take p := by
  rw [splice, List.take_append_of_le_length (by simp; omega), List.take_take, Nat.min_self]
theorem splice_drop (L cs : List Int) (p K : Nat) (hK : cs.length = K) (h : p + K ≤ L.length) : (splice L p cs).drop (p + K) = L.drop (p + K) := by
  subst hK
  have h1 : (L.take p).length = p := by simp; omega
  rw [splice, ← List.append_assoc, List.drop_append_of_le_length (by simp; omega), List.drop_eq_nil_of_le (by simp; omega), List.nil_append]

set_option maxHeartbeats 1000000 in
theorem back_any (a : Option Addr) (len cap : Nat) (L : List Int) (q n x : Int) (w : World) (hb : Bytes w a len L) (hl : len ≤ 3000) (hq : 0 ≤ q ∧ q ≤ 65535) (hx : 0 ≤ x ∧ x ≤ 18446744073709551615) (K : Nat) (hK1 : 1 ≤ K) (hK2 : K ≤ 8) (hK : bits .and .i64 n 7 = (K : Int) - 1) (hKl : K ≤ len)
    (p : Nat) (hp : p + K ≤ len) (hpq : q % ((len : Int) - K + 1) = (p : Int)) :
    Calls Try.prog 5 #[.slice a len cap, .int .u16 q, .int .i64 n, .int .u64 x] w fun e w' => e = .returned (.bool true) ∧ Below w.heap.size w w' := by
  have hLl := hb.1
  go_enter Try.func5, Try.ntmps5
  go_wp2_with (first | (go_at_call 9; refine (awake_any _).mono ?_; rintro e w1 ⟨rfl, hb1⟩; have hB1 := hb.below hb1; have hcv1 := conv_bytes hB1 cap) | (go_at_call 12; refine (set_ok a len cap L p K x _ hB1 (by omega) hK1 hK2 hp hx.1 hx.2).mono ?_; rintro e w2 ⟨g, rfl, ho⟩))
  have hbel := hb1.trans (ho.2.2.mono hb1.size)
  have hcv2 := conv_bytes (hb.below hbel) cap
  have hB2 := ho.bytes (splice_bd _ _ _ hb.2.1 (bytesOf_bd _ _))
  have hnum := num_splice L p K x (by omega)
  have hsh := shift_back x K hK1 hK2 hx
  generalize x % 2 ^ (8 * K) = Y at hnum hsh
  refine (get_set _ len len _ p K _ _ hB2 (by unfold maxLen; omega) hK1 hK2 hp rfl Y hnum).mono ?_
  rintro e w3 ⟨rfl, rfl⟩
  have hcA : ∀ m, (convert 22 9 (.slice (some ⟨g, 0, none⟩) p len)).run Try.prog (w2.drewN m) = .ok (.string (strOfNums (L.take p))) (w2.drewN m) := fun m => by
    have := conv_bytes (bytes_drewN (bytes_take hB2 p (by omega)) m) len
    rwa [splice_take _ _ _ (by omega)] at this
  have hS : (strOfNums L).size = len := by rw [strOfNums_size]; exact hLl
  have hT := str_take L p (by omega)
  have hD := str_drop L (p + K) len hLl
  generalize strOfNums L = S at hcv2 hS hT hD
  clear ho hcv1 hB1 hb hb1
  have hple : p ≤ len := by omega
  have hwr : IntKind.i64.wrap ((p : Int) + (K : Int)) = ((p + K : Nat) : Int) := by rw [IntKind.wrap_i64]; omega
  by_cases hend : p + K = len
  · have hcz : ∀ a c m, (convert 22 9 (.slice a 0 c)).run Try.prog (w2.drewN m) = .ok (.string ByteArray.empty) (w2.drewN m) := fun a c m => conv_zero _ a c
    have hD' : S.extract len len = ByteArray.empty := by
      rw [hend] at hD
      rw [hD, List.drop_eq_nil_of_le (by omega)]
      rfl
    clear hD
    go_wp2
    go_quiet (fail)
    go_wp2
    go_ret
    exact ⟨rfl, below_drewN hbel nq⟩
  · have hlt : p + K < len := by omega
    have hcB : ∀ m, (convert 22 9 (.slice (some ⟨g, p + K, none⟩) (len - (p + K)) (len - (p + K)))).run Try.prog (w2.drewN m) = .ok (.string (strOfNums (L.drop (p + K)))) (w2.drewN m) := fun m => by
      have := conv_bytes (bytes_drewN (bytes_drop hB2 (p + K) hp) m) (len - (p + K))
      rwa [splice_drop _ _ _ _ (length_bytesOf x K) (by omega), Nat.zero_add] at this
    go_wp2
    go_quiet (fail)
    go_wp2
    go_ret
    exact ⟨rfl, below_drewN hbel nq⟩


set_option maxHeartbeats 400000 in
theorem back_long (a : Option Addr) (len cap : Nat) (q n x : Int) (w : World) (hm : len ≤ maxLen) (hl : 3000 < (len : Int)) (K : Nat) (hK1 : 1 ≤ K) (hK2 : K ≤ 8) (hK : bits .and .i64 n 7 = (K : Int) - 1) :
    Calls Try.prog 5 #[.slice a len cap, .int .u16 q, .int .i64 n, .int .u64 x] w fun e w' => e = .returned (.bool true) ∧ Below w.heap.size w w' := by
  unfold maxLen at hm
  go_enter Try.func5, Try.ntmps5
  go_wp2_with (go_at_call 9; refine (awake_any _).mono ?_; rintro e w1 ⟨rfl, hb1⟩)
  go_ret
  exact ⟨rfl, hb1⟩

set_option maxHeartbeats 400000 in
theorem back_short (a : Option Addr) (len cap : Nat) (q n x : Int) (w : World) (hl : len ≤ 3000) (K : Nat) (hK1 : 1 ≤ K) (hK2 : K ≤ 8) (hK : bits .and .i64 n 7 = (K : Int) - 1) (hlt : len < K) :
    Calls Try.prog 5 #[.slice a len cap, .int .u16 q, .int .i64 n, .int .u64 x] w fun e w' => e = .returned (.bool true) ∧ Below w.heap.size w w' := by
  have h3 : ¬ 3000 < (len : Int) := by omega
  go_enter Try.func5, Try.ntmps5
  go_wp2_with (go_at_call 9; refine (awake_any _).mono ?_; rintro e w1 ⟨rfl, hb1⟩)
  go_ret
  exact ⟨rfl, hb1⟩

end Go.Proofs.Ytkbbknbdkbcaeaa
