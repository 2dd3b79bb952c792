/-
  What Add of package word answers, for every list of numbers. And what follows it.
-/
import Derived.Test.YtipdaaajnbjnjaaDoorO02
import Derived.Deep.QuietTactic
import Derived.BigQuiet
import Derived.Test.YtipdaaajnbjnjaaDoorO29
namespace Go.Proofs.YtipdaaajnbjnjaaDoor
set_option maxRecDepth 100000
set_option linter.unusedVariables false
open Go.RowKit Plain
/-- The numbers L stand, one behind the other, where a slice's address says. -/
def Nums (w : World) (a : Option Addr) (len : Nat) (L : List Int) : Prop :=
  L.length = len ∧ (∀ i, 0 ≤ L.getD i 0 ∧ L.getD i 0 ≤ 18446744073709551615) ∧ (0 < len → ∃ b off, a = some ⟨b, off, none⟩ ∧ b < w.heap.size ∧ ∀ i, i < len → w.cell? ⟨b, off + i, none⟩ = some (.int .u64 (L.getD i 0)))
theorem Nums.below {w w' : World} {a : Option Addr} {len : Nat} {L : List Int} (h : Nums w a len L) (hb : Below w.heap.size w w') : Nums w' a len L := by
  refine ⟨h.1, h.2.1, fun hp => ?_⟩
  obtain ⟨b, off, e, hlt, hc⟩ := h.2.2 hp
  exact ⟨b, off, e, Nat.lt_of_lt_of_le hlt hb.size, fun i hi => (hb.cell hlt).trans (hc i hi)⟩
def sumTo (L : List Int) : Nat → Int
  | 0 => 0
  | k + 1 => sumTo L k + L.getD k 0
theorem sumTo_mono (L : List Int) (hL : ∀ i, 0 ≤ L.getD i 0 ∧ L.getD i 0 ≤ 18446744073709551615) (k n : Nat) (h : k ≤ n) : sumTo L k ≤ sumTo L n := by
  induction n with
  | zero => rw [Nat.le_zero.1 h]; exact Int.le_refl _
  | succ n ih =>
    by_cases e : k = n + 1
    · rw [e]; exact Int.le_refl _
    · have := ih (by omega)
      have := hL n
      rw [sumTo]; omega
theorem sumTo_nonneg (L : List Int) (hL : ∀ i, 0 ≤ L.getD i 0 ∧ L.getD i 0 ≤ 18446744073709551615) (k : Nat) : 0 ≤ sumTo L k := sumTo_mono L hL 0 k (Nat.zero_le _)
theorem wrap_over (s z : Int) (hs : 0 ≤ s ∧ s ≤ 18446744073709551615) (hz : 0 ≤ z ∧ z ≤ 18446744073709551615) (h : 18446744073709551615 < s + z) : IntKind.u64.wrap (s + z) < z := by
  rw [IntKind.wrap_u64]; omega
def addEnd (s : Int) : Ending := if s ≤ 18446744073709551615 then .returned (.tuple #[.int .u64 s, .bool true]) else .returned (.tuple #[.int .u64 0, .bool false])
theorem addEnd_ok {s : Int} (h : s ≤ 18446744073709551615) : addEnd s = .returned (.tuple #[.int .u64 s, .bool true]) := if_pos h
theorem addEnd_no {s : Int} (h : 18446744073709551615 < s) : addEnd s = .returned (.tuple #[.int .u64 0, .bool false]) := if_neg (by omega)
set_option maxHeartbeats 400000 in
theorem add_any (a : Option Addr) (len cap : Nat) (L : List Int) (w : World) (hb : Nums w a len L) (hl : len ≤ maxLen) :
    Calls Tryd.prog 68 #[.slice a len cap] w fun e w' => e = addEnd (sumTo L len) ∧ w = w' := by
  obtain ⟨hL, hz, hc⟩ := hb
  have hl' := hl
  unfold maxLen at hl'
  go_enter Tryd.func68, Tryd.ntmps68
  go_wp2
  go_loop [4, 9] (fun t i => ∃ k : Nat, k ≤ len ∧ i = .int .i64 k ∧ sumTo L k ≤ 18446744073709551615 ∧ t = .int .u64 (sumTo L k)) (fun _ i => len - (intOf i).toNat)
  case atStart => exact ⟨0, Nat.zero_le _, rfl, by simp [sumTo], rfl⟩
  case round =>
    obtain ⟨k, hk, rfl, hs, rfl⟩ := hrel
    by_cases hlt : k < len
    · obtain ⟨b, off, rfl, hlt', hc⟩ := hc (by omega)
      have hck := hc k hlt
      have hzk := hz k
      have hnn := sumTo_nonneg L hz k
      have hsu : sumTo L (k + 1) = sumTo L k + L.getD k 0 := rfl
      have HM : Hid (sumTo L (k + 1) ≤ sumTo L len) := sumTo_mono L hz (k + 1) len hlt
      generalize L.getD k 0 = z at hck hzk hsu
      have HS : Hid (sumTo L (k + 1) = sumTo L k + z) := hsu
      clear hsu hc hz
      generalize hgen : sumTo L k = s at hs hnn HS
      clear hgen
      by_cases ho : s + z ≤ 18446744073709551615
      · have hno : ¬ s + z < z := by omega
        go_wp2
        go_round
        case rel => exact ⟨k + 1, by omega, by go_num, by rw [HS.out]; exact ho, by rw [HS.out]⟩
        case measure => simp [intOf]; omega
      · have hov := wrap_over s z ⟨hnn, hs⟩ hzk (by omega)
        have HF : Hid (18446744073709551615 < sumTo L len) := by have h1 := HM.out; have h2 := HS.out; show _ < _; omega
        go_wp2
        go_ret2
        exact ⟨by rw [addEnd_no HF.out]; rfl, rfl⟩
    · obtain rfl : k = len := by omega
      have HF : Hid (sumTo L k ≤ 18446744073709551615) := hs
      clear hc hz
      go_wp2
      go_ret2
      exact ⟨by rw [addEnd_ok HF.out]; rfl, rfl⟩
/-- Two numbers, in a block of their own. -/
theorem add2 (W : World) (N : Nat) (hN : N = W.heap.size) (a b : Int) (ha : 0 ≤ a ∧ a ≤ 18446744073709551615) (hb : 0 ≤ b ∧ b ≤ 18446744073709551615) :
    Calls Tryd.prog 68 #[.slice (some ⟨N, 0, none⟩) 2 2] (W.alloc (.cells #[.int .u64 a, .int .u64 b] 24)) fun e w' => e = addEnd (a + b) ∧ W.alloc (.cells #[.int .u64 a, .int .u64 b] 24) = w' := by
  subst hN
  have hr : (W.alloc (.cells #[.int .u64 a, .int .u64 b] 24)).heap[W.heap.size]? = some (.cells #[.int .u64 a, .int .u64 b] 24 (0, 0)) := al_at rfl
  have hn : Nums (W.alloc (.cells #[.int .u64 a, .int .u64 b] 24)) (some ⟨W.heap.size, 0, none⟩) 2 [a, b] := by
    refine ⟨rfl, fun i => ?_, fun _ => ⟨W.heap.size, 0, rfl, (Array.getElem?_eq_some_iff.1 hr).1, fun i hi => ?_⟩⟩
    · match i with
      | 0 => exact ha
      | 1 => exact hb
      | i + 2 => simp
    · rw [cell_of_row _ _ _ _ _ _ hr]
      match i, hi with
      | 0, _ => rfl
      | 1, _ => rfl
  have := add_any _ 2 2 _ _ hn (by unfold maxLen; omega)
  have e : sumTo [a, b] 2 = a + b := by simp [sumTo]
  rw [e] at this
  exact this
end Go.Proofs.YtipdaaajnbjnjaaDoor
namespace Go.Proofs.YtipdaaajnbjnjaaDoor
set_option maxRecDepth 100000
set_option linter.unusedVariables false
open Go.RowKit Plain
attribute [local go_sem] Oper.semAt_some
theorem none_no {w : World} {J D : Nat} {j : Jt} (h : Jrd w J D j) (hz : 1 ≤ j.size) : Calls Tryd.prog 38 #[.pointer (some ⟨J, 0, none⟩)] w fun e w' => e = .returned (.bool false) ∧ w = w' := by
  have c := h.size
  have hne : ((j.size : Int) == 0) = false := by simp; omega
  clear h hz
  go_enter Tryd.func38, Tryd.ntmps38
  go_wp2
  go_ret
  exact ⟨rfl, rfl⟩
theorem none_nil (w : World) : Calls Tryd.prog 38 #[.pointer none] w fun e w' => e = .returned (.bool true) ∧ w = w' := by
  go_enter Tryd.func38, Tryd.ntmps38
  go_wp2
  go_ret
  exact ⟨rfl, rfl⟩
/-- May a state be? -/
def may (n : Nat) (s : Jst) : Bool := decide (s.start < n) && decide (s.count ≤ n)
theorem mayBe_any {w : World} {J D : Nat} {j : Jt} (h : Jrd w J D j) (s : Jst) (hlt : J < w.heap.size) : Calls Tryd.prog 32 #[.pointer (some ⟨J, 0, none⟩), .agg (sa s)] w fun e w' => e = .returned (.bool (may j.size s)) ∧ Below w.heap.size w w' := by
  have HL : Box (Below w.heap.size w (w.alloc (.cells (sa s) 26))) := ⟨(Below.refl _ w).alloc (Nat.le_refl _) _⟩
  have hr : (w.alloc (.cells (sa s) 26)).heap[w.heap.size]? = some (.cells (sa s) 26 (0, 0)) := al_at rfl
  have k1 : (w.alloc (.cells (sa s) 26)).cell? ⟨w.heap.size, 0, none⟩ = some (.int .u64 (s.start : Int)) := by rw [cell_of_row _ _ _ _ _ _ hr]; rfl
  have k2 : (w.alloc (.cells (sa s) 26)).cell? ⟨w.heap.size, 1, none⟩ = some (.int .u64 (s.count : Int)) := by rw [cell_of_row _ _ _ _ _ _ hr]; rfl
  have k3 : (w.alloc (.cells (sa s) 26)).cell? ⟨J, 34, none⟩ = some (.int .u64 (j.size : Int)) := (HL.out.cell hlt).trans h.size
  obtain ⟨S, hS⟩ : ∃ S, w.heap.size = S := ⟨_, rfl⟩
  rw [hS] at k1 k2
  have HS : Box (w.heap.size = S) := ⟨hS⟩
  clear h hS hr hlt
  by_cases h1 : s.start < j.size
  · have d1 : decide (s.start < j.size) = true := by simpa using h1
    by_cases h2 : s.count ≤ j.size
    · have d2 : decide (s.count ≤ j.size) = true := by simpa using h2
      have HM : Box (may j.size s = true) := ⟨by simp [may, h1, h2]⟩
      clear h1 h2
      go_enter Tryd.func32, Tryd.ntmps32
      go_upto_region 1 with fail
      rw [HS.out]
      generalize w.alloc (.cells (sa s) 26) = w1 at HL k1 k2 k3 ⊢
      go_quiet (fail)
      go_wp2
      go_ret
      exact ⟨by rw [HM.out]; rfl, below_drewN HL.out _⟩
    · have d2 : decide (s.count ≤ j.size) = false := by simpa using h2
      have HM : Box (may j.size s = false) := ⟨by simp [may, h2]⟩
      clear h1 h2
      go_enter Tryd.func32, Tryd.ntmps32
      go_upto_region 1 with fail
      rw [HS.out]
      generalize w.alloc (.cells (sa s) 26) = w1 at HL k1 k2 k3 ⊢
      go_quiet (fail)
      go_wp2
      go_ret
      exact ⟨by rw [HM.out]; rfl, below_drewN HL.out _⟩
  · have d1 : decide (s.start < j.size) = false := by simpa using h1
    have HM : Box (may j.size s = false) := ⟨by simp [may, h1]⟩
    clear h1
    go_enter Tryd.func32, Tryd.ntmps32
    go_upto_region 1 with fail
    rw [HS.out]
    generalize w.alloc (.cells (sa s) 26) = w1 at HL k1 k2 k3 ⊢
    go_quiet (fail)
    go_wp2
    go_ret
    exact ⟨by rw [HM.out]; rfl, below_drewN HL.out _⟩
theorem rest_any {w : World} {J D : Nat} {j : Jt} (h : Jrd w J D j) (hz : 1 ≤ j.size) (k : Nat) (k' : Int) (hk : k' = (k : Int)) : Calls Tryd.prog 39 #[.pointer (some ⟨J, 0, none⟩), .int .u64 k'] w fun e w' => e = .returned (.int .u64 ((k % j.size : Nat) : Int)) ∧ w = w' := by
  subst hk
  have c := h.size
  have hne : (j.size : Int) ≠ 0 := by omega
  obtain ⟨m, hm⟩ : ∃ m, k % j.size = m := ⟨_, rfl⟩
  have ht : (k : Int).tmod (j.size : Int) = (m : Int) := by rw [← hm]; rfl
  have ht2 : (k : Int) % (j.size : Int) = (m : Int) := by rw [← hm]; rfl
  rw [hm]
  clear h hz hm
  go_enter Tryd.func39, Tryd.ntmps39
  go_wp2
  go_ret
  exact ⟨rfl, rfl⟩
/-- The place of the ring's place k. -/
def plc (j : Jt) (k : Nat) : Nat := j.first + k % j.size
theorem plc_lt (j : Jt) (k : Nat) (h : 1 ≤ j.size) : plc j k < j.first + j.size := by
  have := Nat.mod_lt k h
  unfold plc
  omega
set_option maxHeartbeats 1000000 in
theorem place_any {w : World} {J D : Nat} {j : Jt} (h : Jrd w J D j) (ok : j.Ok) (hlt : J < w.heap.size) (k : Nat) (k' : Int) (hk : k' = (k : Int)) : Calls Tryd.prog 48 #[.pointer (some ⟨J, 0, none⟩), .int .u64 k'] w fun e w' => e = .returned (.int .u32 (plc j k : Int)) ∧ Below w.heap.size w w' := by
  subst hk
  have c := h.first
  have hlo := ok.lo
  have hhi := ok.hi
  have hm := Nat.mod_lt k hlo
  have HR : Box (∀ n, Calls Tryd.prog 39 #[.pointer (some ⟨J, 0, none⟩), .int .u64 (k : Int)] (w.drewN n) fun e w' => e = .returned (.int .u64 ((k % j.size : Nat) : Int)) ∧ w' = w.drewN n) := ⟨fun n => by
    have hj : Jrd (w.drewN n) J D j := ⟨h.disk, h.key, h.first, h.size, h.st, h.start, h.count, h.nx, h.lim⟩
    exact (rest_any hj hlo k _ rfl).mono fun _ _ ⟨h1, h2⟩ => ⟨h1, h2.symm⟩⟩
  have HP : Box (plc j k = j.first + k % j.size) := ⟨rfl⟩
  have hw1 : IntKind.u64.wrap ((j.first : Int) + ((k % j.size : Nat) : Int)) = ((j.first + k % j.size : Nat) : Int) := by rw [IntKind.wrap_u64]; omega
  have hw2 : IntKind.u32.wrap ((j.first + k % j.size : Nat) : Int) = ((j.first + k % j.size : Nat) : Int) := by rw [IntKind.wrap_u32]; omega
  rw [HP.out]
  generalize k % j.size = m at *
  clear h ok hlt
  go_enter Tryd.func48, Tryd.ntmps48
  go_upto_region 1 with fail
  go_quiet (first | (go_at_call 39; exact Calls.quiet_of_same (HR.out _)))
  go_wp2
  go_ret
  exact ⟨by first | rfl | (congr 1) | skip, below_drewN (Below.refl _ _) nq⟩
set_option maxHeartbeats 1000000 in
theorem room_any {w : World} {J D : Nat} {j : Jt} (h : Jrd w J D j) (ok : j.Ok) : Calls Tryd.prog 16 #[.pointer (some ⟨J, 0, none⟩)] w fun e w' => e = .returned (.int .u64 ((j.size - j.st.count : Nat) : Int)) ∧ ∃ n, w' = w.drewN n := by
  have HN : Box (∀ x, x = w → Calls Tryd.prog 38 #[.pointer (some ⟨J, 0, none⟩)] x fun e w' => e = .returned (.bool false) ∧ x = w') := ⟨fun x hx => by rw [hx]; exact none_no h ok.lo⟩
  have c1 := h.size
  have c2 := h.count
  have hlo := ok.lo
  have hhi := ok.hi
  have hcl := ok.cl
  have hw1 : IntKind.u64.wrap ((j.size : Int) - (j.st.count : Int)) = ((j.size - j.st.count : Nat) : Int) := by rw [IntKind.wrap_u64]; omega
  clear h ok
  go_enter Tryd.func16, Tryd.ntmps16
  go_upto_region 3 with (go_at_call 38; refine (HN.out _ rfl).mono ?_; rintro e x1 ⟨rfl, rfl⟩)
  go_quiet (fail)
  go_wp2
  go_ret
  exact ⟨rfl, nq, rfl⟩
theorem room_nil (w : World) : Calls Tryd.prog 16 #[.pointer none] w fun e w' => e = .returned (.int .u64 0) ∧ w = w' := by
  go_enter Tryd.func16, Tryd.ntmps16
  go_wp2_with (go_at_call 38; refine (none_nil _).mono ?_; rintro e x1 ⟨rfl, rfl⟩)
  go_ret
  exact ⟨rfl, rfl⟩
end Go.Proofs.YtipdaaajnbjnjaaDoor
