/-
 What Add of package word answers, for every list of numbers. And what follows it.
-/
import Derived.Test.YthfobaeafapbnaaDoorQ01
import Derived.Test.YthfobaeafapbnaaDoorQ00
import Derived.Deep.QuietTactic
import Derived.BigQuiet
import Derived.Test.YthfobaeafapbnaaDoorQ24
set_option linter.unusedVariables false
set_option maxRecDepth 100000
namespace Go.Proofs.YthfobaeafapbnaaDoor
open Go.RowKit Plain
def Nums (w : World) (a : Option Addr) (len : Nat) (L : List Int) : Prop :=
 L.length = len /\ (∀ i, 0 <= L.getD i 0 /\ L.getD i 0 <= 18446744073709551615) /\ (0 < len -> ∃ b off, a = some ⟨b, off, none⟩ /\ b < w.heap.size /\ ∀ i, i < len -> w.cell? ⟨b, off + i, none⟩ = some (.int .u64 (L.getD i 0)))
def sumTo (L : List Int) : Nat -> Int
 | 0 => 0
 | k + 1 => sumTo L k + L.getD k 0
theorem sumTo_mono (L : List Int) (hL : ∀ i, 0 <= L.getD i 0 /\ L.getD i 0 <= 18446744073709551615) (k n : Nat) (h : k <= n) : sumTo L k <= sumTo L n := by
 induction n with
 | zero => rw [Nat.le_zero.1 h]; exact Int.le_refl _
 | succ n ih =>
  by_cases e : k = n + 1
  ·rw [e]; exact Int.le_refl _
  ·have := ih (by omega)
   have := hL n
   rw [sumTo]; omega
theorem sumTo_nonneg (L : List Int) (hL : ∀ i, 0 <= L.getD i 0 /\ L.getD i 0 <= 18446744073709551615) (k : Nat) : 0 <= sumTo L k := sumTo_mono L hL 0 k (Nat.zero_le _)
theorem wrap_over (s z : Int) (hs : 0 <= s /\ s <= 18446744073709551615) (hz : 0 <= z /\ z <= 18446744073709551615) (h : 18446744073709551615 < s + z) : IntKind.u64.wrap (s + z) < z := by
 rw [IntKind.wrap_u64]; omega
def addEnd (s : Int) : Ending := if s <= 18446744073709551615 then .returned (.tuple #[.int .u64 s, .bool true]) else .returned (.tuple #[.int .u64 0, .bool false])
theorem addEnd_ok {s : Int} (h : s <= 18446744073709551615) : addEnd s = .returned (.tuple #[.int .u64 s, .bool true]) := if_pos h
theorem addEnd_no {s : Int} (h : 18446744073709551615 < s) : addEnd s = .returned (.tuple #[.int .u64 0, .bool false]) := if_neg (by omega)
set_option maxHeartbeats 400000 in
theorem add_any (a : Option Addr) (len cap : Nat) (L : List Int) (w : World) (hb : Nums w a len L) (hl : len <= maxLen) :
  Calls Tryd.prog 54 #[.slice a len cap] w fun e w' => e = addEnd (sumTo L len) /\ w = w' := by
 obtain ⟨hL, hz, hc⟩ := hb
 have hl' := hl
 unfold maxLen at hl'
 go_enter Tryd.func54, Tryd.ntmps54
 go_wp2
 go_loop [4, 9] (fun t i => ∃ k : Nat, k <= len /\ i = .int .i64 k /\ sumTo L k <= 18446744073709551615 /\ t = .int .u64 (sumTo L k)) (fun _ i => len - (intOf i).toNat)
 case atStart => exact ⟨0, Nat.zero_le _, rfl, by simp [sumTo], rfl⟩
 case round =>
  obtain ⟨k, hk, rfl, hs, rfl⟩ := hrel
  by_cases hlt : k < len
  ·obtain ⟨b, off, rfl, hlt', hc⟩ := hc (by omega)
   have hck := hc k hlt
   have hzk := hz k
   have hnn := sumTo_nonneg L hz k
   have hsu : sumTo L (k + 1) = sumTo L k + L.getD k 0 := rfl
   have HM : Hid (sumTo L (k + 1) <= sumTo L len) := sumTo_mono L hz (k + 1) len hlt
   generalize L.getD k 0 = z at hck hzk hsu
   have HS : Hid (sumTo L (k + 1) = sumTo L k + z) := hsu
   clear hsu hc hz
   generalize hgen : sumTo L k = s at hs hnn HS
   clear hgen
   by_cases ho : s + z <= 18446744073709551615
   ·have hno : ¬ s + z < z := by omega
    go_wp2
    go_round
    case rel => exact ⟨k + 1, by omega, by go_num, by rw [HS.out]; exact ho, by rw [HS.out]⟩
    case measure => simp [intOf]; omega
   ·have hov := wrap_over s z ⟨hnn, hs⟩ hzk (by omega)
    have HF : Hid (18446744073709551615 < sumTo L len) := by have h1 := HM.out; have h2 := HS.out; show _ < _; omega
    go_wp2
    go_ret2
    exact ⟨by rw [addEnd_no HF.out]; rfl, rfl⟩
  ·obtain rfl : k = len := by omega
   have HF : Hid (sumTo L k <= 18446744073709551615) := hs
   clear hc hz
   go_wp2
   go_ret2
   exact ⟨by rw [addEnd_ok HF.out]; rfl, rfl⟩
theorem add2 (W : World) (N : Nat) (hN : N = W.heap.size) (a b : Int) (ha : 0 <= a /\ a <= 18446744073709551615) (hb : 0 <= b /\ b <= 18446744073709551615) :
  Calls Tryd.prog 54 #[.slice (some ⟨N, 0, none⟩) 2 2] (W.alloc (.cells #[.int .u64 a, .int .u64 b] 24)) fun e w' => e = addEnd (a + b) /\ W.alloc (.cells #[.int .u64 a, .int .u64 b] 24) = w' := by
 subst hN
 have hr : (W.alloc (.cells #[.int .u64 a, .int .u64 b] 24)).heap[W.heap.size]? = some (.cells #[.int .u64 a, .int .u64 b] 24 (0, 0)) := al_at rfl
 have hn : Nums (W.alloc (.cells #[.int .u64 a, .int .u64 b] 24)) (some ⟨W.heap.size, 0, none⟩) 2 [a, b] := by
  refine ⟨rfl, fun i => ?_, fun _ => ⟨W.heap.size, 0, rfl, (Array.getElem?_eq_some_iff.1 hr).1, fun i hi => ?_⟩⟩
  ·match i with
   | 0 => exact ha
   | 1 => exact hb
   | i + 2 => simp
  ·rw [cell_of_row _ _ _ _ _ _ hr]
   match i, hi with
   | 0, _ => rfl
   | 1, _ => rfl
 have := add_any _ 2 2 _ _ hn (by unfold maxLen; omega)
 have e : sumTo [a, b] 2 = a + b := by simp [sumTo]
 rw [e] at this
 exact this
attribute [local go_sem] Oper.semAt_some
theorem none_no {w : World} {J D : Nat} {j : Jt} (h : Jrd w J D j) (hz : 1 <= j.size) : Calls Tryd.prog 30 #[.pointer (some ⟨J, 0, none⟩)] w fun e w' => e = .returned (.bool false) /\ w = w' := by
 have c := h.size
 have hne : ((j.size : Int) == 0) = false := by simp; omega
 clear h hz
 go_enter Tryd.func30, Tryd.ntmps30
 go_wp2
 go_ret
 exact ⟨rfl, rfl⟩
def may (n : Nat) (s : Jst) : Bool := decide (s.start < n) && decide (s.count <= n)
theorem mayBe_any {w : World} {J D : Nat} {j : Jt} (h : Jrd w J D j) (s : Jst) (hlt : J < w.heap.size) : Calls Tryd.prog 21 #[.pointer (some ⟨J, 0, none⟩), .agg (sa s)] w fun e w' => e = .returned (.bool (may j.size s)) /\ Below w.heap.size w w' := by
 have HL : Box (Below w.heap.size w (w.alloc (.cells (sa s) 26))) := ⟨(Below.refl _ w).alloc (Nat.le_refl _) _⟩
 have hr : (w.alloc (.cells (sa s) 26)).heap[w.heap.size]? = some (.cells (sa s) 26 (0, 0)) := al_at rfl
 have k1 : (w.alloc (.cells (sa s) 26)).cell? ⟨w.heap.size, 0, none⟩ = some (.int .u64 (s.start : Int)) := by rw [cell_of_row _ _ _ _ _ _ hr]; rfl
 have k2 : (w.alloc (.cells (sa s) 26)).cell? ⟨w.heap.size, 1, none⟩ = some (.int .u64 (s.count : Int)) := by rw [cell_of_row _ _ _ _ _ _ hr]; rfl
 have k3 : (w.alloc (.cells (sa s) 26)).cell? ⟨J, 34, none⟩ = some (.int .u64 (j.size : Int)) := (HL.out.cell hlt).trans h.size
 obtain ⟨S, hS⟩ : ∃ S, w.heap.size = S := ⟨_, rfl⟩
 rw [hS] at k1 k2
 have HS : Box (w.heap.size = S) := ⟨hS⟩
 clear h hS hr hlt
 by_cases h1 : s.start < j.size
 ·have d1 : decide (s.start < j.size) = true := by simpa using h1
  by_cases h2 : s.count <= j.size
  ·have d2 : decide (s.count <= j.size) = true := by simpa using h2
   have HM : Box (may j.size s = true) := ⟨by simp [may, h1, h2]⟩
   clear h1 h2
   go_enter Tryd.func21, Tryd.ntmps21
   go_upto_region 1 with fail
   rw [HS.out]
   generalize w.alloc (.cells (sa s) 26) = w1 at HL k1 k2 k3 ⊢
   go_quiet (fail)
   go_wp2
   go_ret
   exact ⟨by rw [HM.out]; rfl, below_drewN HL.out _⟩
  ·have d2 : decide (s.count <= j.size) = false := by simpa using h2
   have HM : Box (may j.size s = false) := ⟨by simp [may, h2]⟩
   clear h1 h2
   go_enter Tryd.func21, Tryd.ntmps21
   go_upto_region 1 with fail
   rw [HS.out]
   generalize w.alloc (.cells (sa s) 26) = w1 at HL k1 k2 k3 ⊢
   go_quiet (fail)
   go_wp2
   go_ret
   exact ⟨by rw [HM.out]; rfl, below_drewN HL.out _⟩
 ·have d1 : decide (s.start < j.size) = false := by simpa using h1
  have HM : Box (may j.size s = false) := ⟨by simp [may, h1]⟩
  clear h1
  go_enter Tryd.func21, Tryd.ntmps21
  go_upto_region 1 with fail
  rw [HS.out]
  generalize w.alloc (.cells (sa s) 26) = w1 at HL k1 k2 k3 ⊢
  go_quiet (fail)
  go_wp2
  go_ret
  exact ⟨by rw [HM.out]; rfl, below_drewN HL.out _⟩
theorem rest_any {w : World} {J D : Nat} {j : Jt} (h : Jrd w J D j) (hz : 1 <= j.size) (k : Nat) (k' : Int) (hk : k' = (k : Int)) : Calls Tryd.prog 31 #[.pointer (some ⟨J, 0, none⟩), .int .u64 k'] w fun e w' => e = .returned (.int .u64 ((k % j.size : Nat) : Int)) /\ w = w' := by
 subst hk
 have c := h.size
 have hne : (j.size : Int) ≠ 0 := by omega
 obtain ⟨m, hm⟩ : ∃ m, k % j.size = m := ⟨_, rfl⟩
 have ht : (k : Int).tmod (j.size : Int) = (m : Int) := by rw [<- hm]; rfl
 have ht2 : (k : Int) % (j.size : Int) = (m : Int) := by rw [<- hm]; rfl
 rw [hm]
 clear h hz hm
 go_enter Tryd.func31, Tryd.ntmps31
 go_wp2
 go_ret
 exact ⟨rfl, rfl⟩
def plc (j : Jt) (k : Nat) : Nat := j.first + k % j.size
theorem plc_lt (j : Jt) (k : Nat) (h : 1 <= j.size) : plc j k < j.first + j.size := by
 have := Nat.mod_lt k h
 unfold plc
 omega
set_option maxHeartbeats 1000000 in
theorem place_any {w : World} {J D : Nat} {j : Jt} (h : Jrd w J D j) (ok : j.Ok) (hlt : J < w.heap.size) (k : Nat) (k' : Int) (hk : k' = (k : Int)) : Calls Tryd.prog 38 #[.pointer (some ⟨J, 0, none⟩), .int .u64 k'] w fun e w' => e = .returned (.int .u32 (plc j k : Int)) /\ Below w.heap.size w w' := by
 subst hk
 have c := h.first
 have hlo := ok.lo
 have hhi := ok.hi
 have hm := Nat.mod_lt k hlo
 have HR : Box (∀ n, Calls Tryd.prog 31 #[.pointer (some ⟨J, 0, none⟩), .int .u64 (k : Int)] (w.drewN n) fun e w' => e = .returned (.int .u64 ((k % j.size : Nat) : Int)) /\ w' = w.drewN n) := ⟨fun n => by
  have hj : Jrd (w.drewN n) J D j := ⟨h.disk, h.key, h.first, h.size, h.st, h.start, h.count, h.nx, h.lim⟩
  exact (rest_any hj hlo k _ rfl).mono fun _ _ ⟨h1, h2⟩ => ⟨h1, h2.symm⟩⟩
 have HP : Box (plc j k = j.first + k % j.size) := ⟨rfl⟩
 have hw1 : IntKind.u64.wrap ((j.first : Int) + ((k % j.size : Nat) : Int)) = ((j.first + k % j.size : Nat) : Int) := by rw [IntKind.wrap_u64]; omega
 have hw2 : IntKind.u32.wrap ((j.first + k % j.size : Nat) : Int) = ((j.first + k % j.size : Nat) : Int) := by rw [IntKind.wrap_u32]; omega
 rw [HP.out]
 generalize k % j.size = m at *
 clear h ok hlt
 go_enter Tryd.func38, Tryd.ntmps38
 go_upto_region 1 with fail
 go_quiet (first | (go_at_call 31; exact Calls.quiet_of_same (HR.out _)))
 go_wp2
 go_ret
 exact ⟨by first | rfl | (congr 1) | skip, below_drewN (Below.refl _ _) nq⟩
set_option maxHeartbeats 1000000 in
theorem room_any {w : World} {J D : Nat} {j : Jt} (h : Jrd w J D j) (ok : j.Ok) : Calls Tryd.prog 12 #[.pointer (some ⟨J, 0, none⟩)] w fun e w' => e = .returned (.int .u64 ((j.size - j.st.count : Nat) : Int)) /\ ∃ n, w' = w.drewN n := by
 have HN : Box (∀ x, x = w -> Calls Tryd.prog 30 #[.pointer (some ⟨J, 0, none⟩)] x fun e w' => e = .returned (.bool false) /\ x = w') := ⟨fun x hx => by rw [hx]; exact none_no h ok.lo⟩
 have c1 := h.size
 have c2 := h.count
 have hlo := ok.lo
 have hhi := ok.hi
 have hcl := ok.cl
 have hw1 : IntKind.u64.wrap ((j.size : Int) - (j.st.count : Int)) = ((j.size - j.st.count : Nat) : Int) := by rw [IntKind.wrap_u64]; omega
 clear h ok
 go_enter Tryd.func12, Tryd.ntmps12
 go_upto_region 3 with (go_at_call 30; refine (HN.out _ rfl).mono ?_; rintro e x1 ⟨rfl, rfl⟩)
 go_quiet (fail)
 go_wp2
 go_ret
 exact ⟨rfl, nq, rfl⟩
end Go.Proofs.YthfobaeafapbnaaDoor
namespace Go.Proofs.YthfobaeafapbnaaDoor
open Go.RowKit Plain
attribute [local go_sem] Oper.semAt_some
def Any (w : World) : Prop := True
theorem put4 (x x' : Int) (w : World) (hx : 0 <= x /\ x <= 4294967295) (he : x' = x) :
  Calls Tryd.prog 42 #[.int .u64 x', .int .i64 4] w fun e w' => ∃ g, e = .returned (.slice (some ⟨g, 0, none⟩) 4 4) /\ Bytes w' (some ⟨g, 0, none⟩) 4 (bytesOf x 4) /\ Below w.heap.size w w' :=
 by subst he; exact (put_ok x' 4 w hx.1 (by omega) (by omega) (by omega)).mono fun e w' ⟨g, he, ho⟩ => ⟨g, he, ho.bytes (bytesOf_bd _ 4), ho.2.2⟩
theorem pieces4 (g : Nat) (a1 a2 a3 a4 : Option Addr) (l1 l2 l3 l4 c1 c2 c3 c4 : Nat) (A B C E : List Int) (X : List Int) (w : World) (hT : Dig.Tabs w) (hg : w.heap[g]? = some (.cells #[.slice a1 l1 c1, .slice a2 l2 c2, .slice a3 l3 c3, .slice a4 l4 c4] 63 (0, 0)))
  (hA : Bytes w a1 l1 A) (hB : Bytes w a2 l2 B) (hC : Bytes w a3 l3 C) (hE : Bytes w a4 l4 E) (k1 : l1 <= c1) (k2 : l2 <= c2) (k3 : l3 <= c3) (k4 : l4 <= c4) (m1 : c1 <= 9223372036854775807) (m2 : c2 <= 9223372036854775807) (m3 : c3 <= 9223372036854775807) (m4 : c4 <= 9223372036854775807) (hX : A ++ (B ++ (C ++ E)) = X) (hl : X.length <= 900000) :
  Calls Tryd.prog 41 #[.slice (some ⟨g, 0, none⟩) 4 4] w fun e w' => e = .returned (.agg (u8s (dsha X))) /\ Below w.heap.size w w' := by
 refine Dig.pieces_list [⟨a1, l1, c1, A⟩, ⟨a2, l2, c2, B⟩, ⟨a3, l3, c3, C⟩, ⟨a4, l4, c4, E⟩] g 4 X 63 (0, 0) w hT hg ?_ rfl (by omega) (by simp [Dig.joinTo, <- hX]) hl
 intro p hp
 simp only [List.mem_cons, List.not_mem_nil, or_false] at hp
 rcases hp with rfl | rfl | rfl | rfl
 ·exact ⟨hA, k1, m1⟩
 ·exact ⟨hB, k2, m2⟩
 ·exact ⟨hC, k3, m3⟩
 ·exact ⟨hE, k4, m4⟩
set_option maxHeartbeats 4000000 in
theorem link_any (tag : List Int) (p : Int) (a : Option Addr) (len cap : Nat) (L : List Int) (w : World) (hT : Dig.Tabs w) (ht : tag.length = 32) (htb : Byt tag) (hp : 0 <= p /\ p <= 4294967295) (hb : Bytes w a len L) (hl : len <= 800000) (hc : len <= cap) (hm : cap <= 9223372036854775807) :
  Calls Tryd.prog 19 #[.agg (u8s tag), .int .u32 p, .slice a len cap] w fun e w' => e = .returned (.agg (u8s (lnk tag p L))) /\ Below w.heap.size w w' := by
 unfold lnk
 obtain ⟨X, HX⟩ : ∃ X, Box (dsha (lk tag p L) = X) := ⟨_, ⟨rfl⟩⟩
 have HXs : Box ((u8s X).size = 32) := ⟨by rw [<- HX.out, size_u8s, length_dsha]⟩
 obtain ⟨S, hS⟩ : ∃ S, w.heap.size = S := ⟨_, rfl⟩
 have HQ : Box (Byt [255]) := ⟨byt_cons _ _ (by omega) byt_nil⟩
 have HD : Box (lk tag p L = [255] ++ (tag ++ (bytesOf p 4 ++ L)) /\ (lk tag p L).length <= 900000) := ⟨rfl, by rw [len_lk, hb.1, ht]; omega⟩
 obtain ⟨AT, hAT⟩ : ∃ A, u8s tag = A := ⟨_, rfl⟩
 obtain ⟨w1, hw1⟩ : ∃ w1, (w.alloc (.cells AT 23)).alloc (.cells (u8s z32) 23) = w1 := ⟨_, rfl⟩
 have hb1 : Below w.heap.size w w1 := by rw [<- hw1]; exact ((Below.refl _ _).alloc (Nat.le_refl _) _).alloc (by simp) _
 have r0 : w1.heap[S]? = some (.cells (u8s tag) 23 (0, 0)) := by rw [<- hw1, hAT]; exact al_old (al_at hS)
 have r1 : w1.heap[S + 1]? = some (.cells (u8s z32) 23 (0, 0)) := by rw [<- hw1]; exact al_at (by simp [hS])
 have hbt : Bytes w1 (some ⟨S, 0, none⟩) 32 tag := by have := bytes_of_row htb r0; rwa [ht] at this
 have H1 : Box (∀ x, Below w1.heap.size w1 x -> x.heap[S + 1]? = some (.cells (u8s z32) 23 (0, 0)) /\ Bytes x (some ⟨S, 0, none⟩) 32 tag /\ Dig.Tabs x /\ Bytes x a len L /\ Below w.heap.size w x) := ⟨fun x hx => ⟨(hx.block _ (Array.getElem?_eq_some_iff.1 r1).1).trans r1, hbt.below hx, hT.below (below_to hb1 hx), hb.below (below_to hb1 hx), below_to hb1 hx⟩⟩
 have H0 : Box (len <= cap /\ cap <= 9223372036854775807) := ⟨hc, hm⟩
 have HS : Box (w.heap.size = S /\ w.heap.size <= S + 1) := ⟨hS, by omega⟩
 have HA : Box (u8s tag = AT) := ⟨hAT⟩
 have hs2 : (w.alloc (.cells AT 23)).heap.size = S + 1 := by simp [hS]
 rw [hAT]
 clear hT ht htb hb hc hm r0 r1 hbt hb1 hAT
 generalize lk tag p L = M at HX HD
 have HPC : Box (∀ (z : World) (q g : Nat), Below w1.heap.size w1 z -> Bytes z (some ⟨q, 0, none⟩) 1 [255] -> Bytes z (some ⟨g, 0, none⟩) 4 (bytesOf p 4) -> Calls Tryd.prog 41 #[.slice (some ⟨z.heap.size, 0, none⟩) 4 4] (z.alloc (.cells #[.slice (some ⟨q, 0, none⟩) 1 1, .slice (some ⟨S, 0, none⟩) 32 32, .slice (some ⟨g, 0, none⟩) 4 4, .slice a len cap] 63)) fun e w' => e = .returned (.agg (u8s X)) /\ Below z.heap.size z w') := ⟨fun z q g hz h1 h2 => by
  have ba := (Below.refl z.heap.size z).alloc (Nat.le_refl _) (.cells #[.slice (some ⟨q, 0, none⟩) 1 1, .slice (some ⟨S, 0, none⟩) 32 32, .slice (some ⟨g, 0, none⟩) 4 4, .slice a len cap] 63)
  obtain ⟨_, t2, t3, t4, _⟩ := H1.out _ (below_to hz ba)
  refine (pieces4 z.heap.size _ _ _ _ 1 32 4 len 1 32 4 cap [255] tag (bytesOf p 4) L M _ t3 (al_at rfl) (h1.below ba) t2 (h2.below ba) t4 (by omega) (by omega) (by omega) H0.out.1 (by omega) (by omega) (by omega) H0.out.2 HD.out.1.symm HD.out.2).mono fun e w' ⟨he, hb⟩ => ⟨by rw [he, HX.out], below_to ba hb⟩⟩
 go_enter Tryd.func19, Tryd.ntmps19
 go_upto_region 1 with (refine wpList_run rfl _ _ (exec_alloc 23 rfl _ zeroSum) ?_)
 (try rw [hs2])
 simp only [hw1]
 clear hs2 hw1 hS
 refine begin_keep (S := Any) (by kernel_rfl) (fun wd hwd => ?_)
 have hbd : Below w1.heap.size w1 wd := by rw [hwd]; exact (Below.refl _ _).drew
 have hS : Any wd := trivial
 clear hwd
 refine take_x (i := 1) (v := ?_) rfl ?_ hS ?_
 rotate_left
 ·rintro w' -; go_simp <;> with_reducible rfl
 try simp only [Act.put, pC, pD, pE, pF, pG, pH]
 refine take_x (i := 2) (v := ?_) rfl ?_ hS ?_
 rotate_left
 ·rintro w' -; go_simp <;> with_reducible rfl
 try simp only [Act.put, pC, pD, pE, pF, pG, pH]
 refine take_x (i := 3) (v := ?_) rfl ?_ hS ?_
 rotate_left
 ·rintro w' -; go_simp <;> with_reducible rfl
 try simp only [Act.put, pC, pD, pE, pF, pG, pH]
 refine take_x (i := 5) (v := ?_) rfl ?_ hS ?_
 rotate_left
 ·rintro w' -; go_simp <;> with_reducible rfl
 try simp only [Act.put, pC, pD, pE, pF, pG, pH]
 refine two_keep (i := 0) (j := 4) (by kernel_rfl) ?_ ?_
 ·refine keep_step rfl (by rfl) ?_
  go_simp
  obtain ⟨q, hq⟩ : ∃ q, wd.heap.size = q := ⟨_, rfl⟩
  obtain ⟨v1, hv1⟩ : ∃ v1, wd.alloc (.cells #[.int .u8 255] 5) = v1 := ⟨_, rfl⟩
  have hbq : Below wd.heap.size wd v1 := by rw [<- hv1]; exact (Below.refl _ _).alloc (Nat.le_refl _) _
  have hBq : Bytes v1 (some ⟨q, 0, none⟩) 1 [255] := by rw [<- hv1]; exact bytes_of_row (X := [255]) (t := 5) (fr := (0, 0)) HQ.out (al_at hq)
  simp only [hq, hv1]
  refine ⟨trivial, ?_⟩
  clear hv1 hq
  try simp only [Act.put, pC, pD, pE, pF, pG, pH]
  refine one_keep (i := 4) (by kernel_rfl) ?_
  refine keep_step rfl (by rfl) ?_
  go_simp
  refine Calls.mono (put4 p _ v1 hp (by first | rfl | (rw [IntKind.wrap_u64]; omega))) ?_
  rintro e v2 ⟨g, rfl, hBg, hbg⟩
  refine ⟨trivial, ?_⟩
  try simp only [Act.put, pC, pD, pE, pF, pG, pH]
  have HB : Box (Below w1.heap.size w1 v2 /\ Bytes v2 (some ⟨q, 0, none⟩) 1 [255] /\ Bytes v2 (some ⟨g, 0, none⟩) 4 (bytesOf p 4)) := ⟨below_to (below_to hbd hbq) hbg, hBq.below hbg, hBg⟩
  clear hbq hbg hBq hBg hbd
  refine one_keep (i := 6) (by kernel_rfl) ?_
  refine keep_step rfl (by rfl) ?_
  go_simp
  refine ⟨trivial, ?_⟩
  try simp only [Act.put, pC, pD, pE, pF, pG, pH]
  refine one_keep (i := 7) (by kernel_rfl) ?_
  refine keep_step rfl (by rfl) ?_
  go_simp
  refine Calls.mono (HPC.out v2 q g HB.out.1 HB.out.2.1 HB.out.2.2) ?_
  rintro e v4 ⟨rfl, hb7⟩
  have H4 := H1.out v4 (below_to HB.out.1 hb7)
  refine ⟨trivial, ?_⟩
  try simp only [Act.put, pC, pD, pE, pF, pG, pH]
  refine one_keep (i := 8) (by kernel_rfl) ?_
  refine keep_step rfl (by rfl) ?_
  refine wp_store_mid 23 (.tmp 6) (.tmp 14) rfl (S + 1) 0 (u8s X) rfl rfl (there_row H4.1 (by rw [HXs.out, size_u8s]; exact Nat.le_of_eq len_z32.symm)) (by rw [HXs.out]; exact infoSum) (all_u8s X) ?_
  obtain ⟨y, hy⟩ : ∃ y, v4.setCells (S + 1) 0 (u8s X).toList = y := ⟨_, rfl⟩
  rw [hy]
  have hry : y.heap[S + 1]? = some (.cells (u8s X) 23 (0, 0)) := by rw [<- hy, Disk.heap_setCells (S + 1) _ _ 0 _ _ H4.1 (by rw [Array.length_toList, HXs.out, size_u8s]; exact Nat.le_of_eq len_z32.symm), Disk.splice_all _ _ (by rw [Array.length_toList, Array.length_toList, HXs.out, size_u8s]; exact len_z32)]
  have hby : Below w.heap.size w y := below_but H4.2.2.2.2 (by rw [<- hy]; exact but_setCells _ _ _ _ _ (But.refl _ _)) HS.out.2 H4.2.2.2.2.size
  refine ⟨trivial, ?_⟩
  refine wpAnyH_done (by kernel_rfl) ?_ _
  clear H4 hy
  (try simp only [Exit.then])
  go_wp2
  refine bodyPost_ret (results_cell_row (p := 6) (ty := 23) rfl _ _ (S + 1) 23 (u8s X) (0, 0) _ rfl hry Tryd.underlying23 rfl (by rw [HXs.out]; exact infoSum)) rfl ?_
  exact ⟨by rw [HX.out], hby⟩
 ·refine keep_step rfl (by rfl) ?_
  go_simp
  refine Calls.mono (put4 p _ wd hp (by first | rfl | (rw [IntKind.wrap_u64]; omega))) ?_
  rintro e v2 ⟨g, rfl, hBg, hbg⟩
  refine ⟨trivial, ?_⟩
  try simp only [Act.put, pC, pD, pE, pF, pG, pH]
  refine one_keep (i := 0) (by kernel_rfl) ?_
  refine keep_step rfl (by rfl) ?_
  go_simp
  obtain ⟨q, hq⟩ : ∃ q, v2.heap.size = q := ⟨_, rfl⟩
  obtain ⟨v1, hv1⟩ : ∃ v1, v2.alloc (.cells #[.int .u8 255] 5) = v1 := ⟨_, rfl⟩
  have hbq : Below v2.heap.size v2 v1 := by rw [<- hv1]; exact (Below.refl _ _).alloc (Nat.le_refl _) _
  have hBq : Bytes v1 (some ⟨q, 0, none⟩) 1 [255] := by rw [<- hv1]; exact bytes_of_row (X := [255]) (t := 5) (fr := (0, 0)) HQ.out (al_at hq)
  simp only [hq, hv1]
  refine ⟨trivial, ?_⟩
  clear hv1 hq
  try simp only [Act.put, pC, pD, pE, pF, pG, pH]
  have HB : Box (Below w1.heap.size w1 v1 /\ Bytes v1 (some ⟨q, 0, none⟩) 1 [255] /\ Bytes v1 (some ⟨g, 0, none⟩) 4 (bytesOf p 4)) := ⟨below_to (below_to hbd hbg) hbq, hBq, hBg.below hbq⟩
  clear hbq hbg hBq hBg hbd
  refine one_keep (i := 6) (by kernel_rfl) ?_
  refine keep_step rfl (by rfl) ?_
  go_simp
  refine ⟨trivial, ?_⟩
  try simp only [Act.put, pC, pD, pE, pF, pG, pH]
  refine one_keep (i := 7) (by kernel_rfl) ?_
  refine keep_step rfl (by rfl) ?_
  go_simp
  refine Calls.mono (HPC.out v1 q g HB.out.1 HB.out.2.1 HB.out.2.2) ?_
  rintro e v4 ⟨rfl, hb7⟩
  have H4 := H1.out v4 (below_to HB.out.1 hb7)
  refine ⟨trivial, ?_⟩
  try simp only [Act.put, pC, pD, pE, pF, pG, pH]
  refine one_keep (i := 8) (by kernel_rfl) ?_
  refine keep_step rfl (by rfl) ?_
  refine wp_store_mid 23 (.tmp 6) (.tmp 14) rfl (S + 1) 0 (u8s X) rfl rfl (there_row H4.1 (by rw [HXs.out, size_u8s]; exact Nat.le_of_eq len_z32.symm)) (by rw [HXs.out]; exact infoSum) (all_u8s X) ?_
  obtain ⟨y, hy⟩ : ∃ y, v4.setCells (S + 1) 0 (u8s X).toList = y := ⟨_, rfl⟩
  rw [hy]
  have hry : y.heap[S + 1]? = some (.cells (u8s X) 23 (0, 0)) := by rw [<- hy, Disk.heap_setCells (S + 1) _ _ 0 _ _ H4.1 (by rw [Array.length_toList, HXs.out, size_u8s]; exact Nat.le_of_eq len_z32.symm), Disk.splice_all _ _ (by rw [Array.length_toList, Array.length_toList, HXs.out, size_u8s]; exact len_z32)]
  have hby : Below w.heap.size w y := below_but H4.2.2.2.2 (by rw [<- hy]; exact but_setCells _ _ _ _ _ (But.refl _ _)) HS.out.2 H4.2.2.2.2.size
  refine ⟨trivial, ?_⟩
  refine wpAnyH_done (by kernel_rfl) ?_ _
  clear H4 hy
  (try simp only [Exit.then])
  go_wp2
  refine bodyPost_ret (results_cell_row (p := 6) (ty := 23) rfl _ _ (S + 1) 23 (u8s X) (0, 0) _ rfl hry Tryd.underlying23 rfl (by rw [HXs.out]; exact infoSum)) rfl ?_
  exact ⟨by rw [HX.out], hby⟩
end Go.Proofs.YthfobaeafapbnaaDoor
namespace Go.Proofs.YthfobaeafapbnaaDoor
open Go.RowKit Plain
theorem results_row2 {fn : Func} {ty : TypeId} {t u : Tmp} (h : fn.results = #[.cell t ty, .tmp u]) (d : TypeDesc) (hu : Tryd.prog.underlying ty = some d) (hd : d.isRow = true) (tmps : Array Value) (w : World) (b : Nat) (cs : Array Value) (hi : (Tryd.prog.info? ty).map (·.size) = some cs.size) (ht : tmps.getD t undef = .pointer (some ⟨b, 0, none⟩)) (hg : w.heap[b]? = some (.cells cs ty (0, 0))) :
  (results fn tmps).run Tryd.prog w = .ok (.tuple #[.agg cs, tmps.getD u undef]) w := by
 have hl := run_loadVar_mid (P := Tryd.prog) w b 0 ty cs.toList d (range_arr hg _ (fun j v hv => by simpa using hv)) hu hd (by simpa using hi)
 rw [results_cell_tmp h, ht]
 simp [asAddr, hl]
theorem but_setRow (w : World) (g : Nat) (cs : Array Value) : But g w (w.setRow g cs) := ⟨rfl, rfl, rfl, by simp [World.setRow], fun k _ hn => setRow_other w g k cs hn⟩
def zrc : Rc := ⟨⟨0, none, 0, 0, []⟩, false⟩
theorem all_rcc (r : Rc) : (rcc r).toArray.all (·.oneCell') = true := by simp [rcc, Value.oneCell']
end Go.Proofs.YthfobaeafapbnaaDoor
