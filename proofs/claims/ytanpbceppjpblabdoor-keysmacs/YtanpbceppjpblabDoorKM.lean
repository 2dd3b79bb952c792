/-
  The walk of KeysMacs: the code of any message by any key is the reference's: the law returns true, in every memory that holds the package's two tables.
-/
import Derived.Test.YtanpbceppjpblabDoorKC
import Derived.Test.YtanpbceppjpblabDoorK8
import Derived.Test.YtanpbceppjpblabDoorFS
namespace Go.Proofs.YtanpbceppjpblabDoor
set_option linter.unusedVariables false
open Go.RowKit Plain

set_option maxRecDepth 20000 in
set_option maxHeartbeats 400000 in
theorem macs_in (a b : Option Addr) (la ca lb cb : Nat) (K M : List Int) (w : World) (hT : Tabs w) (ha : (⟨a, la, ca, K⟩ : Pc).ok w) (hb : (⟨b, lb, cb, M⟩ : Pc).ok w) (hla : la ≤ 500) (hlb : lb ≤ 2000) :
    Calls Tryd.prog 3 #[.slice a la ca, .slice b lb cb] w fun e w' => e = .returned (.bool true) ∧ Below w.heap.size w w' := by
  have d1 : ¬ 500 < (la : Int) := by omega
  have d2 : ¬ 2000 < (lb : Int) := by omega
  have d3 : decide (500 < (la : Int)) = false := by simp; omega
  obtain ⟨X, HX⟩ : ∃ X, Box (mac K M = X) := named _
  have eX := eq_same25 X (by rw [← HX.out]; exact length_mac _ _)
  have HC : Box (∀ x, Below w.heap.size w x → (Calls Tryd.prog 8 #[.slice a la ca, .slice b lb cb] x fun e w' => e = .returned (.agg (u8s X)) ∧ Below x.heap.size x w') ∧ Calls Tryd.prog 9 #[.slice a la ca, .slice b lb cb] x fun e w' => e = .returned (.agg (u8s X)) ∧ Below x.heap.size x w') := ⟨fun x hx => by
    rw [← HX.out]
    exact ⟨mac_any a b la ca lb cb K M x (hT.below hx) (ha.below hx) (hb.below hx) (by omega) (by omega), rmac_any a b la ca lb cb K M x (ha.below hx).1 (hb.below hx).1 (by omega) (by omega)⟩⟩
  have H0 : Box (Tabs w) := ⟨hT⟩
  clear hT ha hb
  go_enter Tryd.func3, Tryd.ntmps3
  go_wp2_with (first
    | (go_at_call 9; refine Calls.mono (HC.out w2 H2.out).2 ?_; rintro e w3 ⟨rfl, hb3⟩; have H3 : Box (Below w.heap.size w w3) := ⟨below_to H2.out hb3⟩; clear hb3)
    | (go_at_call 8; refine Calls.mono (HC.out w1 H1.out).1 ?_; rintro e w2 ⟨rfl, hb2⟩; have H2 : Box (Below w.heap.size w w2) := ⟨below_to H1.out hb2⟩; clear hb2)
    | (go_at_call 7; refine (awake_any _ H0.out).mono ?_; rintro e w1 ⟨rfl, hb1⟩; have H1 : Box (Below w.heap.size w w1) := ⟨hb1⟩; clear hb1))
  go_ret
  exact ⟨rfl, H3.out⟩

set_option maxHeartbeats 400000 in
theorem macs_out (a b : Option Addr) (la ca lb cb : Nat) (w : World) (hT : Tabs w) (hla : la ≤ maxLen) (hlb : lb ≤ maxLen) (h : 500 < la ∨ 2000 < lb) :
    Calls Tryd.prog 3 #[.slice a la ca, .slice b lb cb] w fun e w' => e = .returned (.bool true) ∧ Below w.heap.size w w' := by
  unfold maxLen at hla hlb
  have H0 : Box (Tabs w) := ⟨hT⟩
  clear hT
  by_cases h1 : 500 < (la : Int)
  · clear h
    go_enter Tryd.func3, Tryd.ntmps3
    go_wp2_with (go_at_call 7; refine (awake_any _ H0.out).mono ?_; rintro e w1 ⟨rfl, hb1⟩; have H1 : Box (Below w.heap.size w w1) := ⟨hb1⟩; clear hb1)
    go_ret
    exact ⟨rfl, H1.out⟩
  · have h2 : 2000 < (lb : Int) := by omega
    have d1 : decide (500 < (la : Int)) = false := by simp; omega
    clear h
    go_enter Tryd.func3, Tryd.ntmps3
    go_wp2_with (go_at_call 7; refine (awake_any _ H0.out).mono ?_; rintro e w1 ⟨rfl, hb1⟩; have H1 : Box (Below w.heap.size w w1) := ⟨hb1⟩; clear hb1)
    go_ret
    exact ⟨rfl, H1.out⟩
theorem keysMacs_walk (a0 : Option Addr) (len0 cap0 : Nat) (z0 : List Int) (a1 : Option Addr) (len1 cap1 : Nat) (z1 : List Int) (w : World) (hT : Tabs w) (w0 : IsRow .u8 w a0 len0 cap0 z0) (w1 : IsRow .u8 w a1 len1 cap1 z1) :
    Calls Tryd.prog 3 #[.slice a0 len0 cap0, .slice a1 len1 cap1] w fun e w' => e = .returned (.bool true) ∧ Below w.heap.size w w' := by
  by_cases h : len0 ≤ 500 ∧ len1 ≤ 2000
  · exact macs_in a0 a1 len0 cap0 len1 cap1 _ _ w hT w0.pc w1.pc h.1 h.2
  · exact macs_out a0 a1 len0 cap0 len1 cap1 w hT w0.len w1.len (by omega)
end Go.Proofs.YtanpbceppjpblabDoor
