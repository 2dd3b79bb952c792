/-
  The walk of DigestEmpty: empty pieces change nothing, one piece is digested as it is: the law returns true for all bytes, in every memory that holds the package's two tables.
-/
import Derived.Test.YteeahghoooiiaaaDoorQ1
namespace Go.Proofs.YteeahghoooiiaaaDoor
set_option linter.unusedVariables false
open Go.RowKit Plain

theorem pieces_new (P : List Pc) (n : Nat) (X X' : List Int) (w : World) (hT : Tabs w) (hP : ∀ p ∈ P, p.ok w) (hn : P.length = n) (hn' : n ≤ 1000) (hX : joinTo (fun i => (P.getD i Pc.none).b) n = X) (hl : X.length ≤ 900000) (hS : sha X = X') :
    Calls Tryd.prog 14 #[.slice (some ⟨w.heap.size, 0, Option.none⟩) n n] (w.alloc (.cells (pcv P) 22)) fun e w' => e = .returned (.agg (u8s X')) ∧ Below w.heap.size w w' := by
  subst hS
  have hb : Below w.heap.size w (w.alloc (.cells (pcv P) 22)) := (Below.refl _ _).alloc (Nat.le_refl _) _
  refine (pieces_list P w.heap.size n X 22 (0, 0) _ (hT.below hb) (al_at rfl) (fun p hp => (hP p hp).below hb) hn hn' hX hl).mono ?_
  rintro e w' ⟨he, h'⟩
  exact ⟨he, hb.trans (h'.mono hb.size)⟩
theorem pieces_nil (X' : List Int) (w : World) (hT : Tabs w) (hS : sha [] = X') :
    Calls Tryd.prog 14 #[.slice Option.none 0 0] w fun e w' => e = .returned (.agg (u8s X')) ∧ Below w.heap.size w w' := by
  subst hS
  exact pieces_any Option.none 0 0 (fun _ => Option.none) (fun _ => 0) (fun _ => 0) (fun _ => []) w hT ⟨fun h => absurd h (by omega), fun i hi => absurd hi (by omega)⟩ (by simp [joinTo]) (by simp)
theorem of_is (a : Option Addr) (len cap : Nat) (L X' : List Int) (w : World) (hT : Tabs w) (hp : (⟨a, len, cap, L⟩ : Pc).ok w) (hl : len ≤ 900000) (hS : sha L = X') :
    Calls Tryd.prog 10 #[.slice a len cap] w fun e w' => e = .returned (.agg (u8s X')) ∧ Below w.heap.size w w' := by
  subst hS
  exact of_any a len cap L w hT hp.1 hl hp.2.1 hp.2.2
theorem below_to {w w1 w2 : World} (h : Below w.heap.size w w1) (k : Below w1.heap.size w1 w2) : Below w.heap.size w w2 := h.trans (k.mono h.size)
theorem eq_same (X : List Int) (h : X.length = 32) (w : World) : (binOp .eql 25 (.agg (u8s X)) (.agg (u8s X))).run Tryd.prog w = .ok (.bool true) w := by
  rw [eq25 X X h h]; simp

set_option maxRecDepth 20000 in
set_option maxHeartbeats 1000000 in
theorem empty_in (a b : Option Addr) (la ca lb cb : Nat) (L M : List Int) (w : World) (hT : Tabs w) (ha : (⟨a, la, ca, L⟩ : Pc).ok w) (hb : (⟨b, lb, cb, M⟩ : Pc).ok w) (hla : la ≤ 1000) (hlb : lb ≤ 1000) :
    Calls Tryd.prog 8 #[.slice a la ca, .slice b lb cb] w fun e w' => e = .returned (.bool true) ∧ Below w.heap.size w w' := by
  have h1 : ¬ 1000 < (la : Int) := by omega
  have h2 : ¬ 1000 < (lb : Int) := by omega
  have d1 : decide (1000 < (la : Int)) = false := by simp; omega
  have d2 : decide (1000 < (lb : Int)) = false := by simp; omega
  obtain ⟨X, HX⟩ : ∃ X, Box (sha L = X) := ⟨_, ⟨rfl⟩⟩
  obtain ⟨Y, HY⟩ : ∃ Y, Box (sha (L ++ M) = Y) := ⟨_, ⟨rfl⟩⟩
  obtain ⟨Z, HZ⟩ : ∃ Z, Box (sha [] = Z) := ⟨_, ⟨rfl⟩⟩
  have eX := eq_same X (by rw [← HX.out]; exact length_sha _)
  have eY := eq_same Y (by rw [← HY.out]; exact length_sha _)
  have eZ := eq_same Z (by rw [← HZ.out]; exact length_sha _)
  have HAL : Box (L.length = la ∧ M.length = lb) := ⟨ha.1.1, hb.1.1⟩
  have HW : Box (∀ x, Below w.heap.size w x → Tabs x ∧ (⟨a, la, ca, L⟩ : Pc).ok x ∧ (⟨b, lb, cb, M⟩ : Pc).ok x) := ⟨fun x hx => ⟨hT.below hx, ha.below hx, hb.below hx⟩⟩
  have H0 : Box (Tabs w) := ⟨hT⟩
  clear hT ha hb
  go_enter Tryd.func8, Tryd.ntmps8
  go_wp2_with (first
    | (go_at_call 10; refine Calls.mono (of_is Option.none 0 0 [] Z w6 (HW.out _ H6.out).1 (Pc.none_ok _) (by omega) HZ.out) ?_; rintro e w7 ⟨rfl, hb7⟩; have H7 : Hid (Below w.heap.size w w7) := below_to H6.out hb7; clear hb7)
    | (go_at_call 14; refine Calls.mono (pieces_nil Z w5 (HW.out _ H5.out).1 HZ.out) ?_; rintro e w6 ⟨rfl, hb6⟩; have H6 : Hid (Below w.heap.size w w6) := below_to H5.out hb6; clear hb6)
    | (go_at_call 14; refine Calls.mono (pieces_new [⟨a, la, ca, L⟩, ⟨b, lb, cb, M⟩] 2 (L ++ M) Y w4 (HW.out _ H4.out).1 ?hp rfl (by omega) (by simp [joinTo]) (by have := HAL.out; rw [List.length_append]; omega) HY.out) ?_; (case hp => exact (by simp [(HW.out _ H4.out).2])); rintro e w5 ⟨rfl, hb5⟩; have H5 : Hid (Below w.heap.size w w5) := below_to H4.out hb5; clear hb5)
    | (go_at_call 14; refine Calls.mono (pieces_new [Pc.none, ⟨a, la, ca, L⟩, Pc.none, ⟨b, lb, cb, M⟩, Pc.none] 5 (L ++ M) Y w3 (HW.out _ H3.out).1 ?hp rfl (by omega) (by simp [joinTo, Pc.none]) (by have := HAL.out; rw [List.length_append]; omega) HY.out) ?_; (case hp => exact (by simp [(HW.out _ H3.out).2, Pc.none_ok])); rintro e w4 ⟨rfl, hb4⟩; have H4 : Hid (Below w.heap.size w w4) := below_to H3.out hb4; clear hb4)
    | (go_at_call 10; refine Calls.mono (of_is a la ca L X w2 (HW.out _ H2.out).1 (HW.out _ H2.out).2.1 (by omega) HX.out) ?_; rintro e w3 ⟨rfl, hb3⟩; have H3 : Hid (Below w.heap.size w w3) := below_to H2.out hb3; clear hb3)
    | (go_at_call 14; refine Calls.mono (pieces_new [⟨a, la, ca, L⟩] 1 L X w1 (HW.out _ H1.out).1 ?hp rfl (by omega) (by simp [joinTo]) (by have := HAL.out; omega) HX.out) ?_; (case hp => exact (by simp [(HW.out _ H1.out).2])); rintro e w2 ⟨rfl, hb2⟩; have H2 : Hid (Below w.heap.size w w2) := below_to H1.out hb2; clear hb2)
    | (go_at_call 9; refine (awake_any _ H0.out).mono ?_; rintro e w1 ⟨rfl, hb1⟩; have H1 : Hid (Below w.heap.size w w1) := hb1; clear hb1))
  go_ret
  exact ⟨rfl, H7.out⟩
end Go.Proofs.YteeahghoooiiaaaDoor
