/-
  The walk of KeysDerives: the key of any label out of any master key, and all keys of a file system, are the reference's, or refused: the law returns true, in every memory that holds the package's two tables.
-/
import Derived.Test.YtanpbceppjpblabDoorKC
import Derived.Test.YtanpbceppjpblabDoorK9
import Derived.Test.YtanpbceppjpblabDoorFS
namespace Go.Proofs.YtanpbceppjpblabDoor
set_option linter.unusedVariables false
open Go.RowKit Plain

/-- What is known of a world on the way: what stands where, the row of keys among it. -/
def WK (w x : World) (g : Nat) (KL : List Int) (l : List (Nat × List Int)) : Prop := Way w x l ∧ x.heap[g]? = some (.cells (u8s KL) 32 (0, 0))
theorem WK.on {w x y : World} {g : Nat} {KL : List Int} {l : List (Nat × List Int)} (h : WK w x g KL l) (hb : Below x.heap.size x y) : WK w y g KL l :=
  ⟨h.1.on hb, (hb.block _ (Array.getElem?_eq_some_iff.1 h.2).1).trans h.2⟩
theorem WK.add {w x z : World} {g k : Nat} {KL D : List Int} {l : List (Nat × List Int)} (h : WK w x g KL l) (hz : Way x z [(k, D)]) : WK w z g KL ((k, D) :: l) := by
  have h2 := h.on hz.2
  refine ⟨⟨fun p hp => ?_, h2.1.2⟩, h2.2⟩
  simp only [List.mem_cons] at hp
  rcases hp with rfl | hp
  · exact hz.1 _ (List.mem_singleton.2 rfl)
  · exact h2.1.1 p hp

set_option maxRecDepth 20000 in
set_option maxHeartbeats 2000000 in
theorem derives_in (a : Option Addr) (la ca : Nat) (K : List Int) (S : ByteArray) (w : World) (hT : Tabs w) (ha : (⟨a, la, ca, K⟩ : Pc).ok w) (hla : la ≤ 500) (hs : S.size ≤ 500) :
    Calls Tryd.prog 4 #[.slice a la ca, .string S] w fun e w' => e = .returned (.bool true) ∧ Below w.heap.size w w' := by
  have d1 : ¬ 500 < (la : Int) := by omega
  have d2 : ¬ 500 < (S.size : Int) := by omega
  have d3 : decide (500 < (la : Int)) = false := by simp; omega
  have hlm : la ≤ maxLen := by unfold maxLen; omega
  have hsm : S.size ≤ maxLen := by unfold maxLen; omega
  obtain ⟨X, HX⟩ : ∃ X, Box (derS K S = X) := named _
  obtain ⟨E, HE⟩ : ∃ E, Hid (derE K S = E) := ⟨_, rfl⟩
  obtain ⟨E0, HE0⟩ : ∃ E, Hid (derE K (lab 0) = E) := ⟨_, rfl⟩
  obtain ⟨E1, HE1⟩ : ∃ E, Hid (derE K (lab 1) = E) := ⟨_, rfl⟩
  obtain ⟨E2, HE2⟩ : ∃ E, Hid (derE K (lab 2) = E) := ⟨_, rfl⟩
  obtain ⟨D0, HD0⟩ : ∃ X, Box (derS K (lab 0) = X) := named _
  obtain ⟨D1, HD1⟩ : ∃ X, Box (derS K (lab 1) = X) := named _
  obtain ⟨D2, HD2⟩ : ∃ X, Box (derS K (lab 2) = X) := named _
  obtain ⟨KL, HK⟩ : ∃ X, Box (kl K 3 = X) := named _
  have hX : X.length = 32 := by rw [← HX.out]; exact length_derS _ _
  have hD0 : D0.length = 32 := by rw [← HD0.out]; exact length_derS _ _
  have hD1 : D1.length = 32 := by rw [← HD1.out]; exact length_derS _ _
  have hD2 : D2.length = 32 := by rw [← HD2.out]; exact length_derS _ _
  have hKL : KL.length = 96 := by rw [← HK.out]; exact length_kl _ _
  have eX := eq_same25 X hX
  have e0 := eq_same25 D0 hD0
  have e1 := eq_same25 D1 hD1
  have e2 := eq_same25 D2 hD2
  have HR : Box (∀ (x : World) (g : Nat), x.heap[g]? = some (.cells (u8s KL) 32 (0, 0)) → x.rangeAt g 0 (D0.map (Value.int .u8)) ∧ x.rangeAt g 32 (D1.map (Value.int .u8)) ∧ x.rangeAt g 64 (D2.map (Value.int .u8))) := ⟨fun x g hx => by
    rw [← HK.out] at hx
    have := kl_ranges hx
    rw [HD0.out, HD1.out, HD2.out] at this
    exact this⟩
  have HCD : Box (∀ x, Below w.heap.size w x → Calls Tryd.prog 10 #[.slice a la ca, .string S] x fun e w' => e = .returned (.tuple #[.agg (u8s X), .int .i64 E]) ∧ Below x.heap.size x w') := ⟨fun x hx => by
    rw [← HX.out, ← HE.out]; exact derive_any a la ca K S x (hT.below hx) (ha.below hx) hlm hsm⟩
  have HCR : Box (∀ x, Below w.heap.size w x → Calls Tryd.prog 11 #[.slice a la ca, .string S] x fun e w' => e = .returned (.tuple #[.agg (u8s X), .int .i64 E]) ∧ Below x.heap.size x w') := ⟨fun x hx => by
    rw [← HX.out, ← HE.out]; exact rderive_any a la ca K S x (ha.below hx) hlm hsm⟩
  have HCK : Box (∀ x, Below w.heap.size w x → Calls Tryd.prog 12 #[.slice a la ca] x fun e w' => e = .returned (.tuple #[.agg (u8s KL), .int .i64 E0]) ∧ Below x.heap.size x w') := ⟨fun x hx => by
    rw [← HK.out, ← HE0.out]; exact kof_any a la ca K x (hT.below hx) (ha.below hx) hlm⟩
  have HC0 : Box (∀ x, Below w.heap.size w x → Calls Tryd.prog 11 #[.slice a la ca, .string { data := #[104, 111, 109, 101] }] x fun e w' => e = .returned (.tuple #[.agg (u8s D0), .int .i64 E0]) ∧ Below x.heap.size x w') := ⟨fun x hx => by
    rw [← HD0.out, ← HE0.out]; exact rderive_any a la ca K (lab 0) x (ha.below hx) hlm (by decide)⟩
  have HC1 : Box (∀ x, Below w.heap.size w x → Calls Tryd.prog 11 #[.slice a la ca, .string { data := #[106, 111, 117, 114, 110, 97, 108] }] x fun e w' => e = .returned (.tuple #[.agg (u8s D1), .int .i64 E1]) ∧ Below x.heap.size x w') := ⟨fun x hx => by
    rw [← HD1.out, ← HE1.out]; exact rderive_any a la ca K (lab 1) x (ha.below hx) hlm (by decide)⟩
  have HC2 : Box (∀ x, Below w.heap.size w x → Calls Tryd.prog 11 #[.slice a la ca, .string { data := #[99, 104, 101, 99, 107] }] x fun e w' => e = .returned (.tuple #[.agg (u8s D2), .int .i64 E2]) ∧ Below x.heap.size x w') := ⟨fun x hx => by
    rw [← HD2.out, ← HE2.out]; exact rderive_any a la ca K (lab 2) x (ha.below hx) hlm (by decide)⟩
  have H0 : Box (Tabs w) := ⟨hT⟩
  have hzS := zeroS
  clear hT ha HX HE HE0 HE1 HE2 HD0 HD1 HD2 HK hlm hsm
  go_enter Tryd.func4, Tryd.ntmps4
  go_wp2_with (first
    | (refine wpList_see25 w7.heap.size D2 _ H7.out.1.1 (.head _) (.tmp 16) rfl rfl (by rfl) ?_)
    | (refine wpList_wmid25 D2 hD2 (.tmp 87) rfl w4.heap.size 64 rfl (HR.out _ _ H7.out.2).2.2 (by rfl) ?_)
    | (refine wpList_see25 w6.heap.size D1 _ H7.out.1.1 (.tail _ (.head _)) (.tmp 14) rfl rfl (by rfl) ?_)
    | (refine wpList_wmid25 D1 hD1 (.tmp 81) rfl w4.heap.size 32 rfl (HR.out _ _ H7.out.2).2.1 (by rfl) ?_)
    | (refine wpList_see25 w5.heap.size D0 _ H7.out.1.1 (.tail _ (.tail _ (.head _))) (.tmp 12) rfl rfl (by rfl) ?_)
    | (refine wpList_wmid25 D0 hD0 (.tmp 75) rfl w4.heap.size 0 rfl (HR.out _ _ H7.out.2).1 (by rfl) ?_)
    | (refine wpList_see25 w3.heap.size X _ H7.out.1.1 (.tail _ (.tail _ (.tail _ (.head _)))) (.tmp 8) rfl rfl (by rfl) ?_)
    | (refine wpList_see25 w2.heap.size X _ H7.out.1.1 (.tail _ (.tail _ (.tail _ (.tail _ (.head _))))) (.tmp 6) rfl rfl (by rfl) ?_)
    | (refine wpList_new25 _ w7 [] D2 hD2 (show Way w7 w7 [] from ⟨Stand.nil _, Below.refl _ _⟩) ?old ?hold rfl (.tmp 16) (.tmp 59) rfl rfl rfl ?hv ?_; (case hv => rfl); (case hold => rfl); intro z7 H7'; have H7 : Box (WK w z7 w4.heap.size KL [(w7.heap.size, D2), (w6.heap.size, D1), (w5.heap.size, D0), (w3.heap.size, X), (w2.heap.size, X)]) := ⟨HW7.out.add H7'.out⟩; clear H7')
    | (go_at_call 11; refine Calls.mono (HC2.out z6 H6.out.1.2) ?_; rintro e w7 ⟨rfl, hb7⟩; have HW7 : Box (WK w w7 w4.heap.size KL [(w6.heap.size, D1), (w5.heap.size, D0), (w3.heap.size, X), (w2.heap.size, X)]) := ⟨H6.out.on hb7⟩; clear hb7)
    | (refine wpList_new25 _ w6 [] D1 hD1 (show Way w6 w6 [] from ⟨Stand.nil _, Below.refl _ _⟩) ?old ?hold rfl (.tmp 14) (.tmp 54) rfl rfl rfl ?hv ?_; (case hv => rfl); (case hold => rfl); intro z6 H6'; have H6 : Box (WK w z6 w4.heap.size KL [(w6.heap.size, D1), (w5.heap.size, D0), (w3.heap.size, X), (w2.heap.size, X)]) := ⟨HW6.out.add H6'.out⟩; clear H6')
    | (go_at_call 11; refine Calls.mono (HC1.out z5 H5.out.1.2) ?_; rintro e w6 ⟨rfl, hb6⟩; have HW6 : Box (WK w w6 w4.heap.size KL [(w5.heap.size, D0), (w3.heap.size, X), (w2.heap.size, X)]) := ⟨H5.out.on hb6⟩; clear hb6)
    | (refine wpList_new25 _ w5 [] D0 hD0 (show Way w5 w5 [] from ⟨Stand.nil _, Below.refl _ _⟩) ?old ?hold rfl (.tmp 12) (.tmp 49) rfl rfl rfl ?hv ?_; (case hv => rfl); (case hold => rfl); intro z5 H5'; have H5 : Box (WK w z5 w4.heap.size KL [(w5.heap.size, D0), (w3.heap.size, X), (w2.heap.size, X)]) := ⟨HW5.out.add H5'.out⟩; clear H5')
    | (go_at_call 11; refine Calls.mono (HC0.out z4 H4.out.1.2) ?_; rintro e w5 ⟨rfl, hb5⟩; have HW5 : Box (WK w w5 w4.heap.size KL [(w3.heap.size, X), (w2.heap.size, X)]) := ⟨H4.out.on hb5⟩; clear hb5)
    | (refine wpList_newK w4 KL hKL rfl (.tmp 10) (.tmp 44) rfl rfl rfl ?hv ?_; (case hv => rfl); intro z4 H4'; have H4 : Box (WK w z4 w4.heap.size KL [(w3.heap.size, X), (w2.heap.size, X)]) := ⟨HW4.out.on H4'.out.2, H4'.out.1⟩; clear H4')
    | (go_at_call 12; refine Calls.mono (HCK.out z3 H3.out.2) ?_; rintro e w4 ⟨rfl, hb4⟩; have HW4 : Box (Way w w4 [(w3.heap.size, X), (w2.heap.size, X)]) := ⟨H3.out.on hb4⟩; clear hb4)
    | (refine wpList_new25 w w3 _ X hX HW3.out ?old ?hold rfl (.tmp 8) (.tmp 39) rfl rfl rfl ?hv ?_; (case hv => rfl); (case hold => rfl); intro z3 H3)
    | (go_at_call 11; refine Calls.mono (HCR.out z2 H2.out.2) ?_; rintro e w3 ⟨rfl, hb3⟩; have HW3 : Box (Way w w3 [(w2.heap.size, X)]) := ⟨H2.out.on hb3⟩; clear hb3)
    | (refine wpList_new25 w w2 _ X hX HW2.out ?old ?hold rfl (.tmp 6) (.tmp 33) rfl rfl rfl ?hv ?_; (case hv => rfl); (case hold => rfl); intro z2 H2)
    | (go_at_call 10; refine Calls.mono (HCD.out w1 H1.out.2) ?_; rintro e w2 ⟨rfl, hb2⟩; have HW2 : Box (Way w w2 []) := ⟨H1.out.on hb2⟩; clear hb2)
    | (go_at_call 7; refine (awake_any _ H0.out).mono ?_; rintro e w1 ⟨rfl, hb1⟩; have H1 : Box (Way w w1 []) := ⟨Stand.nil _, hb1⟩; clear hb1))
  go_ret
  exact ⟨rfl, H7.out.1.2⟩

set_option maxHeartbeats 400000 in
theorem derives_out (a : Option Addr) (la ca : Nat) (S : ByteArray) (w : World) (hT : Tabs w) (hla : la ≤ maxLen) (hs : S.size ≤ maxLen) (h : 500 < la ∨ 500 < S.size) :
    Calls Tryd.prog 4 #[.slice a la ca, .string S] w fun e w' => e = .returned (.bool true) ∧ Below w.heap.size w w' := by
  unfold maxLen at hla hs
  have H0 : Box (Tabs w) := ⟨hT⟩
  clear hT
  by_cases h1 : 500 < (la : Int)
  · clear h
    go_enter Tryd.func4, Tryd.ntmps4
    go_wp2_with (go_at_call 7; refine (awake_any _ H0.out).mono ?_; rintro e w1 ⟨rfl, hb1⟩)
    go_ret
    exact ⟨rfl, hb1⟩
  · have h2 : 500 < (S.size : Int) := by omega
    have d1 : decide (500 < (la : Int)) = false := by simp; omega
    clear h
    go_enter Tryd.func4, Tryd.ntmps4
    go_wp2_with (go_at_call 7; refine (awake_any _ H0.out).mono ?_; rintro e w1 ⟨rfl, hb1⟩)
    go_ret
    exact ⟨rfl, hb1⟩
theorem keysDerives_walk (a0 : Option Addr) (len0 cap0 : Nat) (z0 : List Int) (S : ByteArray) (w : World) (hT : Tabs w) (w0 : IsRow .u8 w a0 len0 cap0 z0) (hs : S.size ≤ maxLen) :
    Calls Tryd.prog 4 #[.slice a0 len0 cap0, .string S] w fun e w' => e = .returned (.bool true) ∧ Below w.heap.size w w' := by
  by_cases h : len0 ≤ 500 ∧ S.size ≤ 500
  · exact derives_in a0 len0 cap0 _ S w hT w0.pc h.1 h.2
  · exact derives_out a0 len0 cap0 S w hT w0.len hs (by omega)
end Go.Proofs.YtanpbceppjpblabDoor
