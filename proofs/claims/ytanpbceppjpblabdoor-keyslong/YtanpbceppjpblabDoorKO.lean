/-
  The walk of KeysLong: a key of more than 64 bytes is as its digest: the law returns true, in every memory that holds the package's two tables.
-/
import Derived.Test.YtanpbceppjpblabDoorKC
import Derived.Test.YtanpbceppjpblabDoorB4
import Derived.Test.YtanpbceppjpblabDoorFS
namespace Go.Proofs.YtanpbceppjpblabDoor
set_option linter.unusedVariables false
open Go.RowKit Plain

theorem mac_long (K M : List Int) (h : 64 < K.length) : mac K M = mac (sha K) M := by
  have e : keyP K = keyP (sha K) := by
    rw [keyP, keyP, if_pos h, if_neg (by rw [length_sha]; omega)]
  rw [mac, mac, e]

set_option maxRecDepth 20000 in
set_option maxHeartbeats 1000000 in
theorem long_in (a b : Option Addr) (la ca lb cb : Nat) (K M : List Int) (w : World) (hT : Tabs w) (ha : (⟨a, la, ca, K⟩ : Pc).ok w) (hb : (⟨b, lb, cb, M⟩ : Pc).ok w) (hl1 : 64 < la) (hla : la ≤ 500) (hlb : lb ≤ 1000) :
    Calls Tryd.prog 6 #[.slice a la ca, .slice b lb cb] w fun e w' => e = .returned (.bool true) ∧ Below w.heap.size w w' := by
  have hKl : K.length = la := ha.1.1
  have d1 : ¬ (la : Int) ≤ 64 := by omega
  have d2 : ¬ 500 < (la : Int) := by omega
  have d3 : ¬ 1000 < (lb : Int) := by omega
  have d4 : decide ((la : Int) ≤ 64) = false := by simp; omega
  have d4' : decide (la ≤ 64) = false := by simp; omega
  have d5 : decide (500 < (la : Int)) = false := by simp; omega
  obtain ⟨D, HD⟩ : ∃ X, Box (sha K = X) := named _
  have hDl : D.length = 32 := by rw [← HD.out]; exact length_sha _
  have hDb : Byt D := by rw [← HD.out]; exact byt_sha _
  obtain ⟨X, HX⟩ : ∃ X, Box (mac K M = X) := named _
  have eX := eq_same25 X (by rw [← HX.out]; exact length_mac _ _)
  have HT : Box (∀ x, Below w.heap.size w x → Tabs x ∧ (⟨a, la, ca, K⟩ : Pc).ok x ∧ (⟨b, lb, cb, M⟩ : Pc).ok x) := ⟨fun x hx => ⟨hT.below hx, ha.below hx, hb.below hx⟩⟩
  have HC0 : Box (∀ x, Below w.heap.size w x → Calls Tryd.prog 13 #[.slice a la ca] x fun e w' => e = .returned (.agg (u8s D)) ∧ Below x.heap.size x w') := ⟨fun x hx => by rw [← HD.out]; exact rof_any a la ca K x (HT.out x hx).2.1.1 (by omega)⟩
  have HC1 : Box (∀ x, Below w.heap.size w x → Calls Tryd.prog 8 #[.slice a la ca, .slice b lb cb] x fun e w' => e = .returned (.agg (u8s X)) ∧ Below x.heap.size x w') := ⟨fun x hx => by
    rw [← HX.out]
    exact mac_any a b la ca lb cb K M x (HT.out x hx).1 (HT.out x hx).2.1 (HT.out x hx).2.2 (by omega) (by omega)⟩
  have HC2 : Box (∀ x a', Below w.heap.size w x → Bytes x a' 32 D → Calls Tryd.prog 8 #[.slice a' 32 32, .slice b lb cb] x fun e w' => e = .returned (.agg (u8s X)) ∧ Below x.heap.size x w') := ⟨fun x a' hx hy => by
    rw [← HX.out, mac_long K M (by omega), HD.out]
    exact mac_any a' b 32 32 lb cb D M x (HT.out x hx).1 ⟨hy, Nat.le_refl _, by show (32 : Nat) ≤ _; omega⟩ (HT.out x hx).2.2 (by omega) (by omega)⟩
  have H0 : Box (Tabs w) := ⟨hT⟩
  clear hT ha hb
  go_enter Tryd.func6, Tryd.ntmps6
  go_wp2_with (first
    | (refine wpList_new25 w w2 [] D hDl H2.out ?old ?hold rfl (.tmp 6) (.tmp 24) rfl rfl rfl ?hv ?_; (case hv => rfl); (case hold => rfl); intro z3 H3)
    | (go_at_call 13; refine Calls.mono (HC0.out w1 H1.out) ?_; rintro e w2 ⟨rfl, hb2⟩; have H2 : Box (Way w w2 []) := ⟨Stand.nil _, below_to H1.out hb2⟩; clear hb2)
    | (go_at_call 7; refine (awake_any _ H0.out).mono ?_; rintro e w1 ⟨rfl, hb1⟩; have H1 : Box (Below w.heap.size w w1) := ⟨hb1⟩; clear hb1))
  refine wp_region_any (by kernel_rfl) ?_
  change wpAny _ _ _ _ _ _ _ (World.drew _)
  have H4 : Box (Way w z3.drew [(w2.heap.size, D)]) := ⟨H3.out.1, H3.out.2.drew⟩
  refine wpAny_take (i := 0) (v := ?_) rfl (by kernel_rfl) (by kernel_rfl) (by kernel_rfl) (fun _ _ _ h => h) (Or.inl ⟨by rfl, ?_⟩) ?_
  rotate_left
  · intro w'; go_simp <;> with_reducible rfl
  try simp only [Act.put, List.setIfInBounds_toArray, List.set_cons_zero, List.set_cons_succ, List.getElem_toArray, List.getElem_cons_zero]
  refine wpAny_take (i := 1) (v := ?_) rfl (by kernel_rfl) (by kernel_rfl) (by kernel_rfl) (fun _ _ _ h => h) (Or.inl ⟨by rfl, ?_⟩) ?_
  rotate_left
  · intro w'; go_simp <;> with_reducible rfl
  try simp only [Act.put, List.setIfInBounds_toArray, List.set_cons_zero, List.set_cons_succ, List.getElem_toArray, List.getElem_cons_zero, List.getElem_cons_succ]
  refine wpAny_take (i := 3) (v := ?_) rfl (by kernel_rfl) (by kernel_rfl) (by kernel_rfl) (fun _ _ _ h => h) (Or.inl ⟨by rfl, ?_⟩) ?_
  rotate_left
  · intro w'; go_simp <;> with_reducible rfl
  try simp only [Act.put, List.setIfInBounds_toArray, List.set_cons_zero, List.set_cons_succ, List.getElem_toArray, List.getElem_cons_zero, List.getElem_cons_succ]
  refine wpAny_take (i := 4) (v := ?_) rfl (by kernel_rfl) (by kernel_rfl) (by kernel_rfl) (fun _ _ _ h => h) (Or.inl ⟨by rfl, ?_⟩) ?_
  rotate_left
  · intro w'; go_simp <;> with_reducible rfl
  try simp only [Act.put, List.setIfInBounds_toArray, List.set_cons_zero, List.set_cons_succ, List.getElem_toArray, List.getElem_cons_zero, List.getElem_cons_succ]
  refine wpAny_ready (rs := [2]) (by kernel_rfl) (by simp) ?_
  refine AllReady.cons rfl (fun K hK => ?_) AllReady.nil
  rw [if_pos (by rfl)]
  go_simp
  refine Calls.mono (HC1.out _ H4.out.2) ?_
  rintro e w5 ⟨rfl, hb5⟩
  have H5 : Box (Way w w5 [(w2.heap.size, D)]) := ⟨H4.out.on hb5⟩
  clear hb5
  refine hK _ _ ?_
  clear hK K
  try simp only [Act.put, List.setIfInBounds_toArray, List.set_cons_zero, List.set_cons_succ, List.getElem_toArray, List.getElem_cons_zero, List.getElem_cons_succ]
  refine wpAny_ready (rs := [5]) (by kernel_rfl) (by simp) ?_
  refine AllReady.cons rfl (fun K hK => ?_) AllReady.nil
  rw [if_pos (by rfl)]
  go_simp
  refine Calls.mono (HC2.out w5 (some ⟨w2.heap.size, 0, none⟩) H5.out.2 (H5.out.1.bytes (.head _) hDb)) ?_
  rintro e w6 ⟨rfl, hb6⟩
  have H6 : Box (Below w.heap.size w w6) := ⟨below_to H5.out.2 hb6⟩
  clear hb6
  refine hK _ _ ?_
  clear hK K
  try simp only [Act.put, List.setIfInBounds_toArray, List.set_cons_zero, List.set_cons_succ, List.getElem_toArray, List.getElem_cons_zero, List.getElem_cons_succ]
  refine wpAny_take (i := 6) (v := ?_) rfl (by kernel_rfl) (by kernel_rfl) (by kernel_rfl) (fun _ _ _ h => h) (Or.inl ⟨by rfl, ?_⟩) ?_
  rotate_left
  · intro w'; go_simp <;> with_reducible rfl
  try simp only [Act.put, List.setIfInBounds_toArray, List.set_cons_zero, List.set_cons_succ, List.getElem_toArray, List.getElem_cons_zero, List.getElem_cons_succ]
  refine wpAny_take (i := 7) (v := ?_) rfl (by kernel_rfl) (by kernel_rfl) (by kernel_rfl) (fun _ _ _ h => h) (Or.inl ⟨by rfl, ?_⟩) ?_
  rotate_left
  · intro w'; go_simp <;> with_reducible rfl
  try simp only [Act.put, List.setIfInBounds_toArray, List.set_cons_zero, List.set_cons_succ, List.getElem_toArray, List.getElem_cons_zero, List.getElem_cons_succ]
  refine wpAny_done (by kernel_rfl) ?_ _
  go_wp2
  go_ret
  exact ⟨rfl, H6.out⟩

set_option maxHeartbeats 400000 in
theorem long_out (a b : Option Addr) (la ca lb cb : Nat) (w : World) (hT : Tabs w) (hla : la ≤ maxLen) (hlb : lb ≤ maxLen) (h : la ≤ 64 ∨ 500 < la ∨ 1000 < lb) :
    Calls Tryd.prog 6 #[.slice a la ca, .slice b lb cb] w fun e w' => e = .returned (.bool true) ∧ Below w.heap.size w w' := by
  unfold maxLen at hla hlb
  have H0 : Box (Tabs w) := ⟨hT⟩
  clear hT
  by_cases h1 : (la : Int) ≤ 64
  · have h1' : la ≤ 64 := by omega
    clear h
    go_enter Tryd.func6, Tryd.ntmps6
    go_wp2_with (go_at_call 7; refine (awake_any _ H0.out).mono ?_; rintro e w1 ⟨rfl, hb1⟩; have H1 : Box (Below w.heap.size w w1) := ⟨hb1⟩; clear hb1)
    go_ret
    exact ⟨rfl, H1.out⟩
  · have d1 : decide ((la : Int) ≤ 64) = false := by simp; omega
    have d1' : decide (la ≤ 64) = false := by simp; omega
    by_cases h2 : 500 < (la : Int)
    · clear h
      go_enter Tryd.func6, Tryd.ntmps6
      go_wp2_with (go_at_call 7; refine (awake_any _ H0.out).mono ?_; rintro e w1 ⟨rfl, hb1⟩; have H1 : Box (Below w.heap.size w w1) := ⟨hb1⟩; clear hb1)
      go_ret
      exact ⟨rfl, H1.out⟩
    · have h3 : 1000 < (lb : Int) := by omega
      have d2 : decide (500 < (la : Int)) = false := by simp; omega
      clear h
      go_enter Tryd.func6, Tryd.ntmps6
      go_wp2_with (go_at_call 7; refine (awake_any _ H0.out).mono ?_; rintro e w1 ⟨rfl, hb1⟩; have H1 : Box (Below w.heap.size w w1) := ⟨hb1⟩; clear hb1)
      go_ret
      exact ⟨rfl, H1.out⟩
theorem keysLong_walk (a0 : Option Addr) (len0 cap0 : Nat) (z0 : List Int) (a1 : Option Addr) (len1 cap1 : Nat) (z1 : List Int) (w : World) (hT : Tabs w) (w0 : IsRow .u8 w a0 len0 cap0 z0) (w1 : IsRow .u8 w a1 len1 cap1 z1) :
    Calls Tryd.prog 6 #[.slice a0 len0 cap0, .slice a1 len1 cap1] w fun e w' => e = .returned (.bool true) ∧ Below w.heap.size w w' := by
  by_cases h : 64 < len0 ∧ len0 ≤ 500 ∧ len1 ≤ 1000
  · exact long_in a0 a1 len0 cap0 len1 cap1 _ _ w hT w0.pc w1.pc h.1 h.2.1 h.2.2
  · exact long_out a0 a1 len0 cap0 len1 cap1 w hT w0.len w1.len (by omega)
end Go.Proofs.YtanpbceppjpblabDoor
