/-
  The walk of KeysNoughts: noughts behind a key of at most 64 bytes, up to these, change nothing: the law returns true, in every memory that holds the package's two tables.
-/
import Derived.Test.YtanpbceppjpblabDoorKC
import Derived.Test.YtanpbceppjpblabDoorFS
namespace Go.Proofs.YtanpbceppjpblabDoor
set_option linter.unusedVariables false
open Go.RowKit Plain

theorem pad64_rep (K : List Int) (j : Nat) (h : K.length + j ≤ 64) : pad64 (K ++ List.replicate j 0) = pad64 K := by
  rw [pad64, pad64, List.length_append, List.length_replicate, List.append_assoc, List.replicate_append_replicate]
  congr 2
  omega
theorem mac_rep (K M : List Int) (j : Nat) (h : K.length + j ≤ 64) : mac (K ++ List.replicate j 0) M = mac K M := by
  have e : keyP (K ++ List.replicate j 0) = keyP K := by
    rw [keyP, keyP, if_neg (by simp; omega), if_neg (by omega), pad64_rep K j h]
  rw [mac, mac, e]

set_option maxRecDepth 20000 in
set_option maxHeartbeats 1000000 in
theorem noughts_in (a b : Option Addr) (la ca lb cb : Nat) (n : Int) (K M : List Int) (w : World) (hT : Tabs w) (ha : (⟨a, la, ca, K⟩ : Pc).ok w) (hb : (⟨b, lb, cb, M⟩ : Pc).ok w) (hn : 0 ≤ n ∧ n ≤ 255) (hla : la ≤ 64) (hlb : lb ≤ 1000) :
    Calls Tryd.prog 5 #[.slice a la ca, .int .u8 n, .slice b lb cb] w fun e w' => e = .returned (.bool true) ∧ Below w.heap.size w w' := by
  have hKl : K.length = la := ha.1.1
  have hKb := ha.1.2.1
  have d1 : ¬ 64 < (la : Int) := by omega
  have d2 : ¬ 1000 < (lb : Int) := by omega
  have d3 : decide (64 < (la : Int)) = false := by simp; omega
  obtain ⟨N, HN⟩ : ∃ N : Nat, Hid (n % 65 = (N : Int)) := ⟨(n % 65).toNat, by show _ = _; omega⟩
  have hN : n % 65 = (N : Int) := HN.out
  have hNl : N < 65 := by omega
  obtain ⟨X, HX⟩ : ∃ X, Box (mac K M = X) := named _
  have eX := eq_same25 X (by rw [← HX.out]; exact length_mac _ _)
  have HT : Box (∀ x, Below w.heap.size w x → Tabs x ∧ (⟨a, la, ca, K⟩ : Pc).ok x ∧ (⟨b, lb, cb, M⟩ : Pc).ok x) := ⟨fun x hx => ⟨hT.below hx, ha.below hx, hb.below hx⟩⟩
  have H0 : Box (Tabs w) := ⟨hT⟩
  clear hT ha hb
  go_enter Tryd.func5, Tryd.ntmps5
  go_wp2_with (first
    | (at_builtin; refine wpList_app rfl (.tmp 21) (.tmp 22) rfl w1.heap.size 0 la ca (.slice none 0 0) [] K a w1 rfl rfl (World.ownsRow_nil _ _ _ _) (HT.out _ H1.out).2.1.1 (by omega) (Below.refl _ _) (Nat.le_refl _) ?_; intro v2 w2 H2)
    | (go_at_call 7; refine (awake_any _ H0.out).mono ?_; rintro e w1 ⟨rfl, hb1⟩; have H1 : Box (Below w.heap.size w w1) := ⟨hb1⟩; clear hb1))
  obtain ⟨S, HS⟩ : ∃ S, Hid (w1.heap.size = S) := ⟨_, rfl⟩
  have H2' : Box (w2.ownsRow S 5 1 v2 (la + 0) ((K ++ List.replicate 0 0).map (Value.int .u8)) ∧ Below S w1 w2 ∧ S ≤ w2.heap.size) := ⟨by rw [← HS.out]; simpa using H2.out.1, by rw [← HS.out]; exact H2.out.2⟩
  clear H2
  go_loopw [8, 9] (fun v i wr => ∃ j : Nat, j ≤ N ∧ la + j ≤ 64 ∧ i = .int .i64 j ∧ Box (wr.ownsRow S 5 1 v (la + j) ((K ++ List.replicate j 0).map (Value.int .u8)) ∧ Below S w1 wr ∧ S ≤ wr.heap.size)) (fun _ i _ => N - (intOf i).toNat)
  case atStart => exact ⟨0, Nat.zero_le _, by omega, rfl, H2'⟩
  case round =>
    clear H2'
    obtain ⟨j, hj, hlj, rfl, HB⟩ := hrel
    obtain ⟨av, cv, hv⟩ := own_form HB.out.1
    subst hv
    obtain ⟨m, Hm⟩ : ∃ m, Hid (la + j = m) := ⟨_, rfl⟩
    have hm : la + j = m := Hm.out
    rw [Hm.out]
    rw [Hm.out] at HB
    by_cases hlt : j < N ∧ m < 64
    · obtain ⟨h1, h2⟩ := hlt
      have e1 : (j : Int) < (N : Int) := by omega
      have e2 : (m : Int) < 64 := by omega
      go_wp2_with (at_builtin; refine wpList_app1 rfl (.tmp 36) (.tmp 37) rfl S m _ _ 0 w1 rfl rfl HB.out.1 (by omega) HB.out.2.1 HB.out.2.2 ?_; intro v3 w3 H3)
      go_roundw
      case rel =>
        refine ⟨j + 1, by omega, by omega, by go_num, ⟨?_, H3.out.2⟩⟩
        have := H3.out.1
        rw [← hm] at this
        rw [List.replicate_succ', ← List.append_assoc]
        exact this
      case measure => simp [intOf]; omega
    · have hPb : Byt (K ++ List.replicate j 0) := byt_app _ _ hKb (byt_zeros _)
      have hBy := own_bytes HB.out.1 hPb
      have hcp := own_cap HB.out.1
      unfold maxLen at hcp
      have HWr : Box (Below w.heap.size w wr) := ⟨H1.out.trans (HB.out.2.1.mono (by rw [← HS.out]; exact H1.out.size))⟩
      have HC1 : Box (Calls Tryd.prog 8 #[.slice a la ca, .slice b lb cb] wr fun e w' => e = .returned (.agg (u8s X)) ∧ Below wr.heap.size wr w') := ⟨by
        rw [← HX.out]
        exact mac_any a b la ca lb cb K M wr (HT.out wr HWr.out).1 (HT.out wr HWr.out).2.1 (HT.out wr HWr.out).2.2 (by omega) (by omega)⟩
      have HC2 : Box (∀ x, Below wr.heap.size wr x → Calls Tryd.prog 8 #[.slice av m cv, .slice b lb cb] x fun e w' => e = .returned (.agg (u8s X)) ∧ Below x.heap.size x w') := ⟨fun x hx => by
        rw [← HX.out, ← mac_rep K M j (by omega)]
        have hwx := below_to HWr.out hx
        exact mac_any av b m cv lb cb _ M x (HT.out x hwx).1 ⟨hBy.below hx, hcp.1, by show cv ≤ 9223372036854775807; omega⟩ (HT.out x hwx).2.2 (by omega) (by omega)⟩
      clear hPb hBy hcp HB
      by_cases h1 : j < N
      · have e1 : (j : Int) < (N : Int) := by omega
        have e2 : ¬ (m : Int) < 64 := by omega
        go_wp2_with (first
          | (go_at_call 8; refine Calls.mono (HC2.out w4 H4.out) ?_; rintro e w5 ⟨rfl, hb5⟩; have H5 : Box (Below w.heap.size w w5) := ⟨below_to (below_to HWr.out H4.out) hb5⟩; clear hb5)
          | (go_at_call 8; refine Calls.mono HC1.out ?_; rintro e w4 ⟨rfl, hb4⟩; have H4 : Box (Below wr.heap.size wr w4) := ⟨hb4⟩; clear hb4))
        go_ret
        exact ⟨rfl, H5.out⟩
      · have e1 : ¬ (j : Int) < (N : Int) := by omega
        have e1' : decide ((j : Int) < (N : Int)) = false := by simp; omega
        go_wp2_with (first
          | (go_at_call 8; refine Calls.mono (HC2.out w4 H4.out) ?_; rintro e w5 ⟨rfl, hb5⟩; have H5 : Box (Below w.heap.size w w5) := ⟨below_to (below_to HWr.out H4.out) hb5⟩; clear hb5)
          | (go_at_call 8; refine Calls.mono HC1.out ?_; rintro e w4 ⟨rfl, hb4⟩; have H4 : Box (Below wr.heap.size wr w4) := ⟨hb4⟩; clear hb4))
        go_ret
        exact ⟨rfl, H5.out⟩

set_option maxHeartbeats 400000 in
theorem noughts_out (a b : Option Addr) (la ca lb cb : Nat) (n : Int) (w : World) (hT : Tabs w) (hla : la ≤ maxLen) (hlb : lb ≤ maxLen) (h : 64 < la ∨ 1000 < lb) :
    Calls Tryd.prog 5 #[.slice a la ca, .int .u8 n, .slice b lb cb] w fun e w' => e = .returned (.bool true) ∧ Below w.heap.size w w' := by
  unfold maxLen at hla hlb
  have H0 : Box (Tabs w) := ⟨hT⟩
  clear hT
  by_cases h1 : 64 < (la : Int)
  · clear h
    go_enter Tryd.func5, Tryd.ntmps5
    go_wp2_with (go_at_call 7; refine (awake_any _ H0.out).mono ?_; rintro e w1 ⟨rfl, hb1⟩; have H1 : Box (Below w.heap.size w w1) := ⟨hb1⟩; clear hb1)
    go_ret
    exact ⟨rfl, H1.out⟩
  · have h2 : 1000 < (lb : Int) := by omega
    have d1 : decide (64 < (la : Int)) = false := by simp; omega
    clear h
    go_enter Tryd.func5, Tryd.ntmps5
    go_wp2_with (go_at_call 7; refine (awake_any _ H0.out).mono ?_; rintro e w1 ⟨rfl, hb1⟩; have H1 : Box (Below w.heap.size w w1) := ⟨hb1⟩; clear hb1)
    go_ret
    exact ⟨rfl, H1.out⟩
theorem keysNoughts_walk (a0 : Option Addr) (len0 cap0 : Nat) (z0 : List Int) (n : Int) (a2 : Option Addr) (len2 cap2 : Nat) (z2 : List Int) (w : World) (hT : Tabs w) (w0 : IsRow .u8 w a0 len0 cap0 z0) (h1 : (Lit.int .u8 n).wf = true) (w2 : IsRow .u8 w a2 len2 cap2 z2) :
    Calls Tryd.prog 5 #[.slice a0 len0 cap0, .int .u8 n, .slice a2 len2 cap2] w fun e w' => e = .returned (.bool true) ∧ Below w.heap.size w w' := by
  have b1 := bounds_u8 h1
  by_cases h : len0 ≤ 64 ∧ len2 ≤ 1000
  · exact noughts_in a0 a2 len0 cap0 len2 cap2 n _ _ w hT w0.pc w2.pc (by omega) h.1 h.2
  · exact noughts_out a0 a2 len0 cap0 len2 cap2 n w hT w0.len w2.len (by omega)
end Go.Proofs.YtanpbceppjpblabDoor
