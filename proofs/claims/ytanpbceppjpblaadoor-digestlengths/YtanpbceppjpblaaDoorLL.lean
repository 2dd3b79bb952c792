/-
  The walk of DigestLengths: bytes of one value, of any number, have the digest that the reference says: the law returns true, in every memory that holds the package's two tables.
-/
import Derived.Test.YtanpbceppjpblaaDoorQA
import Derived.Test.YtanpbceppjpblaaDoorB4
import Derived.Test.YtanpbceppjpblaaDoorFS
namespace Go.Proofs.YtanpbceppjpblaaDoor
set_option linter.unusedVariables false
open Go.RowKit Plain

theorem byt_rep (n : Nat) (c : Int) (h : 0 ≤ c ∧ c ≤ 255) : Byt (List.replicate n c) := by
  induction n with
  | zero => exact byt_nil
  | succ n ih => exact byt_cons _ _ h ih

set_option maxRecDepth 20000 in
set_option maxHeartbeats 1000000 in
theorem lengths_any (n c : Int) (w : World) (hT : Tabs w) (hn : 0 ≤ n ∧ n ≤ 65535) (hc : 0 ≤ c ∧ c ≤ 255) :
    Calls Tryd.prog 6 #[.int .u16 n, .int .u8 c] w fun e w' => e = .returned (.bool true) ∧ Below w.heap.size w w' := by
  obtain ⟨N, HN⟩ : ∃ N : Nat, Hid (n % 300 = (N : Int)) := ⟨(n % 300).toNat, by show _ = _; omega⟩
  have hN : n % 300 = (N : Int) := HN.out
  have hNl : N < 300 := by omega
  have HT : Box (∀ x, Below w.heap.size w x → Tabs x) := ⟨fun x hx => hT.below hx⟩
  have H0 : Box (Tabs w) := ⟨hT⟩
  clear hT
  go_enter Tryd.func6, Tryd.ntmps6
  go_wp2_with (go_at_call 9; refine (awake_any _ H0.out).mono ?_; rintro e w1 ⟨rfl, hb1⟩; have H1 : Box (Below w.heap.size w w1) := ⟨hb1⟩; clear hb1)
  obtain ⟨S, HS⟩ : ∃ S, Hid (w1.heap.size = S) := ⟨_, rfl⟩
  go_loopw [6, 7] (fun v i wr => ∃ k : Nat, k ≤ N ∧ i = .int .i64 k ∧ Box (wr.ownsRow S 5 1 v k ((List.replicate k c).map (Value.int .u8)) ∧ Below S w1 wr ∧ S ≤ wr.heap.size)) (fun _ i _ => N - (intOf i).toNat)
  case atStart => exact ⟨0, Nat.zero_le _, rfl, ⟨World.ownsRow_nil _ _ _ _, Below.refl _ _, by rw [HS.out]; exact Nat.le_refl _⟩⟩
  case round =>
    obtain ⟨k, hk, rfl, HB⟩ := hrel
    obtain ⟨av, cv, hv⟩ := own_form HB.out.1
    subst hv
    by_cases hlt : k < N
    · go_wp2_with (at_builtin; refine wpList_app1 rfl (.tmp 18) (.tmp 20) rfl S k _ _ c w1 rfl rfl HB.out.1 (by omega) HB.out.2.1 HB.out.2.2 ?_; intro v3 w3 H3)
      go_roundw
      case rel =>
        refine ⟨k + 1, by omega, by go_num, ⟨?_, H3.out.2⟩⟩
        rw [List.replicate_succ']
        exact H3.out.1
      case measure => simp [intOf]; omega
    · have hkN : k = N := by omega
      subst hkN
      have hBy := own_bytes HB.out.1 (byt_rep k c hc)
      have hcp := own_cap HB.out.1
      unfold maxLen at hcp
      obtain ⟨X, HX⟩ : ∃ X, Box (sha (List.replicate k c) = X) := ⟨_, ⟨rfl⟩⟩
      have eX := eq_same25 X (by rw [← HX.out]; exact length_sha _)
      have HWr : Box (Below w.heap.size w wr) := ⟨H1.out.trans (HB.out.2.1.mono (by rw [← HS.out]; exact H1.out.size))⟩
      have HOF : Box (Calls Tryd.prog 10 #[.slice av k cv] wr fun e w' => e = .returned (.agg (u8s X)) ∧ Below wr.heap.size wr w') := ⟨of_is av k cv _ X wr (HT.out _ HWr.out) ⟨hBy, hcp.1, by show cv ≤ 9223372036854775807; omega⟩ (by omega) HX.out⟩
      have HRF : Box (∀ x, Below wr.heap.size wr x → Calls Tryd.prog 11 #[.slice av k cv] x fun e w' => e = .returned (.agg (u8s X)) ∧ Below x.heap.size x w') := ⟨fun x hx => by rw [← HX.out]; exact rof_any av k cv _ x (hBy.below hx) (by omega)⟩
      clear hBy hcp HB hk hlt
      go_wp2_with (first
        | (go_at_call 10; refine Calls.mono HOF.out ?_; rintro e w4 ⟨rfl, hb4⟩; have H4 : Box (Below wr.heap.size wr w4) := ⟨hb4⟩; clear hb4)
        | (go_at_call 11; refine Calls.mono (HRF.out _ H4.out) ?_; rintro e w5 ⟨rfl, hb5⟩; have H5 : Box (Below w.heap.size w w5) := ⟨below_to (below_to HWr.out H4.out) hb5⟩; clear hb5))
      go_ret
      exact ⟨rfl, H5.out⟩
theorem digestLengths_walk (n c : Int) (w : World) (hT : Tabs w) (h0 : (Lit.int .u16 n).wf = true) (h1 : (Lit.int .u8 c).wf = true) :
    Calls Tryd.prog 6 #[.int .u16 n, .int .u8 c] w fun e w' => e = .returned (.bool true) ∧ Below w.heap.size w w' := by
  have b0 := bounds_u16 h0
  have b1 := bounds_u8 h1
  exact lengths_any n c w hT (by omega) (by omega)
end Go.Proofs.YtanpbceppjpblaaDoor
