/-
  The walk of BitmapRows: the first bit that isn't set, and how many are, from anywhere to anywhere, are the reference's, or refused: the law returns true.
-/
import Derived.Test.YtjfcliihgpkhdaaBMI
namespace Go.Proofs.Ytjfcliihgpkhdaa
set_option linter.unusedVariables false
open Go.RowKit Plain

theorem firstV_form (B : List Int) (n : Nat) (a t : Int) : ∃ p e : Int, firstV B n a t = .tuple #[.int .i64 p, .int .i64 e] := by
  unfold firstV
  split
  · split
    · exact ⟨_, _, rfl⟩
    · exact ⟨_, _, rfl⟩
  · exact ⟨_, _, rfl⟩
theorem cntV_form (B : List Int) (n : Nat) (a t : Int) : ∃ p e : Int, cntV B n a t = .tuple #[.int .i64 p, .int .i64 e] := by
  unfold cntV
  split
  · exact ⟨_, _, rfl⟩
  · exact ⟨_, _, rfl⟩
set_option maxRecDepth 20000 in
set_option maxHeartbeats 2000000 in
theorem rows_any (a : Option Addr) (n cap : Nat) (B : List Int) (i j : Int) (w : World) (hB : Bytes w a n B) (hn : n ≤ 300) (hc : n ≤ cap) (hc9 : cap ≤ maxLen) (h9 : -9223372036854775808 ≤ j ∧ j ≤ 9223372036854775807) :
    Calls Try.prog 4 #[.slice a n cap, .int .i64 i, .int .i64 j] w fun e w' => e = .returned (.bool true) ∧ Below w.heap.size w w' := by
  have HB : Box (∀ x, Below w.heap.size w x → Bytes x a n B) := ⟨fun x hx => hB.below hx⟩
  have HA : Box _ := ⟨awake_any w⟩
  obtain ⟨p, e1, hf⟩ := firstV_form B n i j
  obtain ⟨q, e2, hg⟩ := cntV_form B n i j
  have H1 : Box (∀ x, Below w.heap.size w x → Calls Try.prog 13 #[.slice a n cap, .int .i64 i, .int .i64 j] x fun e w' => e = .returned (.tuple #[.int .i64 p, .int .i64 e1]) ∧ x = w') := ⟨fun x hx => by rw [← hf]; exact first_any a n cap B i j x (HB.out x hx) (by omega) h9.1 h9.2⟩
  have H2 : Box (∀ x, Calls Try.prog 14 #[.string (strOfNums B), .int .i64 i, .int .i64 j] x fun e w' => e = .returned (.tuple #[.int .i64 p, .int .i64 e1]) ∧ Below x.heap.size x w') := ⟨fun x => by rw [← hf]; exact rfirst_any n B i j x hB.1 hB.2.1 (by omega) h9⟩
  have H3 : Box (∀ x, Below w.heap.size w x → Calls Try.prog 15 #[.slice a n cap, .int .i64 i, .int .i64 j] x fun e w' => e = .returned (.tuple #[.int .i64 q, .int .i64 e2]) ∧ Below x.heap.size x w') := ⟨fun x hx => by rw [← hg]; exact count_any a n cap B i j x (HB.out x hx) (by omega) hc hc9 h9.1 h9.2⟩
  have H4 : Box (∀ x, Calls Try.prog 16 #[.string (strOfNums B), .int .i64 i, .int .i64 j] x fun e w' => e = .returned (.tuple #[.int .i64 q, .int .i64 e2]) ∧ Below x.heap.size x w') := ⟨fun x => by rw [← hg]; exact rcount_any n B i j x hB.1 hB.2.1 (by omega) h9⟩
  unfold maxLen at hc9
  clear hB hf hg
  go_enter Try.func4, Try.ntmps4
  go_wp2_with (first
    | (go_at_call 8; refine HA.out.mono ?_; rintro e w1 ⟨rfl, hb1⟩; have B1 : Box _ := ⟨hb1⟩; clear hb1)
    | (go_at_call 13; refine (H1.out _ B1.out).mono ?_; rintro e w2 ⟨rfl, rfl⟩)
    | (refine wpList_run rfl _ _ (exec_conv (.tmp 30) rfl rfl (HB.out _ B1.out)) ?_)
    | (go_at_call 14; refine (H2.out _).mono ?_; rintro e w3 ⟨rfl, hb3⟩; have B3 : Box _ := ⟨below_to B1.out hb3⟩; clear hb3)
    | (go_at_call 15; refine (H3.out _ B3.out).mono ?_; rintro e w4 ⟨rfl, hb4⟩; have B4 : Box _ := ⟨below_to B3.out hb4⟩; clear hb4)
    | (refine wpList_run rfl _ _ (exec_conv (.tmp 45) rfl rfl (HB.out _ B4.out)) ?_)
    | (go_at_call 16; refine (H4.out _).mono ?_; rintro e w5 ⟨rfl, hb5⟩; have B5 : Box _ := ⟨below_to B4.out hb5⟩; clear hb5))
  go_ret
  exact ⟨rfl, B5.out⟩
set_option maxHeartbeats 400000 in
theorem rows_long (a : Option Addr) (n cap : Nat) (i j : Int) (w : World) (hn : 300 < n) (hn2 : n ≤ 9223372036854775807) :
    Calls Try.prog 4 #[.slice a n cap, .int .i64 i, .int .i64 j] w fun e w' => e = .returned (.bool true) ∧ Below w.heap.size w w' := by
  have HA : Box _ := ⟨awake_any w⟩
  go_enter Try.func4, Try.ntmps4
  go_wp2_with (go_at_call 8; refine HA.out.mono ?_; rintro e w1 ⟨rfl, hb1⟩; have B1 : Box _ := ⟨hb1⟩; clear hb1)
  go_ret
  exact ⟨rfl, B1.out⟩
theorem bitmapRows_walk (a : Option Addr) (n cap : Nat) (zs : List Int) (i j : Int) (w : World) (hb : IsRow .u8 w a n cap zs) (hi : (Lit.int .i64 i).wf = true) (hj : (Lit.int .i64 j).wf = true) :
    Calls Try.prog 4 #[.slice a n cap, .int .i64 i, .int .i64 j] w fun e w' => e = .returned (.bool true) ∧ Below w.heap.size w w' := by
  obtain ⟨h1, h2, h3⟩ := hb.pc
  have h9 := bounds_i64 hj
  by_cases hn : 300 < n
  · exact rows_long a n cap i j w hn (by omega)
  · exact rows_any a n cap _ i j w h1 (by omega) h2 (by unfold maxLen; omega) h9
end Go.Proofs.Ytjfcliihgpkhdaa
