/-
  The walk of BitmapSets: any bit of any bytes, got and set, is the reference's, or refused: the law returns true.
-/
import Derived.Test.YtjfcliihgpkhdaaBMH
namespace Go.Proofs.Ytjfcliihgpkhdaa
set_option linter.unusedVariables false
open Go.RowKit Plain

theorem getV_no {B : List Int} {n : Nat} {i : Int} (h : thereB n i = false) : getV B n i = .tuple #[.bool false, .int .i64 12] := by unfold getV; rw [if_neg (by simp [h])]
theorem getV_ok {B : List Int} {n m : Nat} (h : m < 8 * n) : getV B n m = .tuple #[.bool (onB B m), .int .i64 0] := by unfold getV; rw [if_pos (by unfold thereB; simp; omega)]; rfl
theorem rsetV_no {B : List Int} {n : Nat} {i : Int} {on : Bool} (h : thereB n i = false) : rsetV B n i on = .tuple #[.string ByteArray.empty, .int .i64 12] := by unfold rsetV; rw [if_neg (by simp [h])]
theorem rsetV_ok {B : List Int} {n m : Nat} {on : Bool} (h : m < 8 * n) : rsetV B n m on = .tuple #[.string (strOfNums (put B m on)), .int .i64 0] := by unfold rsetV; rw [if_pos (by unfold thereB; simp; omega)]; rfl
set_option maxRecDepth 20000 in
set_option maxHeartbeats 2000000 in
theorem sets_no (a : Option Addr) (n cap : Nat) (B : List Int) (i : Int) (on : Bool) (w : World) (hB : Bytes w a n B) (hn : n ≤ 300) (h9 : -9223372036854775808 ≤ i ∧ i ≤ 9223372036854775807) (ht : thereB n i = false) :
    Calls Try.prog 3 #[.slice a n cap, .int .i64 i, .bool on] w fun e w' => e = .returned (.bool true) ∧ Below w.heap.size w w' := by
  have HB : Box (∀ x, Below w.heap.size w x → Bytes x a n B) := ⟨fun x hx => hB.below hx⟩
  have HA : Box _ := ⟨awake_any w⟩
  have H1 : Box (∀ x, Below w.heap.size w x → Calls Try.prog 9 #[.slice a n cap, .int .i64 i] x fun e w' => e = .returned (.tuple #[.bool false, .int .i64 12]) ∧ Below x.heap.size x w') := ⟨fun x hx => by rw [← getV_no (B := B) ht]; exact get_any a n cap B i x (HB.out x hx) (by omega) h9.2⟩
  have H2 : Box (∀ x, Calls Try.prog 10 #[.string (strOfNums B)] x fun e w' => ∃ v, e = .returned v ∧ Gr x w' 4 v (8 * n) (bols (bitsOf B (8 * n)))) := ⟨fun x => rbits_any n B x hB.1 hB.2.1 (by omega)⟩
  have H3 : Box (∀ x, Calls Try.prog 11 #[.slice a n cap, .int .i64 i, .bool on] x fun e w' => e = .returned (.tuple #[.slice none 0 0, .int .i64 12]) ∧ x = w') := ⟨fun x => set_no a n cap i on x (by omega) h9.2 ht⟩
  have H4 : Box (∀ x, Calls Try.prog 12 #[.string (strOfNums B), .int .i64 i, .bool on] x fun e w' => e = .returned (.tuple #[.string ByteArray.empty, .int .i64 12]) ∧ Below x.heap.size x w') := ⟨fun x => by rw [← rsetV_no (B := B) (on := on) ht]; exact rset_any n B i on x hB.1 hB.2.1 (by omega) h9⟩
  have kc := conv_zero
  clear hB ht
  go_enter Try.func3, Try.ntmps3
  go_wp2_with (first
    | (go_at_call 8; refine HA.out.mono ?_; rintro e w1 ⟨rfl, hb1⟩; have B1 : Box _ := ⟨hb1⟩; clear hb1)
    | (go_at_call 9; refine (H1.out _ B1.out).mono ?_; rintro e w2 ⟨rfl, hb2⟩; have B2 : Box _ := ⟨below_to B1.out hb2⟩; clear hb2)
    | (refine wpList_run rfl _ _ (exec_conv (.tmp 27) rfl rfl (HB.out _ B2.out)) ?_)
    | (go_at_call 10; refine (H2.out _).mono ?_; rintro e w3 ⟨v3, rfl, hg⟩; have B3 : Box _ := ⟨below_to B2.out hg.bel⟩; clear hg)
    | (go_at_call 11; refine (H3.out _).mono ?_; rintro e w4 ⟨rfl, rfl⟩)
    | (refine wpList_run rfl _ _ (exec_conv (.tmp 38) rfl rfl (HB.out _ B3.out)) ?_)
    | (go_at_call 12; refine (H4.out _).mono ?_; rintro e w5 ⟨rfl, hb5⟩; have B5 : Box _ := ⟨below_to B3.out hb5⟩; clear hb5))
  go_ret
  exact ⟨rfl, B5.out⟩
set_option maxRecDepth 20000 in
set_option maxHeartbeats 2000000 in
theorem sets_ok (a : Option Addr) (n cap : Nat) (B : List Int) (m : Nat) (on : Bool) (w : World) (hB : Bytes w a n B) (hn : n ≤ 300) (hm : m < 8 * n) :
    Calls Try.prog 3 #[.slice a n cap, .int .i64 (m : Int), .bool on] w fun e w' => e = .returned (.bool true) ∧ Below w.heap.size w w' := by
  have HB : Box (∀ x, Below w.heap.size w x → Bytes x a n B) := ⟨fun x hx => hB.below hx⟩
  have HA : Box _ := ⟨awake_any w⟩
  have H1 : Box (∀ x, Below w.heap.size w x → Calls Try.prog 9 #[.slice a n cap, .int .i64 (m : Int)] x fun e w' => e = .returned (.tuple #[.bool (onB B m), .int .i64 0]) ∧ Below x.heap.size x w') := ⟨fun x hx => by rw [← getV_ok hm]; exact get_any a n cap B m x (HB.out x hx) (by omega) (by omega)⟩
  have H2 : Box (∀ x, Calls Try.prog 10 #[.string (strOfNums B)] x fun e w' => ∃ g c, e = .returned (.slice (some ⟨g, 0, none⟩) (8 * n) c) ∧ g < w'.heap.size ∧ w'.cell? ⟨g, m, none⟩ = some (.bool (onB B m)) ∧ Below x.heap.size x w') := ⟨fun x => (rbits_any n B x hB.1 hB.2.1 (by omega)).mono fun e w' ⟨v, h1, h2⟩ => by
    obtain ⟨g, c1, cur, rfl, hbg, hgr, hcs, _, _, hc⟩ := own_blockB h2.row (by omega)
    exact ⟨g, c1, h1, (Array.getElem?_eq_some_iff.1 hgr).1, by rw [cell_of_row _ _ _ _ _ _ hgr, hc m hm, getD_bitsOf _ _ _ hm], h2.bel⟩⟩
  have H3 : Box (∀ x, Below w.heap.size w x → Calls Try.prog 11 #[.slice a n cap, .int .i64 (m : Int), .bool on] x fun e w' => ∃ g c', e = .returned (.tuple #[.slice (some ⟨g, 0, none⟩) n c', .int .i64 0]) ∧ Bytes w' (some ⟨g, 0, none⟩) n (put B m on) ∧ Below x.heap.size x w') := ⟨fun x hx => (set_ok a n cap B m on x (HB.out x hx) (by omega) hm).mono fun e w' ⟨g, c, h1, h2, h3, _⟩ => ⟨g, c, h1, h2, h3⟩⟩
  have H4 : Box (∀ x, Calls Try.prog 12 #[.string (strOfNums B), .int .i64 (m : Int), .bool on] x fun e w' => e = .returned (.tuple #[.string (strOfNums (put B m on)), .int .i64 0]) ∧ Below x.heap.size x w') := ⟨fun x => by rw [← rsetV_ok hm]; exact rset_any n B m on x hB.1 hB.2.1 (by omega) (by omega)⟩
  have HP : Box (Byt (put B m on)) := ⟨byt_put B m on hB.2.1⟩
  have hm2 : (m : Int) < 8 * (n : Int) := by omega
  clear hB
  generalize onB B m = r at H1 H2
  generalize put B m on = P at H3 H4 HP
  go_enter Try.func3, Try.ntmps3
  go_upto_region 10 with (first
    | (go_at_call 8; refine HA.out.mono ?_; rintro e w1 ⟨rfl, hb1⟩; have B1 : Box _ := ⟨hb1⟩; clear hb1)
    | (go_at_call 9; refine (H1.out _ B1.out).mono ?_; rintro e w2 ⟨rfl, hb2⟩; have B2 : Box _ := ⟨below_to B1.out hb2⟩; clear hb2)
    | (refine wpList_run rfl _ _ (exec_conv (.tmp 27) rfl rfl (HB.out _ B2.out)) ?_)
    | (go_at_call 10; refine (H2.out _).mono ?_; rintro e w3 ⟨g3, c3, rfl, hl3, hc3, hb3⟩; have B3 : Box (Below w.heap.size w w3) := ⟨below_to B2.out hb3⟩; have H5 : Box (g3 < w3.heap.size ∧ w3.cell? ⟨g3, m, none⟩ = some (.bool r)) := ⟨hl3, hc3⟩; clear hb3 hl3 hc3)
    | (go_at_call 11; refine (H3.out _ B3.out).mono ?_; rintro e w4 ⟨g4, c4, rfl, hB4, hb4⟩; have B4 : Box (Below w.heap.size w w4 ∧ Bytes w4 (some ⟨g4, 0, none⟩) n P ∧ g3 < w4.heap.size ∧ w4.cell? ⟨g3, m, none⟩ = some (.bool r)) := ⟨below_to B3.out hb4, hB4, Nat.lt_of_lt_of_le H5.out.1 hb4.size, (hb4.cell H5.out.1).trans H5.out.2⟩; clear hb4 hB4)
    | (refine wpList_run rfl _ _ (exec_conv (.tmp 38) rfl rfl (HB.out _ B4.out.1)) ?_)
    | (go_at_call 12; refine (H4.out _).mono ?_; rintro e w5 ⟨rfl, hb5⟩; have B5 : Box (Below w.heap.size w w5 ∧ Bytes w5 (some ⟨g4, 0, none⟩) n P ∧ w5.cell? ⟨g3, m, none⟩ = some (.bool r)) := ⟨below_to B4.out.1 hb5, B4.out.2.1.below hb5, (hb5.cell B4.out.2.2.1).trans B4.out.2.2.2⟩; clear hb5))
  have kr := B5.out.2.2
  go_wp2_with (first
    | (refine wpList_run rfl _ _ (exec_conv (.tmp 45) rfl rfl B5.out.2.1) ?_)
    | (refine wpList_run rfl _ _ (exec_strN (.tmp 46) (.tmp 47) _ rfl P P HP.out HP.out rfl rfl) ?_))
  go_ret
  exact ⟨rfl, B5.out.1⟩
set_option maxHeartbeats 400000 in
theorem sets_long (a : Option Addr) (n cap : Nat) (i : Int) (on : Bool) (w : World) (hn : 300 < n) (hn2 : n ≤ 9223372036854775807) :
    Calls Try.prog 3 #[.slice a n cap, .int .i64 i, .bool on] w fun e w' => e = .returned (.bool true) ∧ Below w.heap.size w w' := by
  have HA : Box _ := ⟨awake_any w⟩
  go_enter Try.func3, Try.ntmps3
  go_wp2_with (go_at_call 8; refine HA.out.mono ?_; rintro e w1 ⟨rfl, hb1⟩; have B1 : Box _ := ⟨hb1⟩; clear hb1)
  go_ret
  exact ⟨rfl, B1.out⟩
theorem bitmapSets_walk (a : Option Addr) (n cap : Nat) (zs : List Int) (i : Int) (on : Bool) (w : World) (hb : IsRow .u8 w a n cap zs) (hi : (Lit.int .i64 i).wf = true) :
    Calls Try.prog 3 #[.slice a n cap, .int .i64 i, .bool on] w fun e w' => e = .returned (.bool true) ∧ Below w.heap.size w w' := by
  obtain ⟨h1, h2, h3⟩ := hb.pc
  have h9 := bounds_i64 hi
  by_cases hn : 300 < n
  · exact sets_long a n cap i on w hn (by omega)
  · by_cases h : 0 ≤ i ∧ i < 8 * (n : Int)
    · obtain ⟨m, rfl⟩ : ∃ m : Nat, i = m := ⟨i.toNat, by omega⟩
      exact sets_ok a n cap _ m on w h1 (by omega) (by omega)
    · exact sets_no a n cap _ i on w h1 (by omega) h9 (by unfold thereB; simpa using h)
end Go.Proofs.Ytjfcliihgpkhdaa
