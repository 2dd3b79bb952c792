/-
  What the Go function Set of package bitmap answers.
-/
import Derived.Test.YtjfcliihgpkhdaaBMC
namespace Go.Proofs.Ytjfcliihgpkhdaa
set_option linter.unusedVariables false
open Go.RowKit Plain

theorem below_drew1 {B : Nat} {w x : World} (h : Below B w x) : Below B w x.drew := ⟨h.os, h.tape, h.output, h.size, h.block⟩
theorem own_emptyB (w : World) : (w.alloc (.cells #[] 5)).ownsRow w.heap.size 5 1 (.slice (some ⟨w.heap.size, 0, none⟩) 0 0) 0 [] :=
  ⟨rfl, .inr ⟨w.heap.size, 0, #[], rfl, Nat.le_refl _, al_at rfl, Nat.le_refl _, by unfold maxLen; omega, by simp, by simp⟩⟩
set_option maxRecDepth 20000 in
set_option maxHeartbeats 1000000 in
theorem clone_any (a : Option Addr) (n cap : Nat) (L : List Int) (w : World) (h : Bytes w a n L) (hl : n < 1000000) :
    Calls Try.prog 19 #[.slice a n cap] w fun e w' => ∃ a' c', e = .returned (.slice a' n c') ∧ w'.ownsRow w.heap.size 5 1 (.slice a' n c') n (L.map (Value.int .u8)) ∧ Below w.heap.size w w' := by
  obtain ⟨i0, hi, hz0, hz1, hz2⟩ := info_parts info5
  cases a with
  | none =>
    have hn : n = 0 := by
      by_cases hm : n = 0
      · exact hm
      · obtain ⟨_, _, he, _⟩ := h.2.2 (by omega)
        cases he
    subst hn
    obtain rfl : L = [] := List.eq_nil_of_length_eq_zero h.1
    have hq : ∀ x, (binOp .eql 22 (.slice none 0 cap) (.slice none 0 0)).run Try.prog x = .ok (.bool true) x := fun x => eql_nil x 22 _ none 0 cap Try.underlying22
    clear h hl
    go_enter Try.func19, Try.ntmps19
    go_wp2
    go_ret
    exact ⟨_, _, rfl, World.ownsRow_nil _ _ _ _, Below.refl _ _⟩
  | some ad =>
    have HB : Box ((0 + n) * 1 ≤ 140737488355328) := ⟨by omega⟩
    have HN : Box ((L.map (Value.int .u8)).length = n * 1) := ⟨by simp [h.1]⟩
    have HO : Box (∀ u ∈ L.map (Value.int .u8), u.oneCell' = true) := ⟨ints_oneCell _ _⟩
    have HC : Box (∀ j u, (L.map (Value.int .u8))[j]? = some u → w.cell? (ad.add j) = some u) := ⟨bytes_news h⟩
    have hq : ∀ x, (binOp .eql 22 (.slice (some ad) n cap) (.slice none 0 0)).run Try.prog x = .ok (.bool false) x := fun x => eql_nil x 22 _ _ _ _ Try.underlying22
    clear h hl
    go_enter Try.func19, Try.ntmps19
    go_wp2_with (at_builtin; refine wpList_append_own _ rfl _ _ 22 rfl w.heap.size 5 i0 (.int .u8 0) 1 1 Try.underlying22 hi hz0 hz1 hz2 rfl (by decide) _ 0 [] rfl (own_emptyB w) ad n cap (L.map (Value.int .u8)) rfl HN.out (fun j u hj => cell_al _ (HC.out j u hj)) HO.out (by unfold maxLen; have := HB.out; omega) HB.out (by simp) ?_; intro v' w2 hown hgr _; have HX : Box (_ ∧ _) := ⟨hown, hgr⟩; clear hown hgr)
    go_ret
    obtain ⟨x1, x2⟩ := HX.out
    rw [Nat.zero_add, List.nil_append] at x1
    obtain ⟨a', c', rfl⟩ := own_form x1
    have hz : ∀ k, Value.ownBlock (.slice (some ⟨w.heap.size, 0, none⟩) 0 0) = some k → w.heap.size ≤ k := fun k hk => by simp [Value.ownBlock] at hk; omega
    exact ⟨a', c', rfl, x1, below_grown x2 hz⟩
set_option maxHeartbeats 400000 in
theorem set_no (a : Option Addr) (n cap : Nat) (i : Int) (on : Bool) (w : World) (hn : n ≤ 100000) (h9 : i ≤ 9223372036854775807) (ht : thereB n i = false) :
    Calls Try.prog 11 #[.slice a n cap, .int .i64 i, .bool on] w fun e w' => e = .returned (.tuple #[.slice none 0 0, .int .i64 12]) ∧ w = w' := by
  have HT : Box (Calls Try.prog 17 #[.slice a n cap, .int .i64 i] w fun e w' => e = .returned (.bool false) ∧ w = w') := ⟨there_any a n cap i w hn h9 _ ht⟩
  clear ht
  go_enter Try.func11, Try.ntmps11
  go_wp2_with (go_at_call 17; refine Calls.mono HT.out ?_; rintro e w' ⟨rfl, rfl⟩)
  go_ret2
  exact ⟨rfl, rfl⟩
set_option maxRecDepth 20000 in
set_option maxHeartbeats 1000000 in
theorem set_ok (a : Option Addr) (n cap : Nat) (B : List Int) (i : Nat) (on : Bool) (w : World) (hB : Bytes w a n B) (hn : n ≤ 100000) (hi : i < 8 * n) :
    Calls Try.prog 11 #[.slice a n cap, .int .i64 (i : Int), .bool on] w fun e w' => ∃ g c', e = .returned (.tuple #[.slice (some ⟨g, 0, none⟩) n c', .int .i64 0]) ∧ Bytes w' (some ⟨g, 0, none⟩) n (put B i on) ∧ Below w.heap.size w w' ∧ n ≤ c' ∧ c' ≤ maxLen := by
  have HT : Box (Calls Try.prog 17 #[.slice a n cap, .int .i64 (i : Int)] w fun e w' => e = .returned (.bool true) ∧ w = w') := ⟨there_any a n cap i w hn (by omega) _ (by unfold thereB; simp; omega)⟩
  have HC : Box _ := ⟨clone_any a n cap B w hB (by omega)⟩
  obtain ⟨q, hq⟩ : ∃ q : Nat, Box (i / 8 = q) := ⟨i / 8, ⟨rfl⟩⟩
  have hq2 : (i : Int) / 8 = (q : Int) := by have := hq.out; omega
  have hqn : q < n := by have := hq.out; omega
  have hi8 : i ≤ 1000000 := by omega
  have HB : Box (B.length = n ∧ Byt B) := ⟨hB.1, hB.2.1⟩
  have hw : IntKind.i64.wrap (q : Int) = (q : Int) := by rw [IntKind.wrap_i64]; omega
  have hy := hB.2.1 q
  have h2 := shl_bt (i % 8) (Nat.mod_lt _ (by omega))
  have HG : Box (∀ x, Calls Try.prog 18 #[.int .i64 (i : Int)] x fun e w' => e = .returned (.int .u8 (2 ^ (i % 8))) ∧ x = w') := ⟨fun x => bit_any i x hi8⟩
  have HP : Box (put B i on = B.set q (setb (B.getD q 0) (i % 8) on)) := ⟨by unfold put; rw [hq.out]⟩
  have HO : Box (bits (if on then .or else .andNot) .u8 (B.getD q 0) (2 ^ (i % 8)) = setb (B.getD q 0) (i % 8) on ∧ 0 ≤ setb (B.getD q 0) (i % 8) on ∧ setb (B.getD q 0) (i % 8) on ≤ 255) := ⟨by
    refine ⟨?_, setb_bd _ _ _ hy.1 hy.2 (Nat.mod_lt _ (by omega))⟩
    cases on
    · exact andNot_bt _ _ hy.1 hy.2 (Nat.mod_lt _ (by omega))
    · exact or_bt _ _ hy.1 hy.2 (Nat.mod_lt _ (by omega))⟩
  rw [HP.out]
  generalize setb (B.getD q 0) (i % 8) on = z at HO ⊢
  generalize (2 : Int) ^ (i % 8) = y at HG HO h2
  clear hB HP hq
  cases on
  all_goals
    go_enter Try.func11, Try.ntmps11
    go_wp2_with (first
      | (go_at_call 17; refine Calls.mono HT.out ?_; rintro e w' ⟨rfl, rfl⟩)
      | (go_at_call 19; refine HC.out.mono ?_; rintro e w1 ⟨a1, c1, rfl, ho, hb⟩; obtain ⟨g, c2, cur, hv, hbg, hgr, hcs, hcc, hcm, hcur⟩ := own_block ho (by omega); cases hv; have H1 : Box _ := ⟨hb⟩; clear ho hb HC))
    have hc := hcur q hqn
    have H2 : Box (Bytes (w1.setCell ⟨g, q, none⟩ (.int .u8 z)) (some ⟨g, 0, none⟩) n (B.set q z)) := ⟨own_set hgr hcs hcur HB.out.1 HB.out.2 HO.out.2 hqn⟩
    have H3 : Box (Below w.heap.size w (w1.setCell ⟨g, q, none⟩ (.int .u8 z))) := ⟨below_set H1.out hbg _⟩
    have k1 : w1.cell? ⟨g, q, none⟩ = some (.int .u8 (B.getD q 0)) := by rw [cell_of_row _ _ _ _ _ _ hgr]; exact hc
    have k2 := frozen_of_row w1 g q cur 5 hgr
    have hgl := (Array.getElem?_eq_some_iff.1 hgr).1
    have HO2 := HO.out.1
    simp only [if_true, if_false, Bool.false_eq_true] at HO2
    clear hcur hgr hc HO HT
    generalize B.getD q 0 = b at k1 HO2 hy
    go_region_with (go_at_call 18; refine Calls.mono (HG.out _) ?_; rintro e w' ⟨rfl, rfl⟩)
    all_goals (go_wp2; go_ret2; exact ⟨g, c1, rfl, H2.out, below_drew1 H3.out, hcc, hcm⟩)
end Go.Proofs.Ytjfcliihgpkhdaa
