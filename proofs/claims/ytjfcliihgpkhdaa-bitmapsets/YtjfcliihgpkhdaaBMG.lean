/-
  What the reference's Set, First and Count answer.
-/
import Derived.Test.YtjfcliihgpkhdaaBMF
import Derived.Test.YtjfcliihgpkhdaaBMD
namespace Go.Proofs.Ytjfcliihgpkhdaa
set_option linter.unusedVariables false
open Go.RowKit Plain

def rsetV (B : List Int) (n : Nat) (i : Int) (on : Bool) : Value := if thereB n i then .tuple #[.string (strOfNums (put B i.toNat on)), .int .i64 0] else .tuple #[.string ByteArray.empty, .int .i64 12]
set_option maxRecDepth 20000 in
set_option maxHeartbeats 2000000 in
theorem rset_any (n : Nat) (B : List Int) (i : Int) (on : Bool) (w : World) (hn : B.length = n) (hB : Byt B) (hl : n ≤ 1000) (h9 : -9223372036854775808 ≤ i ∧ i ≤ 9223372036854775807) :
    Calls Try.prog 12 #[.string (strOfNums B), .int .i64 i, .bool on] w fun e w' => e = .returned (rsetV B n i on) ∧ Below w.heap.size w w' := by
  have HA : Box _ := ⟨rbits_any n B w hn hB hl⟩
  generalize hs : strOfNums B = s at HA ⊢
  by_cases h0 : i < 0
  · have HV : Box (rsetV B n i on = .tuple #[.string ByteArray.empty, .int .i64 12]) := ⟨by unfold rsetV; rw [if_neg (by unfold thereB; simp; omega)]⟩
    rw [HV.out]
    clear hs hB hn
    go_enter Try.func12, Try.ntmps12
    go_wp2_with (go_at_call 10; refine HA.out.mono ?_; rintro e w1 ⟨v, rfl, hg⟩; have HG : Box _ := ⟨hg⟩; clear hg)
    go_ret2
    exact ⟨rfl, HG.out.bel⟩
  · by_cases h1 : 8 * (n : Int) ≤ i
    · have HV : Box (rsetV B n i on = .tuple #[.string ByteArray.empty, .int .i64 12]) := ⟨by unfold rsetV; rw [if_neg (by unfold thereB; simp; omega)]⟩
      rw [HV.out]
      clear hs hB hn
      go_enter Try.func12, Try.ntmps12
      go_wp2_with (go_at_call 10; refine HA.out.mono ?_; rintro e w1 ⟨v, rfl, hg⟩; have HG : Box _ := ⟨hg⟩; obtain ⟨a1, c1, rfl⟩ := own_form2 hg.row; clear hg)
      go_ret2
      exact ⟨rfl, HG.out.bel⟩
    · obtain ⟨m, rfl⟩ : ∃ m : Nat, i = m := ⟨i.toNat, by omega⟩
      have hm : m < 8 * n := by omega
      have HV : Box (rsetV B n m on = .tuple #[.string (strOfNums (put B m on)), .int .i64 0]) := ⟨by unfold rsetV; rw [if_pos (by unfold thereB; simp; omega)]; rfl⟩
      rw [HV.out]
      have HP : Box ((bitsOf B (8 * n)).set m on = bitsOf (put B m on) (8 * n) ∧ (put B m on).length = n ∧ Byt (put B m on)) := ⟨by rw [← hn]; exact bitsOf_put B m on hB (by omega), by rw [length_put, hn], byt_put B m on hB⟩
      clear hs hB HV hn
      go_enter Try.func12, Try.ntmps12
      go_upto_region 4 with (go_at_call 10; refine HA.out.mono ?_; rintro e w1 ⟨v, rfl, hg⟩; have HG : Box _ := ⟨hg⟩; obtain ⟨g, c1, cur, rfl, hbg, hgr, hcs, _, _, hc⟩ := own_blockB hg.row (by omega); clear hg)
      have H2 : Box (Bols (w1.setCell ⟨g, m, none⟩ (.bool on)) (some ⟨g, 0, none⟩) (8 * n) (bitsOf (put B m on) (8 * n))) := ⟨by rw [← HP.out.1]; exact bols_set hgr hcs hc (length_bitsOf _ _) hm⟩
      have H3 : Box (Below w.heap.size w (w1.setCell ⟨g, m, none⟩ (.bool on))) := ⟨below_set HG.out.bel hbg _⟩
      have k1 : w1.cell? ⟨g, m, none⟩ = some (.bool ((bitsOf B (8 * n)).getD m false)) := by rw [cell_of_row _ _ _ _ _ _ hgr]; exact hc m hm
      have k2 := frozen_of_row w1 g m cur 4 hgr
      clear hgr hcs hc HG
      have HY : Box _ := ⟨rbytes_any n (put B m on) (some ⟨g, 0, none⟩) c1 _ HP.out.2.1 HP.out.2.2 hl H2.out⟩
      go_wp2_with (go_at_call 20; refine HY.out.mono ?_; rintro e w3 ⟨rfl, hb3⟩; have B3 : Box _ := ⟨hb3⟩; clear hb3)
      go_ret2
      exact ⟨rfl, below_to H3.out B3.out⟩
set_option maxRecDepth 20000 in
set_option maxHeartbeats 2000000 in
theorem rfirst_any (n : Nat) (B : List Int) (a t : Int) (w : World) (hn : B.length = n) (hB : Byt B) (hl : n ≤ 1000) (h8 : -9223372036854775808 ≤ t ∧ t ≤ 9223372036854775807) :
    Calls Try.prog 14 #[.string (strOfNums B), .int .i64 a, .int .i64 t] w fun e w' => e = .returned (firstV B n a t) ∧ Below w.heap.size w w' := by
  have HA : Box _ := ⟨rbits_any n B w hn hB hl⟩
  generalize hs : strOfNums B = s at HA ⊢
  have hno : ¬ (0 ≤ a ∧ a ≤ t ∧ t ≤ 8 * (n : Int)) → firstV B n a t = .tuple #[.int .i64 0, .int .i64 12] := fun h => by unfold firstV; rw [if_neg (by unfold spanB; simpa using h)]
  clear hs
  by_cases h0 : a < 0
  · have HV : Box _ := ⟨hno (by omega)⟩
    rw [HV.out]
    clear hB hn hno
    go_enter Try.func14, Try.ntmps14
    go_wp2_with (go_at_call 10; refine HA.out.mono ?_; rintro e w1 ⟨v, rfl, hg⟩; have HG : Box _ := ⟨hg⟩; obtain ⟨a1, c1, rfl⟩ := own_form2 hg.row; clear hg)
    go_ret2
    exact ⟨rfl, HG.out.bel⟩
  by_cases h1 : t < a
  · have HV : Box _ := ⟨hno (by omega)⟩
    rw [HV.out]
    clear hB hn hno
    go_enter Try.func14, Try.ntmps14
    go_wp2_with (go_at_call 10; refine HA.out.mono ?_; rintro e w1 ⟨v, rfl, hg⟩; have HG : Box _ := ⟨hg⟩; obtain ⟨a1, c1, rfl⟩ := own_form2 hg.row; clear hg)
    go_ret2
    exact ⟨rfl, HG.out.bel⟩
  by_cases h2 : 8 * (n : Int) < t
  · have HV : Box _ := ⟨hno (by omega)⟩
    rw [HV.out]
    clear hB hn hno
    go_enter Try.func14, Try.ntmps14
    go_wp2_with (go_at_call 10; refine HA.out.mono ?_; rintro e w1 ⟨v, rfl, hg⟩; have HG : Box _ := ⟨hg⟩; obtain ⟨a1, c1, rfl⟩ := own_form2 hg.row; clear hg)
    go_ret2
    exact ⟨rfl, HG.out.bel⟩
  obtain ⟨i, rfl⟩ : ∃ i : Nat, a = i := ⟨a.toNat, by omega⟩
  obtain ⟨j, rfl⟩ : ∃ j : Nat, t = j := ⟨t.toNat, by omega⟩
  have hij : i ≤ j := by omega
  have hjn : j ≤ 8 * n := by omega
  have HJ : Box (i ≤ j ∧ j ≤ 8 * n) := ⟨hij, hjn⟩
  obtain ⟨V, HV⟩ : ∃ V, Box (firstV B n i j = V) := ⟨_, ⟨rfl⟩⟩
  rw [HV.out]
  clear hB hn hno h0
  go_enter Try.func14, Try.ntmps14
  go_wp2_with (go_at_call 10; refine HA.out.mono ?_; rintro e w1 ⟨v, rfl, hg⟩; have HG : Box _ := ⟨hg⟩; obtain ⟨a1, c1, rfl, hR⟩ := bols_row hg.row; have HR : Box _ := ⟨hR⟩; clear hg hR)
  go_loop [9] (fun x => ∃ k : Nat, i ≤ k ∧ k ≤ j ∧ x = .int .i64 (k : Int) ∧ Box (All B i k)) (fun x => j - (intOf x).toNat)
  case atStart => exact ⟨i, Nat.le_refl _, hij, rfl, ⟨fun x h1 h2 => by omega⟩⟩
  case round =>
    obtain ⟨k, hk1, hk2, rfl, HK⟩ := hrel
    by_cases hlt : k < j
    · have hlt2 : (k : Int) < (j : Int) := by omega
      have hk3 : k < 8 * n := by omega
      obtain ⟨b, o, rfl, _, hc⟩ := HR.out.2 (by omega)
      have hx := hc k hk3
      rw [getD_bitsOf _ _ _ hk3] at hx
      clear hc
      cases hon : onB B k
      · rw [hon] at hx
        have hv : Box (firstV B n i j = .tuple #[.int .i64 (k : Int), .int .i64 0]) := ⟨firstV_ok B n i j k hk1 hlt HJ.out.2 HK.out hon⟩
        rw [hv.out] at HV
        clear hon
        go_wp2
        go_ret2
        exact ⟨by rw [← HV.out]; rfl, HG.out.bel⟩
      · rw [hon] at hx
        have H1 : Box (All B i (k + 1)) := ⟨all_one B i k HK.out (fun _ => hon)⟩
        clear hon
        go_wp2
        go_round
        case rel => exact ⟨k + 1, by omega, by omega, by go_num, H1⟩
        case measure => simp [intOf]; omega
    · obtain rfl : k = j := by omega
      have hv : Box (firstV B n i k = .tuple #[.int .i64 0, .int .i64 20]) := ⟨firstV_no B n i k HJ.out.1 HJ.out.2 HK.out⟩
      rw [hv.out] at HV
      go_wp2
      go_ret2
      exact ⟨by rw [← HV.out]; rfl, HG.out.bel⟩
set_option maxRecDepth 20000 in
set_option maxHeartbeats 2000000 in
theorem rcount_any (n : Nat) (B : List Int) (a t : Int) (w : World) (hn : B.length = n) (hB : Byt B) (hl : n ≤ 1000) (h8 : -9223372036854775808 ≤ t ∧ t ≤ 9223372036854775807) :
    Calls Try.prog 16 #[.string (strOfNums B), .int .i64 a, .int .i64 t] w fun e w' => e = .returned (cntV B n a t) ∧ Below w.heap.size w w' := by
  have HA : Box _ := ⟨rbits_any n B w hn hB hl⟩
  generalize hs : strOfNums B = s at HA ⊢
  have hno : ¬ (0 ≤ a ∧ a ≤ t ∧ t ≤ 8 * (n : Int)) → cntV B n a t = .tuple #[.int .i64 0, .int .i64 12] := fun h => by unfold cntV; rw [if_neg (by unfold spanB; simpa using h)]
  clear hs
  by_cases h0 : a < 0
  · have HV : Box _ := ⟨hno (by omega)⟩
    rw [HV.out]
    clear hB hn hno
    go_enter Try.func16, Try.ntmps16
    go_wp2_with (go_at_call 10; refine HA.out.mono ?_; rintro e w1 ⟨v, rfl, hg⟩; have HG : Box _ := ⟨hg⟩; obtain ⟨a1, c1, rfl⟩ := own_form2 hg.row; clear hg)
    go_ret2
    exact ⟨rfl, HG.out.bel⟩
  by_cases h1 : t < a
  · have HV : Box _ := ⟨hno (by omega)⟩
    rw [HV.out]
    clear hB hn hno
    go_enter Try.func16, Try.ntmps16
    go_wp2_with (go_at_call 10; refine HA.out.mono ?_; rintro e w1 ⟨v, rfl, hg⟩; have HG : Box _ := ⟨hg⟩; obtain ⟨a1, c1, rfl⟩ := own_form2 hg.row; clear hg)
    go_ret2
    exact ⟨rfl, HG.out.bel⟩
  by_cases h2 : 8 * (n : Int) < t
  · have HV : Box _ := ⟨hno (by omega)⟩
    rw [HV.out]
    clear hB hn hno
    go_enter Try.func16, Try.ntmps16
    go_wp2_with (go_at_call 10; refine HA.out.mono ?_; rintro e w1 ⟨v, rfl, hg⟩; have HG : Box _ := ⟨hg⟩; obtain ⟨a1, c1, rfl⟩ := own_form2 hg.row; clear hg)
    go_ret2
    exact ⟨rfl, HG.out.bel⟩
  obtain ⟨i, rfl⟩ : ∃ i : Nat, a = i := ⟨a.toNat, by omega⟩
  obtain ⟨j, rfl⟩ : ∃ j : Nat, t = j := ⟨t.toNat, by omega⟩
  have hij : i ≤ j := by omega
  have hjn : j ≤ 8 * n := by omega
  have HV : Box (cntV B n i j = .tuple #[.int .i64 (cnt B j - cnt B i), .int .i64 0]) := ⟨by unfold cntV; rw [if_pos (by unfold spanB; simp; omega)]; rfl⟩
  rw [HV.out]
  clear hB hn hno h0
  go_enter Try.func16, Try.ntmps16
  go_wp2_with (go_at_call 10; refine HA.out.mono ?_; rintro e w1 ⟨v, rfl, hg⟩; have HG : Box _ := ⟨hg⟩; obtain ⟨a1, c1, rfl, hR⟩ := bols_row hg.row; have HR : Box _ := ⟨hR⟩; clear hg hR)
  go_loop [9, 10] (fun c x => ∃ k : Nat, i ≤ k ∧ k ≤ j ∧ x = .int .i64 (k : Int) ∧ c = .int .i64 (cnt B k - cnt B i)) (fun _ x => j - (intOf x).toNat)
  case atStart => exact ⟨i, Nat.le_refl _, hij, rfl, by rw [Int.sub_self]⟩
  case round =>
    obtain ⟨k, hk1, hk2, rfl, rfl⟩ := hrel
    by_cases hlt : k < j
    · have hlt2 : (k : Int) < (j : Int) := by omega
      have hk3 : k < 8 * n := by omega
      obtain ⟨b, o, rfl, _, hc⟩ := HR.out.2 (by omega)
      have hx := hc k hk3
      rw [getD_bitsOf _ _ _ hk3] at hx
      have hi1 := cnt_bd B i
      have hk4 := cnt_bd B k
      have HN : Box (cnt B (k + 1) = cnt B k + if onB B k then 1 else 0) := ⟨rfl⟩
      have hd : -1000000 ≤ cnt B k - cnt B i ∧ cnt B k - cnt B i ≤ 1000000 := by omega
      clear hc hi1 hk4
      cases hon : onB B k
      · rw [hon] at hx HN
        have HN2 : Box (cnt B k - cnt B i = cnt B (k + 1) - cnt B i) := ⟨by rw [HN.out]; simp⟩
        clear hon HN
        generalize cnt B k - cnt B i = d at hd HN2
        go_wp2
        go_round
        case rel => exact ⟨k + 1, by omega, by omega, by go_num, by rw [← HN2.out]⟩
        case measure => simp [intOf]; omega
      · rw [hon] at hx HN
        have HN2 : Box (cnt B k - cnt B i + 1 = cnt B (k + 1) - cnt B i) := ⟨by rw [HN.out]; simp; omega⟩
        clear hon HN
        generalize cnt B k - cnt B i = d at hd HN2
        go_wp2
        go_round
        case rel => exact ⟨k + 1, by omega, by omega, by go_num, by rw [← HN2.out]⟩
        case measure => simp [intOf]; omega
    · obtain rfl : k = j := by omega
      go_wp2
      go_ret2
      exact ⟨rfl, HG.out.bel⟩
end Go.Proofs.Ytjfcliihgpkhdaa
