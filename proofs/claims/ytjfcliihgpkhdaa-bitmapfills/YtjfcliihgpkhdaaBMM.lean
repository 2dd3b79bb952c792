/-
  The walk of BitmapFills: bits that are set one by one, each the first one that isn't, are taken in order until none is left; cleared ones are taken again: the law returns true.
-/
import Derived.Test.YtjfcliihgpkhdaaBML
namespace Go.Proofs.Ytjfcliihgpkhdaa
set_option linter.unusedVariables false
open Go.RowKit Plain

/-- Just the bits from a on, below i, are set. -/
structure Fil (B : List Int) (n a i : Nat) : Prop where
  len : B.length = n
  byt : Byt B
  on : ∀ j, j < 8 * n → onB B j = decide (a ≤ j ∧ j < i)
theorem Fil.zero (n a : Nat) : Fil (List.replicate n 0) n a a := ⟨by simp, byt_zeros n, fun j hj => by
  have e : (List.replicate n (0 : Int)).getD (j / 8) 0 = 0 := by simp only [List.getD, List.getElem?_replicate]; split <;> rfl
  unfold onB
  rw [e]
  have h1 : ¬ (a ≤ j ∧ j < a) := by omega
  have h2 : bt 0 (j % 8) = false := by unfold bt; simp
  rw [h2]
  simp [h1]⟩
theorem Fil.step {B : List Int} {n a i : Nat} (h : Fil B n a i) (h1 : a ≤ i) (h2 : i < 8 * n) : Fil (Plain.put B i true) n a (i + 1) := ⟨by rw [length_put, h.len], byt_put B i true h.byt, fun j hj => by
  rw [put_on B i j true h.byt (by rw [h.len]; exact h2), h.on j hj]
  by_cases e : j = i
  · subst e
    rw [if_pos rfl]
    have : a ≤ j ∧ j < j + 1 := by omega
    simp [this]
  · rw [if_neg e]
    simp only [decide_eq_decide]
    omega⟩
theorem Fil.all {B : List Int} {n a i : Nat} (h : Fil B n a i) (h2 : i ≤ 8 * n) : All B a i := fun j h3 h4 => by
  rw [h.on j (by omega)]
  simp [h3, h4]
theorem Fil.first {B : List Int} {n a i : Nat} (h : Fil B n a i) (h1 : a ≤ i) (h2 : i < 8 * n) : firstV B n a (8 * n : Nat) = .tuple #[.int .i64 (i : Int), .int .i64 0] :=
  firstV_ok B n a (8 * n) i h1 h2 (Nat.le_refl _) (h.all (by omega)) (by rw [h.on i h2]; simp)
theorem Fil.none {B : List Int} {n a : Nat} (h : Fil B n a (8 * n)) (h1 : a ≤ 8 * n) : firstV B n a (8 * n : Nat) = .tuple #[.int .i64 0, .int .i64 20] :=
  firstV_no B n a (8 * n) h1 (Nat.le_refl _) (h.all (Nat.le_refl _))
theorem cnt_low (B : List Int) (n a i : Nat) (h : Fil B n a i) (ha : a ≤ 8 * n) : ∀ k, k ≤ a → cnt B k = 0 := by
  intro k
  induction k with
  | zero => intro _; rfl
  | succ k ih =>
    intro hk
    rw [cnt, ih (by omega), h.on k (by omega)]
    have : ¬ (a ≤ k ∧ k < i) := by omega
    simp [this]
theorem Fil.count {B : List Int} {n a : Nat} (h : Fil B n a (8 * n)) (h1 : a ≤ 8 * n) : cntV B n (0 : Nat) (8 * n : Nat) = .tuple #[.int .i64 (8 * (n : Int) - (a : Int)), .int .i64 0] := by
  have e1 := cnt_all B a (8 * n - a) (by rw [show a + (8 * n - a) = 8 * n by omega]; exact h.all (Nat.le_refl _))
  rw [show a + (8 * n - a) = 8 * n by omega, cnt_low B n a (8 * n) h h1 a (Nat.le_refl _)] at e1
  rw [cntV_ok (Nat.zero_le _) (Nat.le_refl _), e1, cnt]
  congr 4
  omega
theorem Fil.again {B : List Int} {n a k : Nat} (h : Fil B n a (8 * n)) (h1 : a ≤ k) (h2 : k < 8 * n) : firstV (Plain.put B k false) n a (8 * n : Nat) = .tuple #[.int .i64 (k : Int), .int .i64 0] :=
  firstV_ok _ n a (8 * n) k h1 h2 (Nat.le_refl _) (fun j h3 h4 => by
    rw [put_on B k j false h.byt (by rw [h.len]; exact h2), if_neg (by omega), h.on j (by omega)]
    have : a ≤ j ∧ j < 8 * n := by omega
    simp [this]) (by rw [put_on B k k false h.byt (by rw [h.len]; exact h2), if_pos rfl])
theorem made_bytes {w : World} {g n : Nat} (h : w.heap[g]? = some (.cells (List.replicate n (.int .u8 0)).toArray 5 (0, 0))) : Bytes w (some ⟨g, 0, none⟩) n (List.replicate n 0) := by
  have := bytes_of_row (w := w) (g := g) (X := List.replicate n 0) (t := 5) (fr := (0, 0)) (byt_zeros n) (by simpa [u8s] using h)
  simpa using this
set_option maxRecDepth 20000 in
set_option maxHeartbeats 4000000 in
theorem fills_any (s f c : Int) (n a k : Nat) (u : Nat) (w : World) (hs : 0 ≤ s ∧ s ≤ 255) (hf : 0 ≤ f ∧ f ≤ 255) (hc : 0 ≤ c ∧ c ≤ 255) (hn : s % 4 + 1 = (n : Int)) (hn4 : 1 ≤ n ∧ n ≤ 4) (ha : f % (8 * (n : Int)) = (a : Int)) (ha8 : a < 8 * n) (hu : c % (8 * (n : Int) - (a : Int)) = (u : Int)) (hk : a + u = k) (hk8 : k < 8 * n) :
    Calls Try.prog 5 #[.int .u8 s, .int .u8 f, .int .u8 c] w fun e w' => e = .returned (.bool true) ∧ Below w.heap.size w w' := by
  obtain ⟨i0, hi, hz0, hz1, hz2⟩ := info_parts info5
  have hlm : n ≤ maxLen := by unfold maxLen; omega
  have HA : Box _ := ⟨awake_any w⟩
  have ha2 : f.tmod (8 * (n : Int)) = (a : Int) := by rw [Int.tmod_eq_emod_of_nonneg hf.1, ha]
  have hu2 : c.tmod (8 * (n : Int) - (a : Int)) = (u : Int) := by rw [Int.tmod_eq_emod_of_nonneg hc.1, hu]
  have hk2 : (a : Int) + (u : Int) = (k : Int) := by omega
  obtain ⟨N, hN⟩ : ∃ N : Nat, Box (8 * n = N) := ⟨_, ⟨rfl⟩⟩
  have hN2 : 8 * (n : Int) = (N : Int) := by have := hN.out; omega
  have hN3 : N ≤ 32 := by have := hN.out; omega
  have haN : a < N := by have := hN.out; omega
  have hkN : k < N := by have := hN.out; omega
  rw [hN2] at ha ha2 hu hu2
  have hak : a ≤ k := by omega
  clear hk hk8 ha8
  go_enter Try.func5, Try.ntmps5
  go_upto_region 5 with (go_at_call 8; refine HA.out.mono ?_; rintro e w1 ⟨rfl, hb1⟩; have B1 : Box _ := ⟨hb1⟩; clear hb1)
  go_upto_region 6 with (at_make; refine wpList_make_full _ rfl (.tmp 32) (.tmp 32) 22 rfl _ 5 i0 (.int .u8 0) 1 Try.underlying22 hi hz0 hz1 _ _ _ _ n rfl rfl rfl rfl (by rw [hz2]; omega) hlm (Nat.le_refl _) ?_; intro w2 hown hgrow; have HR := made_row hown; clear hown; have B2 : Box (Below w.heap.size w w2 ∧ Bytes w2 (some ⟨w1.heap.size, 0, none⟩) n (List.replicate n 0)) := ⟨below_to B1.out ((Below.refl w1.heap.size w1).grown hgrow (Nat.le_refl _) (by simp)), made_bytes HR⟩; clear HR hgrow)
  generalize w1.heap.size = g2 at B2 ⊢
  go_upto_region 8 with fail
  clear hn hs hf hi hz0 hz1 hz2 ha ha2 B1 HA
  go_loopw [9, 11] (fun v i wr => ∃ m g cap : Nat, a ≤ m ∧ m ≤ N ∧ i = .int .i64 (m : Int) ∧ v = .slice (some ⟨g, 0, none⟩) n cap ∧ Box (n ≤ cap ∧ cap ≤ maxLen ∧ Below w.heap.size w wr ∧ ∃ B, Bytes wr (some ⟨g, 0, none⟩) n B ∧ Fil B n a m)) (fun _ i _ => N - (intOf i).toNat)
  case atStart => exact ⟨a, g2, n, Nat.le_refl _, by omega, rfl, rfl, ⟨Nat.le_refl _, hlm, B2.out.1, _, B2.out.2, Fil.zero n a⟩⟩
  case round =>
    obtain ⟨m, g, cap, hm1, hm2, rfl, rfl, HW⟩ := hrel
    clear B2
    obtain ⟨B, hB, hF⟩ := HW.out.2.2.2
    have hm8 : m ≤ 32 := by omega
    by_cases hlt : m < N
    · have hlt2 : (m : Int) < (N : Int) := by omega
      have H1 : Box (Calls Try.prog 13 #[.slice (some ⟨g, 0, none⟩) n cap, .int .i64 (a : Int), .int .i64 (N : Int)] wr fun e w' => e = .returned (.tuple #[.int .i64 (m : Int), .int .i64 0]) ∧ wr = w') := ⟨by
        rw [← hF.first hm1 (by have := hN.out; omega), ← hN.out]
        exact first_any _ n cap B a _ wr hB (by omega) (by omega) (by omega)⟩
      have H2 : Box (Calls Try.prog 11 #[.slice (some ⟨g, 0, none⟩) n cap, .int .i64 (m : Int), .bool true] wr fun e w' => ∃ g c', e = .returned (.tuple #[.slice (some ⟨g, 0, none⟩) n c', .int .i64 0]) ∧ n ≤ c' ∧ c' ≤ maxLen ∧ Below w.heap.size w w' ∧ ∃ B, Bytes w' (some ⟨g, 0, none⟩) n B ∧ Fil B n a (m + 1)) := ⟨(set_ok _ n cap B m true wr hB (by omega) (by have := hN.out; omega)).mono fun e w' ⟨g, c, h1, h2, h3, h4, h5⟩ => ⟨g, c, h1, h4, h5, below_to HW.out.2.2.1 h3, _, h2, hF.step hm1 (by have := hN.out; omega)⟩⟩
      clear hB hF
      go_wp2_with (first
        | (go_at_call 13; refine H1.out.mono ?_; rintro e w5 ⟨rfl, rfl⟩)
        | (go_at_call 11; refine H2.out.mono ?_; rintro e w6 ⟨g6, c6, rfl, hc6, hc7, hb6, hB6⟩; have B6 : Box (n ≤ c6 ∧ c6 ≤ maxLen ∧ Below w.heap.size w w6 ∧ ∃ B, Bytes w6 (some ⟨g6, 0, none⟩) n B ∧ Fil B n a (m + 1)) := ⟨⟨hc6, hc7, hb6, hB6⟩⟩; clear hc6 hc7 hb6 hB6))
      go_roundw
      case rel => exact ⟨m + 1, g6, c6, by omega, by omega, by go_num, rfl, ⟨B6.out⟩⟩
      case measure => simp [intOf]; omega
    · obtain rfl : m = N := by omega
      have H1 : Box (Calls Try.prog 13 #[.slice (some ⟨g, 0, none⟩) n cap, .int .i64 (a : Int), .int .i64 (m : Int)] wr fun e w' => e = .returned (.tuple #[.int .i64 0, .int .i64 20]) ∧ wr = w') := ⟨by
        have hF2 := hF
        rw [← hN.out] at hF2
        rw [← hF2.none (by have := hN.out; omega), ← hN.out]
        exact first_any _ n cap B a _ wr hB (by omega) (by omega) (by omega)⟩
      have H2 : Box (Calls Try.prog 15 #[.slice (some ⟨g, 0, none⟩) n cap, .int .i64 0, .int .i64 (m : Int)] wr fun e w' => e = .returned (.tuple #[.int .i64 ((m : Int) - (a : Int)), .int .i64 0]) ∧ Below wr.heap.size wr w') := ⟨by
        have hF2 := hF
        rw [← hN.out] at hF2
        have h3 : cntV B n 0 ((8 * n : Nat) : Int) = .tuple #[.int .i64 (8 * (n : Int) - (a : Int)), .int .i64 0] := hF2.count (by have := hN.out; omega)
        have h4 := count_any (some ⟨g, 0, none⟩) n cap B 0 ((8 * n : Nat) : Int) wr hB (by omega) HW.out.1 HW.out.2.1 (by omega) (by omega)
        rw [h3, hN2, hN.out] at h4
        exact h4⟩
      have H3 : Box (∀ x, Below wr.heap.size wr x → Calls Try.prog 11 #[.slice (some ⟨g, 0, none⟩) n cap, .int .i64 (k : Int), .bool false] x fun e w' => ∃ g c', e = .returned (.tuple #[.slice (some ⟨g, 0, none⟩) n c', .int .i64 0]) ∧ Below x.heap.size x w' ∧ Calls Try.prog 13 #[.slice (some ⟨g, 0, none⟩) n c', .int .i64 (a : Int), .int .i64 (m : Int)] w' fun e w'' => e = .returned (.tuple #[.int .i64 (k : Int), .int .i64 0]) ∧ w' = w'') := ⟨fun x hx => (set_ok _ n cap B k false x (hB.below hx) (by omega) (by have := hN.out; omega)).mono fun e w' ⟨g, c, h1, h2, h3, h4, h5⟩ => ⟨g, c, h1, h3, by
        have hF2 := hF
        rw [← hN.out] at hF2
        rw [← hF2.again hak (by have := hN.out; omega), ← hN.out]
        exact first_any _ n c _ a _ w' h2 (by omega) (by omega) (by omega)⟩⟩
      have HW2 : Box (Below w.heap.size w wr) := ⟨HW.out.2.2.1⟩
      have hd : 0 ≤ (m : Int) - (a : Int) := by omega
      clear hB hF HW
      go_wp2_with (first
        | (go_at_call 13; refine H1.out.mono ?_; rintro e w5 ⟨rfl, rfl⟩; clear H1)
        | (go_at_call 15; refine H2.out.mono ?_; rintro e w6 ⟨rfl, hb6⟩; have B6 : Box _ := ⟨hb6⟩; clear hb6)
        | (go_at_call 11; refine (H3.out _ B6.out).mono ?_; rintro e w7 ⟨g7, c7, rfl, hb7, hc7⟩; have B7 : Box _ := ⟨below_to HW2.out (below_to B6.out hb7)⟩; have C7 : Box _ := ⟨hc7⟩; clear hb7 hc7)
        | (go_at_call 13; refine C7.out.mono ?_; rintro e w8 ⟨rfl, rfl⟩))
      go_ret
      exact ⟨rfl, B7.out⟩
theorem bitmapFills_walk (s f c : Int) (w : World) (h1 : (Lit.int .u8 s).wf = true) (h2 : (Lit.int .u8 f).wf = true) (h3 : (Lit.int .u8 c).wf = true) :
    Calls Try.prog 5 #[.int .u8 s, .int .u8 f, .int .u8 c] w fun e w' => e = .returned (.bool true) ∧ Below w.heap.size w w' := by
  have b1 := bounds_u8 h1
  have b2 := bounds_u8 h2
  have b3 := bounds_u8 h3
  obtain ⟨n, hn⟩ : ∃ n : Nat, s % 4 + 1 = (n : Int) := ⟨(s % 4 + 1).toNat, by omega⟩
  obtain ⟨a, _, ha, ha8⟩ := mod_nat f (8 * n) b2.1 (by omega)
  obtain ⟨u, _, hu, hu8⟩ := mod_nat c (8 * n - a) b3.1 (by omega)
  have e1 : ((8 * n : Nat) : Int) = 8 * (n : Int) := by omega
  have e2 : ((8 * n - a : Nat) : Int) = 8 * (n : Int) - (a : Int) := by omega
  rw [e1] at ha
  rw [e2] at hu
  exact fills_any s f c n a (a + u) u w b1 b2 b3 hn (by omega) ha ha8 hu rfl (by omega)
end Go.Proofs.Ytjfcliihgpkhdaa
