/-
  The walk of BuffersPins: a block is held as often as it was; when all are held no other one is kept; cleared, all are forgotten.
-/
import Derived.Test.YthjfobcfdpogeaaBJ
namespace Go.Proofs.Ythjfobcfdpogeaa
set_option linter.unusedVariables false
open Go.RowKit Plain

theorem full_nil (w : World) : Calls Try.prog 10 #[.slice none 0 0, .bool false] w fun e w' => (∃ S, e = .returned (.slice (some ⟨S, 0, none⟩) 160 160) ∧ w.heap.size ≤ S ∧ B8 w' S z160) ∧ Below w.heap.size w w' := by
  refine (full_any w none 0 0 [] (bytes_none w) (by omega) false).mono ?_
  rintro e w' ⟨⟨S, rfl, h1, h2⟩, hb⟩
  refine ⟨⟨S, rfl, h1, ?_, byt_zeros _⟩, hb⟩
  have e1 : fl [] (shn false) = z160 := by simp [fl, shn, z160]
  rw [e1] at h2
  exact h2
/-- Blocks of the numbers below k, the last one first, the last of them held m times, all others once. -/
def Pn (k : Nat) (m : Int) (L : List Kp) : Prop := L.length = k ∧ ∀ q (h : q < L.length), L[q].b = ((k - 1 - q : Nat) : Int) ∧ L[q].h = (if q = k - 1 then m else 1)
theorem pn_nil : Pn 0 1 [] := ⟨rfl, fun q h => by simp at h⟩
theorem Pn.no {k : Nat} {m : Int} {L : List Kp} (h : Pn k m L) (b : Int) (hb : (k : Int) ≤ b) (hk : 0 < k) : No L b := fun x hx => by
  obtain ⟨q, hq, rfl⟩ := List.getElem_of_mem hx
  rw [(h.2 q hq).1]
  omega
theorem pn_no {k : Nat} {m : Int} {L : List Kp} (h : Pn k m L) (b : Int) (hb : (k : Int) ≤ b) : No L b := by
  by_cases hk : 0 < k
  · exact h.no b hb hk
  · have : L = [] := List.eq_nil_of_length_eq_zero (by have := h.1; omega)
    subst this
    exact no_nil b
theorem Pn.cons {k : Nat} {L : List Kp} (h : Pn k 1 L) (y : Kp) (h1 : y.b = (k : Int)) (h2 : y.h = 1) : Pn (k + 1) 1 (y :: L) := by
  refine ⟨by simp [h.1], fun q hq => ?_⟩
  cases q with
  | zero => exact ⟨by simpa using h1, by simp [h2]⟩
  | succ q =>
    have hq' : q < L.length := by simpa using hq
    have := h.2 q hq'
    simp only [List.getElem_cons_succ]
    refine ⟨by rw [this.1]; congr 1; omega, by rw [this.2]; simp⟩
theorem Pn.fs {k : Nat} {m : Int} {L : List Kp} (h : Pn k m L) (hk : 0 < k) : Fs L 0 (k - 1) := by
  have hl := h.1
  refine ⟨by omega, by rw [(h.2 _ (by omega)).1]; omega, fun j hj hlt => by rw [(h.2 j hj).1]; omega⟩
theorem Pn.set {k : Nat} {m : Int} {L : List Kp} (h : Pn k m L) (hk : k - 1 < L.length) (m' : Int) : Pn k m' (L.set (k - 1) { L[k - 1] with h := m' }) := by
  refine ⟨by rw [List.length_set]; exact h.1, fun q hq => ?_⟩
  have hq' : q < L.length := by simpa using hq
  rw [List.getElem_set]
  by_cases e : k - 1 = q
  · rw [if_pos e, if_pos e.symm]
    exact ⟨by show L[k - 1].b = _; rw [(h.2 _ hk).1, e], rfl⟩
  · rw [if_neg e, if_neg (Ne.symm e)]
    have := h.2 q hq'
    rw [if_neg (Ne.symm e)] at this
    exact this
theorem Pn.hold {k : Nat} {m : Int} {L : List Kp} (h : Pn k m L) (hk : k - 1 < L.length) : L[k - 1].h = m := by
  have := (h.2 _ hk).2
  rw [if_pos rfl] at this
  exact this
theorem Pn.stuck {k : Nat} {m : Int} {L : List Kp} (h : Pn k m L) (hm : m ≠ 0) : Rm k L L false := by
  refine .stuck L (by rw [h.1]; exact Int.le_refl _) (fun x hx => ?_)
  obtain ⟨q, hq, rfl⟩ := List.getElem_of_mem hx
  rw [(h.2 q hq).2]
  split
  · exact hm
  · decide
theorem Pn.room {k : Nat} {L : List Kp} (h : Pn k 0 L) (hk : 0 < k) : Rm k L (L.eraseIdx (k - 1)) true := by
  have hl := h.1
  refine .step L _ true (k - 1) (by omega) ⟨by omega, h.hold (by omega), fun j hj hlt => by omega⟩ (.fit _ ?_)
  rw [List.length_eraseIdx, if_pos (by omega)]
  omega
theorem Pn.gone {k : Nat} {m : Int} {L : List Kp} (h : Pn k m L) (hk : 0 < k) : No (L.eraseIdx (k - 1)) 0 := fun x hx => by
  have hl := h.1
  obtain ⟨q, hq, rfl⟩ := List.getElem_of_mem hx
  rw [List.length_eraseIdx, if_pos (by omega)] at hq
  rw [List.getElem_eraseIdx_of_lt (by omega) (by omega), (h.2 q (by omega)).1]
  omega
set_option maxRecDepth 20000 in
set_option maxHeartbeats 4000000 in
theorem buffersPins_walk (n : Int) (t : Int) (w : World) (hn : (Lit.int .u8 n).wf = true) (ht : (Lit.int .u8 t).wf = true) :
    Calls Try.prog 7 #[.int .u8 n, .int .u8 t] w fun e w' => e = .returned (.bool true) ∧ Below w.heap.size w w' := by
  have bn := bounds_u8 hn
  have bt := bounds_u8 ht
  have AW : Box _ := ⟨awake_any w⟩
  go_enter Try.func7, Try.ntmps7
  go_upto_region 5 with (first
    | (go_at_call 8; refine AW.out.mono ?_; rintro e w1 ⟨rfl, hb1⟩; have B1 : Box _ := ⟨hb1⟩; clear hb1 AW))
  obtain ⟨K, hK⟩ : ∃ K : Nat, n % 6 + 1 = (K : Int) := ⟨(n % 6 + 1).toNat, by omega⟩
  have hK1 : 0 < K := by omega
  have hK6 : K ≤ 6 := by omega
  rw [hK]
  have N1 : Box _ := ⟨new_st w w1 B1.out K⟩
  clear hK
  go_upto_region 6 with (go_at_call 9; refine N1.out.mono ?_; rintro e w2 ⟨C, rfl, hs2, hb2⟩; have S2 : Box _ := ⟨hs2⟩; clear hs2 hb2 N1)
  go_wp2
  go_loopw [8] (fun j wr => ∃ k : Nat, k ≤ K ∧ j = .int .i64 k ∧ Box (∃ L, St w wr C K L ∧ Pn k 1 L)) (fun j _ => K - (intOf j).toNat)
  case atStart => exact ⟨0, Nat.zero_le _, rfl, ⟨[], S2.out, pn_nil⟩⟩
  case round =>
    obtain ⟨k, hk, rfl, HI⟩ := hrel
    by_cases hlt : k < K
    · obtain ⟨L, hs, hp⟩ := HI.out
      have FU : Box _ := ⟨full_nil wr⟩
      have HL : Box (St w wr C K L ∧ Pn k 1 L) := ⟨hs, hp⟩
      clear hs hp HI S2 B1
      have hk6 : k < 6 := by omega
      go_wp2_with (first
        | (go_at_call 10; refine FU.out.mono ?_; rintro e w3 ⟨⟨S, rfl, _, hf3⟩, hb3⟩; have P1 : Box _ := ⟨put_new' w w3 C K L L (HL.out.1.below hb3) (k : Int) (u64_of (by omega)) (pn_no HL.out.2 _ (Int.le_refl _)) (.fit L (by rw [HL.out.2.1]; omega)) S 160 z160 hf3 length_z160 (by rw [HL.out.2.1]; omega)⟩; clear hf3 hb3 FU)
        | (go_at_call 11; refine P1.out.mono ?_; rintro e w4 ⟨rfl, ⟨y1, l1, hs4⟩, f4⟩; have Q1 : Box _ := ⟨pin_ok' w w4 C K (y1 :: L) hs4 (k : Int) 0 (by simp) (fs_zero _ _ _ l1.b) (by show y1.h < _; rw [l1.h]; decide)⟩; have HY : Box (y1.b = (k : Int) ∧ y1.h = 0) := ⟨l1.b, l1.h⟩; clear hs4 f4 l1 P1)
        | (go_at_call 15; refine Q1.out.mono ?_; rintro e w5 ⟨rfl, hs5, f5⟩; have H5 : Box (St w w5 C K ({ y1 with h := y1.h + 1 } :: L)) := ⟨hs5⟩; clear hs5 f5 Q1))
      exact ⟨⟨k + 1, by omega, by simp, ⟨_, H5.out, HL.out.2.cons _ HY.out.1 (by show y1.h + 1 = 1; rw [HY.out.2]; rfl)⟩⟩, by simp [intOf]; omega⟩
    · obtain rfl : k = K := by omega
      obtain ⟨L, hs, hp⟩ := HI.out
      have HL : Box (St w wr C k L ∧ Pn k 1 L) := ⟨hs, hp⟩
      clear hs hp HI S2 B1 hlt hk
      go_upto_region 12 with fail
      obtain ⟨T, hT⟩ : ∃ T : Nat, t % 5 = (T : Int) := ⟨(t % 5).toNat, by omega⟩
      have hT5 : T < 5 := by omega
      rw [hT]
      clear hT
      rename_i ax1 ax2 ax3
      go_wp2
      go_loopw [10] (fun j wr => ∃ q : Nat, q ≤ T ∧ j = .int .i64 q ∧ Box (∃ L, St w wr C k L ∧ Pn k (1 + q) L)) (fun j _ => T - (intOf j).toNat)
      case atStart => exact ⟨0, Nat.zero_le _, rfl, ⟨L, HL.out.1, HL.out.2⟩⟩
      case round =>
        clear HL
        obtain ⟨q, hq, rfl, HI⟩ := hrel
        by_cases hlt : q < T
        · obtain ⟨L, hs, hp⟩ := HI.out
          have hl : k - 1 < L.length := by rw [hp.1]; omega
          have Q1 : Box _ := ⟨pin_ok' w _ C k L hs 0 (k - 1) hl (hp.fs hK1) (by rw [hp.hold hl]; omega)⟩
          have HP : Box (Pn k (1 + q) L) := ⟨hp⟩
          clear hs hp HI
          go_wp2_with (go_at_call 15; refine Q1.out.mono ?_; rintro e w5 ⟨rfl, hs5, f5⟩; have H5 : Box _ := ⟨hs5⟩; clear hs5 f5 Q1)
          refine ⟨⟨q + 1, by omega, by simp, ⟨_, H5.out, ?_⟩⟩, by simp [intOf]; omega⟩
          have := HP.out.set hl (1 + ((q + 1 : Nat) : Int))
          rw [HP.out.hold hl, show (1 + (q : Int) + 1) = 1 + ((q + 1 : Nat) : Int) by omega]
          exact this
        · have hqT : q = T := by omega
          obtain ⟨L, hs, hp⟩ := HI.out
          have HP : Box (Pn k (1 + q) L) := ⟨hp⟩
          have HS : Box _ := ⟨hs⟩
          rw [hqT] at HP
          have FU : Box _ := ⟨full_nil wr⟩
          clear hs hp HI hqT
          go_upto_region 17 with (first
            | (go_at_call 10; refine FU.out.mono ?_; rintro e w3 ⟨⟨S, rfl, _, hf3⟩, hb3⟩; have P1 : Box _ := ⟨put_full' w w3 C k L L (HS.out.below hb3) 99 (pn_no HP.out _ (by omega)) (HP.out.stuck (by omega)) (some ⟨S, 0, none⟩) 160⟩; clear hf3 hb3 FU)
            | (go_at_call 11; refine P1.out.mono ?_; rintro e w4 ⟨rfl, hs4, f4⟩; have H4 : Box _ := ⟨hs4⟩; clear hs4 f4 P1 HS))
          go_wp2
          go_loopw [12] (fun j wr => ∃ q : Nat, q ≤ T ∧ j = .int .i64 q ∧ Box (∃ L, St w wr C k L ∧ Pn k (1 + T - q) L)) (fun j _ => T - (intOf j).toNat)
          case atStart => exact ⟨0, Nat.zero_le _, rfl, ⟨L, H4.out, by simpa using HP.out⟩⟩
          case round =>
            clear H4 HP
            obtain ⟨q, hq, rfl, HI⟩ := hrel
            by_cases hlt : q < T
            · obtain ⟨L, hs, hp⟩ := HI.out
              have hl : k - 1 < L.length := by rw [hp.1]; omega
              have hh := hp.hold hl
              have U1 : Box _ := ⟨unpin_ok' w wr C k L hs 0 (k - 1) hl (hp.fs hK1) (by rw [hh]; omega)⟩
              have HP : Box (Pn k (1 + T - ((q + 1 : Nat) : Int)) (L.set (k - 1) { L[k - 1] with h := L[k - 1].h - 1 })) := ⟨by
                have := hp.set hl (1 + T - ((q + 1 : Nat) : Int))
                rw [hh, show (1 + (T : Int) - q - 1) = 1 + T - ((q + 1 : Nat) : Int) by omega]
                exact this⟩
              clear hs hp HI hh
              generalize L.set (k - 1) { L[k - 1] with h := L[k - 1].h - 1 } = M at U1 HP
              clear hl
              go_wp2_with (first
                | (go_at_call 17; refine U1.out.mono ?_; rintro e w5 ⟨rfl, hs5, f5⟩; have D1 : Box _ := ⟨drop_held' w w5 C k M hs5 0 (k - 1) (by rw [HP.out.1]; omega) (HP.out.fs hK1) (by rw [HP.out.hold]; omega)⟩; clear hs5 f5 U1)
                | (go_at_call 18; refine D1.out.mono ?_; rintro e w6 ⟨rfl, hs6, f6⟩; have H6 : Box _ := ⟨hs6⟩; clear hs6 f6 D1))
              exact ⟨⟨q + 1, by omega, by simp, ⟨_, H6.out, HP.out⟩⟩, by simp [intOf]; omega⟩
            · have hqT : q = T := by omega
              obtain ⟨L, hs, hp⟩ := HI.out
              have HP : Box (Pn k 1 L) := ⟨by have h2 := hp; rw [hqT, show (1 + (T : Int) - T) = 1 by omega] at h2; exact h2⟩
              have HS : Box _ := ⟨hs⟩
              have FU : Box _ := ⟨full_nil wr⟩
              clear hs hp HI hqT
              go_upto_region 25 with (first
                | (go_at_call 10; refine FU.out.mono ?_; rintro e w3 ⟨⟨S, rfl, _, hf3⟩, hb3⟩; have P1 : Box _ := ⟨put_full' w w3 C k L L (HS.out.below hb3) 99 (pn_no HP.out _ (by omega)) (HP.out.stuck (by omega)) (some ⟨S, 0, none⟩) 160⟩; clear hf3 hb3 FU)
                | (go_at_call 11; refine P1.out.mono ?_; rintro e w4 ⟨rfl, hs4, f4⟩; have U1 : Box _ := ⟨unpin_ok' w w4 C k L hs4 0 (k - 1) (by rw [HP.out.1]; omega) (HP.out.fs hK1) (by rw [HP.out.hold]; omega)⟩; clear hs4 f4 P1 HS)
                | (go_at_call 17; refine U2.out.mono ?_; rintro e w6 ⟨rfl, hs6, f6⟩; have H6 : Box _ := ⟨hs6⟩; clear hs6 f6 U2)
                | (go_at_call 17; refine U1.out.mono ?_; rintro e w5 ⟨rfl, hs5, f5⟩; obtain ⟨M, hM⟩ : ∃ M, L.set (k - 1) { L[k - 1]'(by rw [HP.out.1]; omega) with h := (L[k - 1]'(by rw [HP.out.1]; omega)).h - 1 } = M := ⟨_, rfl⟩; have HQ : Box (Pn k 0 M) := ⟨by rw [← hM]; have h2 := HP.out.set (by rw [HP.out.1]; omega) 0; rw [HP.out.hold (by rw [HP.out.1]; omega)]; exact h2⟩; rw [hM] at hs5; have U2 : Box _ := ⟨unpin_zero' w w5 C k M hs5 0 (k - 1) (by rw [HQ.out.1]; omega) (HQ.out.fs hK1) (by rw [HQ.out.hold])⟩; clear hs5 f5 U1 hM))
              have FU : Box _ := ⟨full_nil w6⟩
              go_wp2_with (first
                | (go_at_call 10; refine FU.out.mono ?_; rintro e w7 ⟨⟨S, rfl, _, hf7⟩, hb7⟩; have P1 : Box _ := ⟨put_new' w w7 C k M _ (H6.out.below hb7) 99 (u64_of (by omega)) (pn_no HQ.out _ (by omega)) (HQ.out.room hK1) S 160 z160 hf7 length_z160 (by rw [HQ.out.1]; omega)⟩; clear hf7 hb7 FU)
                | (go_at_call 11; refine P1.out.mono ?_; rintro e w8 ⟨rfl, ⟨y8, l8, hs8⟩, f8⟩; have G1 : Box _ := ⟨get_no' w w8 C k _ hs8 0 (no_cons (by rw [l8.b]; decide) (HQ.out.gone hK1))⟩; clear hs8 l8 f8 P1 H6)
                | (go_at_call 13; refine G1.out.mono ?_; rintro e w9 ⟨rfl, hs9, f9⟩; have C1 : Box _ := ⟨clear_any w9 _ C k _ hs9.cc⟩; have H9 : Box _ := ⟨hs9⟩; clear hs9 f9 G1)
                | (go_at_call 20; refine C1.out.mono ?_; rintro e w10 ⟨rfl, hc10, f10⟩; have K1 : Box _ := ⟨blocks_st w w10 C k [] (H9.out.fr f10 hc10)⟩; clear hc10 f10 C1 H9)
                | (go_at_call 21; refine K1.out.mono ?_; rintro e w11 ⟨⟨S11, rfl, _⟩, hs11, _⟩; have H11 : Box (Below w.heap.size w w11) := ⟨hs11.bl⟩; clear hs11 K1))
              go_ret
              exact ⟨rfl, H11.out⟩
end Go.Proofs.Ythjfobcfdpogeaa
