/-
  The walk of BuffersLast: of blocks put in one behind the other the last ones are kept; one that was used is kept longer.
-/
import Derived.Test.YthjfobcfdpogeaaBM
namespace Go.Proofs.Ythjfobcfdpogeaa
set_option linter.unusedVariables false
open Go.RowKit Plain

theorem u64_at {w : World} {S q : Nat} {X : List Int} (h : w.heap[S]? = some (.cells (u64s X) 29 (0, 0))) (hq : q < X.length) : w.cell? ⟨S, q, none⟩ = some (.int .u64 X[q]) := by
  rw [cell_of_row _ _ _ _ _ _ h]
  simp [u64s, hq]
set_option maxRecDepth 20000 in
set_option maxHeartbeats 8000000 in
theorem buffersLast_walk (n m u : Int) (w : World) (hn : (Lit.int .u8 n).wf = true) (hm : (Lit.int .u8 m).wf = true) (hu : (Lit.int .u8 u).wf = true) :
    Calls Try.prog 6 #[.int .u8 n, .int .u8 m, .int .u8 u] w fun e w' => e = .returned (.bool true) ∧ Below w.heap.size w w' := by
  have bn := bounds_u8 hn
  have bm := bounds_u8 hm
  have bu := bounds_u8 hu
  have AW : Box _ := ⟨awake_any w⟩
  clear hn hm hu
  go_enter Try.func6, Try.ntmps6
  go_upto_region 6 with (first
    | (go_at_call 8; refine AW.out.mono ?_; rintro e w1 ⟨rfl, hb1⟩; have B1 : Box _ := ⟨hb1⟩; clear hb1 AW))
  obtain ⟨M, hM⟩ : ∃ M : Nat, n % 8 + 1 = (M : Int) := ⟨(n % 8 + 1).toNat, by omega⟩
  obtain ⟨K, hK⟩ : ∃ K : Nat, m % 16 = (K : Int) := ⟨(m % 16).toNat, by omega⟩
  have hM1 : 0 < M := by omega
  have hM8 : M ≤ 8 := by omega
  have hK16 : K < 16 := by omega
  rw [hM, hK]
  clear hM hK bn bm
  have N1 : Box _ := ⟨new_st w w1 B1.out M⟩
  go_upto_region 7 with (go_at_call 9; refine N1.out.mono ?_; rintro e w2 ⟨C, rfl, hs2, hb2⟩; have S2 : Box _ := ⟨hs2⟩; clear hs2 hb2 N1)
  go_wp2
  go_loopw [11] (fun j wr => ∃ k : Nat, k ≤ K ∧ j = .int .i64 k ∧ Box (∃ L, St w wr C M L ∧ Ls k M L)) (fun j _ => K - (intOf j).toNat)
  case atStart => exact ⟨0, Nat.zero_le _, rfl, ⟨[], S2.out, ls_nil M⟩⟩
  case round =>
    obtain ⟨k, hk, rfl, HI⟩ := hrel
    by_cases hlt : k < K
    · obtain ⟨L, hs, hp⟩ := HI.out
      have HL : Box (St w wr C M L ∧ Ls k M L) := ⟨hs, hp⟩
      have FU : Box (∀ x, x = wr.alloc (.cells #[.int .u8 (k : Int)] 5) → _) := ⟨fun x hx => full_one x wr.heap.size (k : Int) (by omega) (by rw [hx]; exact al_at rfl)⟩
      have hk16 : k < 16 := by omega
      clear hs hp HI S2 B1
      go_wp2_with (first
        | (go_at_call 10; refine (FU.out _ rfl).mono ?_; rintro e w3 ⟨⟨S, rfl, _, hf3⟩, hb3⟩; have P1 : Box _ := ⟨put_new' w w3 C M L (cutm M L) ((HL.out.1.below ((Below.refl _ _).alloc (Nat.le_refl _) _)).below hb3) (k : Int) (u64_of (by omega)) (HL.out.2.no _ (Int.le_refl _)) (rm_cut hM1 (by have := HL.out.2.1; omega) HL.out.2.held) S 160 (o160 (k : Int)) hf3 (length_o160 _) (by have := HL.out.2.1; omega)⟩; clear hf3 hb3 FU)
        | (go_at_call 11; refine P1.out.mono ?_; rintro e w4 ⟨rfl, ⟨y1, l1, hs4⟩, f4⟩; have H4 : Box (St w w4 C M (y1 :: cutm M L) ∧ Ls (k + 1) M (y1 :: cutm M L)) := ⟨hs4, HL.out.2.step hM1 y1 l1.b l1.h l1.bs⟩; clear hs4 f4 l1 P1))
      exact ⟨⟨k + 1, by omega, by simp, ⟨_, H4.out⟩⟩, by simp [intOf]; omega⟩
    · have hkK : k = K := by omega
      obtain ⟨L, hs, hp⟩ := HI.out
      rw [hkK] at hp
      have HL : Box (Ls K M L) := ⟨hp⟩
      have BL : Box _ := ⟨blocks_st w wr C M L hs⟩
      clear hs hp HI S2 B1 hkK
      go_upto_region 13 with (go_at_call 21; refine BL.out.mono ?_; rintro e w5 ⟨⟨S, rfl, h5⟩, hs5, _⟩; have H5 : Box (St w w5 C M L ∧ w5.heap[S]? = some (.cells (u64s (L.map (·.b))) 29 (0, 0))) := ⟨hs5, h5⟩; clear h5 hs5 BL)
      obtain ⟨N, hN⟩ : ∃ N, L.length = N := ⟨_, rfl⟩
      have hNm : N = min K M := by rw [← hN]; exact HL.out.1
      have HN : Box (L.length = N ∧ N = min K M) := ⟨hN, hNm⟩
      have hN8 : N ≤ 8 := by omega
      rw [hN]
      have D5 : Box (∀ q, q < N → w5.cell? ⟨S, q, none⟩ = some (.int .u64 ((K - 1 - q : Nat) : Int))) := ⟨fun q hq => by
        rw [u64_at H5.out.2 (by simpa [hN] using hq)]
        simp only [List.getElem_map]
        rw [(HL.out.2 q (by omega)).1]⟩
      clear hN
      by_cases hKM : M < K
      · have hw : Box (N = M) := ⟨by omega⟩
        go_upto_region 16 with fail
        have hneq : ((N : Int) != (M : Int)) = false := by rw [hw.out]; simp
        clear hNm
        go_upto_region 18 with fail
        go_wp2
        go_loopw [14] (fun j wr => ∃ q : Nat, q ≤ N ∧ j = .int .i64 q ∧ wr = w5) (fun j _ => N - (intOf j).toNat)
        case atStart => exact ⟨0, Nat.zero_le _, rfl, rfl⟩
        case round =>
          obtain ⟨q, hq, rfl, rfl⟩ := hrel
          by_cases hlt2 : q < N
          · have d := D5.out q hlt2
            have hqK : q + 1 ≤ K := by have := HN.out.2; omega
            have e1 : ((K - 1 - q : Nat) : Int) = (K : Int) - 1 - q := by omega
            rw [e1] at d
            have hz : (((K : Int) - 1 - q) != ((K : Int) - 1 - q)) = false := by simp
            go_wp2
            exact ⟨⟨q + 1, by omega, by simp, by first | rfl | trivial⟩, by simp [intOf]; omega⟩
          · by_cases h2 : N < 2
            · go_wp2
              go_ret
              exact ⟨rfl, H5.out.1.bl⟩
            · obtain ⟨i, hi⟩ : ∃ i : Nat, u % (N : Int) = (i : Int) := ⟨(u % (N : Int)).toNat, by have := Int.emod_nonneg u (show (N : Int) ≠ 0 by omega); omega⟩
              have hiN : i < N := by have := Int.emod_lt_of_pos u (show (0 : Int) < N by omega); omega
              have d := D5.out i hiN
              have hN0 : ((N : Int) == 0) = false := by simp; omega
              have htm : Int.tmod u (N : Int) = (i : Int) := by rw [Int.tmod_eq_emod_of_nonneg bu.1]; exact hi
              obtain ⟨A, hA⟩ : ∃ A : Nat, K - 1 - i = A := ⟨_, rfl⟩
              have hA16 : A < 16 := by omega
              rw [hA] at d
              have hil : i < L.length := by rw [HN.out.1]; exact hiN
              have G1 : Box (Calls Try.prog 13 #[.pointer (some ⟨C, 0, none⟩), .int .u64 (A : Int)] wr fun e w' => (∃ a' c', e = .returned (.tuple #[.slice a' 160 c', .bool true])) ∧ St w w' C M (fro L i hil)) := ⟨(get_ok' w wr C M L H5.out.1 (A : Int) i hil (by rw [← hA]; exact HL.out.fs i hil)).mono (by
                rintro e w' ⟨⟨a', c', h1, _⟩, h2, _⟩
                exact ⟨⟨a', c', h1⟩, h2⟩)⟩
              have HU : Box (Us M (A : Int) 0 (fro L i hil)) := ⟨by have := HL.out.used (by omega) hM1 i hil; rw [hA] at this; exact this⟩
              clear D5 hA HL H5 HN
              go_upto_region 27 with (first
                | (go_at_call 13; refine G1.out.mono ?_; rintro e w6 ⟨⟨a6, c6, rfl⟩, hs6⟩; have H6 : Box _ := ⟨hs6⟩; clear hs6 G1))
              go_wp2
              go_loopw [16] (fun j wr => ∃ q : Nat, q ≤ M - 1 ∧ j = .int .i64 q ∧ Box (∃ L, St w wr C M L ∧ Us M (A : Int) q L)) (fun j _ => M - (intOf j).toNat)
              case atStart => exact ⟨0, Nat.zero_le _, rfl, ⟨_, H6.out, HU.out⟩⟩
              case round =>
                clear H6 HU
                obtain ⟨q, hq, rfl, HI⟩ := hrel
                obtain ⟨wo, hwo⟩ : ∃ wo, wo = wr := ⟨_, rfl⟩
                by_cases hlt3 : q < M - 1
                · obtain ⟨L3, hs3, hp3⟩ := HI.out
                  have HL3 : Box (St w wr C M L3 ∧ Us M (A : Int) q L3) := ⟨hs3, hp3⟩
                  have FU : Box _ := ⟨full_nil wr⟩
                  have hlt4 : (q : Int) < (M : Int) - 1 := by omega
                  clear hs3 hp3 HI hwo
                  go_wp2_with (first
                    | (go_at_call 10; refine FU.out.mono ?_; rintro e w7 ⟨⟨S7, rfl, _, hf7⟩, hb7⟩; have P1 : Box _ := ⟨put_new' w w7 C M L3 (cutm M L3) (HL3.out.1.below hb7) (100 + (q : Int)) (u64_of (by omega)) HL3.out.2.no (rm_cut hM1 HL3.out.2.len HL3.out.2.held) S7 160 z160 hf7 length_z160 (by have := HL3.out.2.len; omega)⟩; clear hf7 hb7 FU)
                    | (go_at_call 11; refine P1.out.mono ?_; rintro e w8 ⟨rfl, ⟨y1, l1, hs8⟩, f8⟩; have H8 : Box (St w w8 C M (y1 :: cutm M L3) ∧ Us M (A : Int) (q + 1) (y1 :: cutm M L3)) := ⟨hs8, HL3.out.2.step (by omega) (by omega) y1 l1.b l1.h⟩; clear hs8 f8 l1 P1))
                  exact ⟨⟨q + 1, by omega, by simp, ⟨_, H8.out⟩⟩, by simp [intOf]; omega⟩
                · obtain ⟨L3, hs3, hp3⟩ := HI.out
                  obtain ⟨hql, hqb, hqs⟩ := hp3.at_
                  have G2 : Box (Calls Try.prog 13 #[.pointer (some ⟨C, 0, none⟩), .int .u64 (A : Int)] wr fun e w' => (∃ P c' , e = .returned (.tuple #[.slice (some ⟨P, 0, none⟩) 160 c', .bool true]) ∧ w'.cell? ⟨P, 0, none⟩ = some (.int .u8 (A : Int))) ∧ Below w.heap.size w w') := ⟨(get_ok' w wr C M L3 hs3 (A : Int) q hql hp3.fs).mono (by
                    rintro e w' ⟨⟨a', c', rfl, h1⟩, h2, _⟩
                    obtain ⟨Pb, cap6, cur, e6, hPb, hheap, hcs, _, _, hcell⟩ := own_block h1 (by omega)
                    simp only [Value.slice.injEq, true_and] at e6
                    obtain ⟨rfl, rfl⟩ := e6
                    refine ⟨⟨Pb, _, rfl, ?_⟩, h2.bl⟩
                    rw [cell_of_row _ _ _ _ _ _ hheap, hcell 0 (by omega), hqs]
                    simp [o160])⟩
                  have hlt4 : ¬ (q : Int) < (M : Int) - 1 := by omega
                  clear hs3 hp3 HI hwo hqb hqs
                  have hz : ((A : Int) == (A : Int)) = true := by simp
                  go_wp2_with (go_at_call 13; refine G2.out.mono ?_; rintro e w9 ⟨⟨P9, c9, rfl, d9⟩, hb9⟩; have H9 : Box _ := ⟨hb9⟩; clear hb9 G2)
                  go_ret
                  exact ⟨rfl, H9.out⟩
      · have hw : Box (N = K) := ⟨by omega⟩
        go_upto_region 16 with fail
        have hneq : ((N : Int) != (K : Int)) = false := by rw [hw.out]; simp
        clear hNm
        go_upto_region 18 with fail
        go_wp2
        go_loopw [14] (fun j wr => ∃ q : Nat, q ≤ N ∧ j = .int .i64 q ∧ wr = w5) (fun j _ => N - (intOf j).toNat)
        case atStart => exact ⟨0, Nat.zero_le _, rfl, rfl⟩
        case round =>
          obtain ⟨q, hq, rfl, rfl⟩ := hrel
          by_cases hlt2 : q < N
          · have d := D5.out q hlt2
            have hqK : q + 1 ≤ K := by have := HN.out.2; omega
            have e1 : ((K - 1 - q : Nat) : Int) = (K : Int) - 1 - q := by omega
            rw [e1] at d
            have hz : (((K : Int) - 1 - q) != ((K : Int) - 1 - q)) = false := by simp
            go_wp2
            exact ⟨⟨q + 1, by omega, by simp, by first | rfl | trivial⟩, by simp [intOf]; omega⟩
          · by_cases h2 : N < 2
            · go_wp2
              go_ret
              exact ⟨rfl, H5.out.1.bl⟩
            · obtain ⟨i, hi⟩ : ∃ i : Nat, u % (N : Int) = (i : Int) := ⟨(u % (N : Int)).toNat, by have := Int.emod_nonneg u (show (N : Int) ≠ 0 by omega); omega⟩
              have hiN : i < N := by have := Int.emod_lt_of_pos u (show (0 : Int) < N by omega); omega
              have d := D5.out i hiN
              have hN0 : ((N : Int) == 0) = false := by simp; omega
              have htm : Int.tmod u (N : Int) = (i : Int) := by rw [Int.tmod_eq_emod_of_nonneg bu.1]; exact hi
              obtain ⟨A, hA⟩ : ∃ A : Nat, K - 1 - i = A := ⟨_, rfl⟩
              have hA16 : A < 16 := by omega
              rw [hA] at d
              have hil : i < L.length := by rw [HN.out.1]; exact hiN
              have G1 : Box (Calls Try.prog 13 #[.pointer (some ⟨C, 0, none⟩), .int .u64 (A : Int)] wr fun e w' => (∃ a' c', e = .returned (.tuple #[.slice a' 160 c', .bool true])) ∧ St w w' C M (fro L i hil)) := ⟨(get_ok' w wr C M L H5.out.1 (A : Int) i hil (by rw [← hA]; exact HL.out.fs i hil)).mono (by
                rintro e w' ⟨⟨a', c', h1, _⟩, h2, _⟩
                exact ⟨⟨a', c', h1⟩, h2⟩)⟩
              have HU : Box (Us M (A : Int) 0 (fro L i hil)) := ⟨by have := HL.out.used (by omega) hM1 i hil; rw [hA] at this; exact this⟩
              clear D5 hA HL H5 HN
              go_upto_region 27 with (first
                | (go_at_call 13; refine G1.out.mono ?_; rintro e w6 ⟨⟨a6, c6, rfl⟩, hs6⟩; have H6 : Box _ := ⟨hs6⟩; clear hs6 G1))
              go_wp2
              go_loopw [16] (fun j wr => ∃ q : Nat, q ≤ M - 1 ∧ j = .int .i64 q ∧ Box (∃ L, St w wr C M L ∧ Us M (A : Int) q L)) (fun j _ => M - (intOf j).toNat)
              case atStart => exact ⟨0, Nat.zero_le _, rfl, ⟨_, H6.out, HU.out⟩⟩
              case round =>
                clear H6 HU
                obtain ⟨q, hq, rfl, HI⟩ := hrel
                obtain ⟨wo, hwo⟩ : ∃ wo, wo = wr := ⟨_, rfl⟩
                by_cases hlt3 : q < M - 1
                · obtain ⟨L3, hs3, hp3⟩ := HI.out
                  have HL3 : Box (St w wr C M L3 ∧ Us M (A : Int) q L3) := ⟨hs3, hp3⟩
                  have FU : Box _ := ⟨full_nil wr⟩
                  have hlt4 : (q : Int) < (M : Int) - 1 := by omega
                  clear hs3 hp3 HI hwo
                  go_wp2_with (first
                    | (go_at_call 10; refine FU.out.mono ?_; rintro e w7 ⟨⟨S7, rfl, _, hf7⟩, hb7⟩; have P1 : Box _ := ⟨put_new' w w7 C M L3 (cutm M L3) (HL3.out.1.below hb7) (100 + (q : Int)) (u64_of (by omega)) HL3.out.2.no (rm_cut hM1 HL3.out.2.len HL3.out.2.held) S7 160 z160 hf7 length_z160 (by have := HL3.out.2.len; omega)⟩; clear hf7 hb7 FU)
                    | (go_at_call 11; refine P1.out.mono ?_; rintro e w8 ⟨rfl, ⟨y1, l1, hs8⟩, f8⟩; have H8 : Box (St w w8 C M (y1 :: cutm M L3) ∧ Us M (A : Int) (q + 1) (y1 :: cutm M L3)) := ⟨hs8, HL3.out.2.step (by omega) (by omega) y1 l1.b l1.h⟩; clear hs8 f8 l1 P1))
                  exact ⟨⟨q + 1, by omega, by simp, ⟨_, H8.out⟩⟩, by simp [intOf]; omega⟩
                · obtain ⟨L3, hs3, hp3⟩ := HI.out
                  obtain ⟨hql, hqb, hqs⟩ := hp3.at_
                  have G2 : Box (Calls Try.prog 13 #[.pointer (some ⟨C, 0, none⟩), .int .u64 (A : Int)] wr fun e w' => (∃ P c' , e = .returned (.tuple #[.slice (some ⟨P, 0, none⟩) 160 c', .bool true]) ∧ w'.cell? ⟨P, 0, none⟩ = some (.int .u8 (A : Int))) ∧ Below w.heap.size w w') := ⟨(get_ok' w wr C M L3 hs3 (A : Int) q hql hp3.fs).mono (by
                    rintro e w' ⟨⟨a', c', rfl, h1⟩, h2, _⟩
                    obtain ⟨Pb, cap6, cur, e6, hPb, hheap, hcs, _, _, hcell⟩ := own_block h1 (by omega)
                    simp only [Value.slice.injEq, true_and] at e6
                    obtain ⟨rfl, rfl⟩ := e6
                    refine ⟨⟨Pb, _, rfl, ?_⟩, h2.bl⟩
                    rw [cell_of_row _ _ _ _ _ _ hheap, hcell 0 (by omega), hqs]
                    simp [o160])⟩
                  have hlt4 : ¬ (q : Int) < (M : Int) - 1 := by omega
                  clear hs3 hp3 HI hwo hqb hqs
                  have hz : ((A : Int) == (A : Int)) = true := by simp
                  go_wp2_with (go_at_call 13; refine G2.out.mono ?_; rintro e w9 ⟨⟨P9, c9, rfl, d9⟩, hb9⟩; have H9 : Box _ := ⟨hb9⟩; clear hb9 G2)
                  go_ret
                  exact ⟨rfl, H9.out⟩
end Go.Proofs.Ythjfobcfdpogeaa
