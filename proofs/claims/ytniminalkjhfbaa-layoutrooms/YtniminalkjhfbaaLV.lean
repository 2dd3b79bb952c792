/-
  The walk of LayoutRooms.
-/
import Derived.Test.YtniminalkjhfbaaLU
namespace Go.Proofs.Ytniminalkjhfbaa
set_option linter.unusedVariables false
open Go.RowKit Plain

set_option maxRecDepth 20000 in
set_option maxHeartbeats 4000000 in
theorem rooms_no (bl il b i t d e : Int) (w : World) (hbl : 0 ≤ bl ∧ bl ≤ 65535) (hil : 0 ≤ il ∧ il ≤ 65535) (h1 : Box (e = 1))
    (CN : Box (∀ x, Calls Try.prog 9 #[.int .i64 bl, .int .i64 il] x fun r w' => r = .returned (.tuple #[.agg (lc b i t d), .int .i64 e]) ∧ Below x.heap.size x w')) :
    Calls Try.prog 6 #[.int .u16 bl, .int .u16 il] w fun e w' => e = .returned (.bool true) ∧ Below w.heap.size w w' := by
  have CA : Box (∀ x, Calls Try.prog 8 #[] x fun e w' => e = .returned (.bool true) ∧ Below x.heap.size x w') := ⟨awake_any⟩
  go_enter Try.func6, Try.ntmps6
  go_upto_region 5 with (first
    | (refine wpList_newL w2 b i t d rfl _ _ rfl rfl rfl rfl ?_; intro z2 hz hb3; have H2 : Box (Lay z2 w2.heap.size b i t d ∧ Below w.heap.size w z2) := ⟨hz, below_to (below_to H1.out hb2) hb3⟩; clear hz hb3 hb2)
    | (go_at_call 9; refine Calls.mono (CN.out w1) ?_; rintro e0 w2 ⟨rfl, hb2⟩)
    | (go_at_call 8; refine Calls.mono (CA.out w) ?_; rintro e0 w1 ⟨rfl, hb1⟩; have H1 : Box (Below w.heap.size w w1) := ⟨hb1⟩; clear hb1))
  generalize w2.heap.size = S at H2 ⊢
  clear CA CN H1
  have g1 : (e != 0) = true := by simp [h1.out]
  go_wp2
  go_ret
  exact ⟨rfl, H2.out.2⟩

set_option maxRecDepth 20000 in
set_option maxHeartbeats 4000000 in
theorem rooms_ok (bl il b i t d e p q r s : Int) (m : Nat) (w : World) (hbl : 0 ≤ bl ∧ bl ≤ 65535) (hil : 0 ≤ il ∧ il ≤ 65535) (h1 : Box (e = 0)) (hm : 2 ≤ m ∧ m ≤ 500) (hi : i = (m : Int)) (ht : t = 3)
    (hB : b = bl) (hI : i = il) (hpd : Box (d - 1 = p)) (hd : 3 ≤ d ∧ d ≤ 200)
    (CN : Box (∀ x, Calls Try.prog 9 #[.int .i64 bl, .int .i64 il] x fun r w' => r = .returned (.tuple #[.agg (lc b i t d), .int .i64 e]) ∧ Below x.heap.size x w'))
    (C0 : Box (∀ n : Nat, 1 ≤ n → n < m → ∃ B A : Int, (160 * (B - 3) + A = 32 * (n : Int)) ∧ 3 ≤ B ∧ B ≤ 200 ∧ 0 ≤ A ∧ A ≤ 128 ∧ ∀ z, Calls Try.prog 12 #[.agg (lc b i t d), .int .i64 (n : Int)] z fun rr w' => rr = .returned (.tuple #[.int .i64 B, .int .i64 A, .int .i64 0]) ∧ Below z.heap.size z w'))
    (C1 : Box (∀ z, Calls Try.prog 12 #[.agg (lc b i t d), .int .i64 (i - 1)] z fun rr w' => rr = .returned (.tuple #[.int .i64 p, .int .i64 q, .int .i64 0]) ∧ Below z.heap.size z w'))
    (C2 : Box (∀ z, Calls Try.prog 12 #[.agg (lc b i t d), .int .i64 i] z fun rr w' => rr = .returned (.tuple #[.int .i64 0, .int .i64 0, .int .i64 12]) ∧ Below z.heap.size z w')) :
    Calls Try.prog 6 #[.int .u16 bl, .int .u16 il] w fun e w' => e = .returned (.bool true) ∧ Below w.heap.size w w' := by
  have HI : Box (i = (m : Int) ∧ t = 3 ∧ b = bl ∧ i = il) := ⟨hi, ht, hB, hI⟩
  clear hi ht hB hI
  have CA : Box (∀ x, Calls Try.prog 8 #[] x fun e w' => e = .returned (.bool true) ∧ Below x.heap.size x w') := ⟨awake_any⟩
  go_enter Try.func6, Try.ntmps6
  go_upto_region 5 with (first
    | (refine wpList_newL w2 b i t d rfl _ _ rfl rfl rfl rfl ?_; intro z2 hz hb3; have H2 : Box (Lay z2 w2.heap.size b i t d ∧ Below w.heap.size w z2) := ⟨hz, below_to (below_to H1.out hb2) hb3⟩; clear hz hb3 hb2)
    | (go_at_call 9; refine Calls.mono (CN.out w1) ?_; rintro e0 w2 ⟨rfl, hb2⟩)
    | (go_at_call 8; refine Calls.mono (CA.out w) ?_; rintro e0 w1 ⟨rfl, hb1⟩; have H1 : Box (Below w.heap.size w w1) := ⟨hb1⟩; clear hb1))
  generalize w2.heap.size = S at H2 ⊢
  clear CA CN H1
  have g1 : (e != 0) = false := by simp [h1.out]
  go_wp2
  clear g1 h1
  go_loopw [8] (fun v wr => ∃ n : Nat, 1 ≤ n ∧ n ≤ m ∧ v = .int .i64 (n : Int) ∧ Box (Lay wr S b i t d ∧ Below w.heap.size w wr)) (fun v _ => 500 - (intOf v).toNat)
  case atStart => exact ⟨1, by omega, by omega, rfl, H2⟩
  case round =>
    obtain ⟨n, hn1, hn2, rfl, HW⟩ := hrel
    clear H2
    obtain ⟨k0, k1, k2, k3⟩ := HW.out.1.cells
    by_cases hlt : n < m
    · have g2 : (n : Int) < i := by rw [HI.out.1]; omega
      obtain ⟨B, A, he, b1, b2, b3, b4, hc⟩ := C0.out n hn1 hlt
      have HC : Box (∀ z, Calls Try.prog 12 #[.agg (lc b i t d), .int .i64 (n : Int)] z fun rr w' => rr = .returned (.tuple #[.int .i64 B, .int .i64 A, .int .i64 0]) ∧ Below z.heap.size z w') := ⟨hc⟩
      have HE : Box (160 * (B - 3) + A = 32 * (n : Int)) := ⟨he⟩
      clear he hc
      go_upto_region 11 with (first
        | (refine wpList_ldL rfl _ rfl S b i t d rfl HW.out.1 ?_)
        | (go_at_call 12; refine Calls.mono (HC.out wr) ?_; rintro e0 w3 ⟨rfl, hb⟩; have H3 : Box (Lay w3 S b i t d ∧ Below w.heap.size w w3) := ⟨HW.out.1.below hb, below_to HW.out.2 hb⟩; clear hb))
      clear HW k0 k1 k2 k3 g2
      obtain ⟨k0, k1, k2, k3⟩ := H3.out.1.cells
      rw [HI.out.2.1] at k2
      have hq : (160 * (B - 3) + A != 32 * (n : Int)) = false := by rw [HE.out]; simp
      go_wp2
      go_roundw
      case rel => exact ⟨n + 1, by omega, by omega, by go_num, H3⟩
      case measure => simp [intOf]; omega
    · have g2 : ¬ (n : Int) < i := by rw [HI.out.1]; omega
      have hi2 : 2 ≤ i ∧ i ≤ 500 := by rw [HI.out.1]; omega
      go_upto_region 14 with (first
        | (refine wpList_ldL rfl _ rfl S b i t d rfl HW.out.1 ?_)
        | (go_at_call 12; refine Calls.mono (C1.out wr) ?_; rintro e0 w3 ⟨rfl, hb⟩; have H3 : Box (Lay w3 S b i t d ∧ Below w.heap.size w w3) := ⟨HW.out.1.below hb, below_to HW.out.2 hb⟩; clear hb))
      clear HW k0 k1 k2 k3 g2 C1 C0
      obtain ⟨k0, k1, k2, k3⟩ := H3.out.1.cells
      go_upto_region 15 with (first
        | (refine wpList_ldL rfl _ rfl S b i t d rfl H3.out.1 ?_)
        | (go_at_call 12; refine Calls.mono (C2.out w3) ?_; rintro e0 w4 ⟨rfl, hb⟩; have H4 : Box (Lay w4 S b i t d ∧ Below w.heap.size w w4) := ⟨H3.out.1.below hb, below_to H3.out.2 hb⟩; clear hb))
      clear H3 k0 k1 k2 k3 C2
      obtain ⟨k0, k1, k2, k3⟩ := H4.out.1.cells
      have q1 : (p == d - 1) = true := by rw [hpd.out]; simp
      rw [HI.out.2.2.1] at k0
      rw [HI.out.2.2.2] at k1
      go_wp2
      go_ret
      exact ⟨rfl, H4.out.2⟩

theorem layoutRooms_walk (bl il : Int) (w : World) (h1 : (Lit.int .u16 bl).wf = true) (h2 : (Lit.int .u16 il).wf = true) :
    Calls Try.prog 6 #[.int .u16 bl, .int .u16 il] w fun e w' => e = .returned (.bool true) ∧ Below w.heap.size w w' := by
  have b1 := u16_wf h1
  have b2 := u16_wf h2
  by_cases h : okL bl il
  · have h' := h
    unfold okL at h'
    refine rooms_ok bl il bl il 3 (3 + (il + 4) / 5) 0 (3 + (il - 1) / 5) ((il - 1) % 5 * 32) 0 0 il.toNat w b1 b2 ⟨rfl⟩ (by omega) (by omega) rfl rfl rfl ⟨by omega⟩ (by omega) ⟨fun z => ?_⟩ ⟨fun n n1 n2 => ⟨3 + (n : Int) / 5, (n : Int) % 5 * 32, by omega, by omega, by omega, by omega, by omega, fun z => ?_⟩⟩ ⟨fun z => ?_⟩ ⟨fun z => ?_⟩
    · have := new_any bl il z; rwa [newV_ok h] at this
    · have := inode_any bl il (3 + (il + 4) / 5) n z (by omega); rwa [inoV_ok (by omega) (by omega)] at this
    · have := inode_any bl il (3 + (il + 4) / 5) (il - 1) z (by omega); rwa [inoV_ok (by omega) (by omega)] at this
    · have := inode_any bl il (3 + (il + 4) / 5) il z (by omega); rwa [inoV_no (.inr (by omega))] at this
  · refine rooms_no bl il 0 0 0 0 1 w b1 b2 ⟨rfl⟩ ⟨fun z => ?_⟩
    have := new_any bl il z; rwa [newV_no h] at this
end Go.Proofs.Ytniminalkjhfbaa
