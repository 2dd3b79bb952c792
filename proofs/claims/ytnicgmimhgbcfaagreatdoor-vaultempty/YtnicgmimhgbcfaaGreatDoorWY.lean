/-
  VaultEmpty: a new vault reads noughts, and asks nothing of its disk; a disk with a place too few is refused.
-/
import Derived.Test.YtnicgmimhgbcfaaGreatDoorWW
namespace Go.Proofs.YtnicgmimhgbcfaaGreatDoor
set_option linter.unusedVariables false
set_option maxRecDepth 100000
open Go.RowKit Go.Shelf Plain Go.Proofs.YtnicgmimhgbcfaaGreatDoor.Shap.Plain
attribute [local go_sem] Oper.semAt_some

theorem ofN_zeroY (k : Nat) : ((ofN y160 4).getD k yr).s = 0 := by
  rcases Nat.lt_or_ge k 4 with h | h
  · match k, h with
    | 0, _ => decide
    | 1, _ => decide
    | 2, _ => decide
    | 3, _ => decide
  · rw [List.getD_eq_getElem?_getD, List.getElem?_eq_none (by rw [len_ofN]; exact h)]
    rfl
theorem readM_zero (K : List Int) (n j : Nat) : ∀ (l : Nat) (d : Disk.Dk) (r : Rf), r.s = 0 → readM (Yk K) Xd n j l d r = (d, 0, y160)
  | 0, d, r, h => by rw [readM, getM, if_pos h]
  | l + 1, d, r, h => by
    have e : getM (Yk K) Xd n d (l + 1) (j / 4 ^ (l + 1)) r = (d, 0, y160) := by rw [getM, if_pos h]
    rw [readM, e, if_neg (by simp)]
    exact readM_zero K n j l d _ (ofN_zeroY _)
theorem y160_at (k : Nat) (h : k < 160) : y160.getD k 0 = 0 := by
  unfold y160
  rw [List.getD_eq_getElem?_getD, List.getElem?_replicate, if_pos h]
  rfl
theorem off_small (n : Nat) (h1 : 1 ≤ n) (h2 : n ≤ 60) : 1 ≤ off n (topL n + 1) ∧ off n (topL n + 1) ≤ 2000 := by
  have h : ∀ n, n < 61 → 1 ≤ n → 1 ≤ off n (topL n + 1) ∧ off n (topL n + 1) ≤ 2000 := by decide +kernel
  exact h n (by omega) h1
set_option maxRecDepth 20000 in
set_option maxHeartbeats 4000000 in
theorem vaultEmpty_core (K : List Int) (hK : K.length = 32 ∧ Byt K) (lv bk : Nat) (hlv : lv < 256) (hbk : bk < 256) (w : World) (hT : Dig.Tabs w) (hT2 : Seal.Tab w) :
    Calls Tryz.prog 7 #[.agg (u8s K), .int .u8 (lv : Int), .int .u8 (bk : Int)] w fun e w' => e = .returned (.bool true) ∧ Below w.heap.size w w' := by
  obtain ⟨n, hn⟩ : ∃ n, lv % 60 + 1 = n := ⟨_, rfl⟩
  have h1 : 1 ≤ n := by omega
  have h2 : n ≤ 60 := by omega
  obtain ⟨p, hp⟩ : ∃ p, 2 * off n (topL n + 1) = p := ⟨_, rfl⟩
  have hpp := off_small n h1 h2
  have hp1 : 2 ≤ p ∧ p ≤ 4000 := by omega
  have HPL : Box (∀ x, Calls Tryz.prog 29 #[.int .i64 (n : Int)] x fun e w' => e = .returned (.tuple #[.int .i64 (p : Int), .int .i64 0]) ∧ Below x.heap.size x w') := ⟨fun x => by have := places_ok n x h1 (by omega); rw [hp] at this; exact this⟩
  have HN : Box (lv % 60 + 1 = n ∧ 1 ≤ n ∧ n ≤ 60 ∧ 2 * off n (topL n + 1) = p ∧ 2 ≤ p ∧ p ≤ 4000) := ⟨hn, h1, h2, hp, hp1⟩
  obtain ⟨AK, HAK⟩ : ∃ A, Box (u8s K = A) := ⟨_, ⟨rfl⟩⟩
  rw [HAK.out]
  have HKK : Box (K.length = 32 ∧ Byt K) := ⟨hK⟩
  obtain ⟨RZ, HRZ⟩ : ∃ A, Box (ra zr = A) := ⟨_, ⟨rfl⟩⟩
  obtain ⟨S, hS⟩ : ∃ S, w.heap.size = S := ⟨_, rfl⟩
  obtain ⟨w1, hw1⟩ : ∃ w1, w.alloc (.cells AK 23) = w1 := ⟨_, rfl⟩
  have hb1 : Below w.heap.size w w1 := by rw [← hw1]; exact (Below.refl _ _).alloc (Nat.le_refl _) _
  have r1 : w1.heap[S]? = some (.cells AK 23 (0, 0)) := by rw [← hw1]; exact al_at hS
  have HW1 : Box (Below w.heap.size w w1 ∧ S < w1.heap.size ∧ Dig.Tabs w1 ∧ Seal.Tab w1) := ⟨hb1, (Array.getElem?_eq_some_iff.1 r1).1, hT.below hb1, hT2.below hb1⟩
  have HX : Box (∀ x, Below w1.heap.size w1 x → x.rangeAt S 0 AK.toList) := ⟨fun x hx j q hq => by
    have r := (hx.block S (Array.getElem?_eq_some_iff.1 r1).1).trans r1
    rw [cell_of_row _ _ _ _ _ _ r, Nat.zero_add]
    simpa using hq⟩
  have HKI : Box ((Tryz.prog.info? 23).map (·.size) = some AK.toList.length) := ⟨by rw [Array.length_toList, ← HAK.out, size_u8s, HKK.out.1]; exact infoSum⟩
  have hw5 : IntKind.i64.wrap (((lv : Int) % 60) + 1) = (n : Int) := by rw [IntKind.wrap_i64]; omega
  clear hb1 r1 hK hT hT2 hn h1 h2 hp hpp hp1
  go_enter Tryz.func7, Tryz.ntmps7
  go_upto_region 1 with fail
  (try simp only [hw1, hS])
  clear hw1 hS
  go_upto_region 4 with (go_at_call 9; refine (awake_v _ HW1.out.2.2.1 HW1.out.2.2.2).mono ?_; rintro e x1 ⟨rfl, hb⟩; have H1 : Box (Below w1.heap.size w1 x1) := ⟨hb⟩; clear hb)
  go_upto_region 5 with fail
  go_upto_region 6 with (go_at_call 29; refine (HPL.out _).mono ?_; rintro e x2 ⟨rfl, hb⟩; have H2 : Box (Below w1.heap.size w1 x2) := ⟨below_to H1.out hb⟩; clear hb)
  obtain ⟨D, hD⟩ : ∃ D, x2.heap.size + 1 = D := ⟨_, rfl⟩
  have HD : Box (Calls Tryz.prog 10 #[.int .i64 (p : Int)] x2 fun e w' => e = .returned (.tuple #[.pointer (some ⟨D, 0, none⟩), .int .i64 0]) ∧ ∃ fp, Disk.Cx x2 w' D fp (Disk.dk0 p)) := ⟨by have := Disk.new_cx x2 p ⟨by have := HN.out; omega, by have := HN.out; omega⟩; rw [hD] at this; exact this⟩
  clear hD
  obtain ⟨d0, hd0⟩ : ∃ d0, Disk.dk0 p = d0 := ⟨_, rfl⟩
  have HD0 : Box (d0.n = p ∧ d0.ops = [] ∧ d0.uw.length = 0) := ⟨by rw [← hd0]; exact ⟨rfl, rfl, rfl⟩⟩
  rw [hd0] at HD
  clear hd0
  go_upto_region 7 with (go_at_call 10; refine HD.out.mono ?_; rintro e x3 ⟨rfl, fp1, hc⟩; have H3 : Box (Disk.Cx x2 x3 D fp1 d0 ∧ Below w1.heap.size w1 x3) := ⟨hc, below_to H2.out hc.bel⟩; clear hc)
  have HVN : Box (Calls Tryz.prog 12 #[.pointer (some ⟨D, 0, none⟩), .agg AK, .int .i64 (n : Int), .agg RZ, .int .u64 1, .int .u64 99] x3 fun e w' => ∃ V fp' sa sc, e = .returned (.tuple #[.pointer (some ⟨V, 0, none⟩), .int .i64 0]) ∧ VC x2 w' V D fp' ⟨K, n, zr, 1, 99⟩ d0 sa sc) := ⟨by
    have := vnew_ok H3.out.1 K HKK.out n HN.out.2.1 (by have := HN.out; omega) zr okR_zr 1 99 ⟨by omega, by omega⟩ ⟨by omega, by omega⟩ (HW1.out.2.2.1.below H2.out) (HW1.out.2.2.2.below H2.out) (by rw [HN.out.2.2.2.1, HD0.out.1]; exact Nat.le_refl _) (by omega) (by omega)
    rw [HAK.out, HRZ.out] at this
    exact this.mono fun e w' ⟨V, fp', sa, sc, h1, h2, _⟩ => ⟨V, fp', sa, sc, h1, h2⟩⟩
  have HRG3 : Box (x3.rangeAt S 0 AK.toList) := ⟨HX.out x3 H3.out.2⟩
  go_upto_region 8 with (first
    | (refine atLoad 23 ?_; refine wpList_ldMid rfl 23 _ _ rfl Tryz.underlying23 rfl S 0 rfl AK.toList HKI.out HRG3.out ?_)
    | (refine atBuild 26 ?_; refine wpList_run rfl _ _ (exec_built 26 [] rfl [] rfl RZ (by rw [← HRZ.out]; exact built_R0)) ?_)
    | (go_at_call 12; refine HVN.out.mono ?_; rintro e x4 ⟨V, fp2, sa, sc, rfl, hc⟩; have H4 : Box (VC x2 x4 V D fp2 ⟨K, n, zr, 1, 99⟩ d0 sa sc ∧ Below w1.heap.size w1 x4) := ⟨hc, below_to H2.out hc.cx.bel⟩; clear hc))
  clear HVN HRG3 HD
  obtain ⟨q, hq⟩ : ∃ q, bk % n = q := ⟨_, rfl⟩
  have hwn : IntKind.u64.wrap (n : Int) = (n : Int) := by rw [IntKind.wrap_u64]; have := HN.out; omega
  have hwq : (bk : Int) % (n : Int) = (q : Int) := by rw [← hq]; omega
  have hwq2 : (bk : Int).tmod (n : Int) = (q : Int) := by rw [← hq]; rfl
  have hne : (n : Int) ≠ 0 := by have := HN.out; omega
  have hw6 : IntKind.i64.wrap ((p : Int) - 1) = ((p - 1 : Nat) : Int) := by rw [IntKind.wrap_i64]; have := HN.out; omega
  have HQN : Box (q < n) := ⟨by rw [← hq]; exact Nat.mod_lt _ (by have := HN.out; omega)⟩
  clear hq
  have HRD : Box (Calls Tryz.prog 26 #[.pointer (some ⟨V, 0, none⟩), .int .u64 (q : Int)] x4 fun e w' => ∃ fp' a, e = .returned (.tuple #[.slice a 160 160, .int .i64 0]) ∧ VC x2 w' V D fp' ⟨K, n, zr, 1, 99⟩ d0 sa sc ∧ Bytes w' a 160 y160) := ⟨by
    have := read_ok H4.out.1 q HQN.out (by rw [HD0.out.2.1]; simp) (by rw [HD0.out.2.2]; omega)
    rw [readM_zero _ _ _ _ _ _ rfl] at this
    refine this.mono ?_
    rintro e w' ⟨fp', a, h1, h2, h3, h4⟩
    simp only [len_y160] at h3 h4
    exact ⟨fp', a, h3, h1, h4⟩⟩
  go_upto_region 9 with (go_at_call 26; refine HRD.out.mono ?_; rintro e x5 ⟨fp5, a5, rfl, h1, h2⟩; have H5 : Box (VC x2 x5 V D fp5 ⟨K, n, zr, 1, 99⟩ d0 sa sc ∧ Below w1.heap.size w1 x5 ∧ Bytes x5 a5 160 y160) := ⟨h1, below_to H2.out h1.cx.bel, h2⟩; clear h1 h2)
  clear HRD
  obtain ⟨E, hE⟩ : ∃ E, x5.heap.size + 1 = E := ⟨_, rfl⟩
  have HD2 : Box (Calls Tryz.prog 10 #[.int .i64 ((p - 1 : Nat) : Int)] x5 fun e w' => e = .returned (.tuple #[.pointer (some ⟨E, 0, none⟩), .int .i64 0]) ∧ ∃ fp, Disk.Cx x5 w' E fp (Disk.dk0 (p - 1))) := ⟨by have := Disk.new_cx x5 (p - 1) ⟨by have := HN.out; omega, by have := HN.out; omega⟩; rw [hE] at this; exact this⟩
  clear hE
  go_upto_region 10 with (go_at_call 10; refine HD2.out.mono ?_; rintro e x6 ⟨rfl, fp6, hc⟩; have H6 : Box (Disk.Cx x5 x6 E fp6 (Disk.dk0 (p - 1)) ∧ Below w1.heap.size w1 x6) := ⟨hc, below_to H5.out.2.1 hc.bel⟩; clear hc)
  have HV2 : Box (Calls Tryz.prog 12 #[.pointer (some ⟨E, 0, none⟩), .agg AK, .int .i64 (n : Int), .agg RZ, .int .u64 1, .int .u64 99] x6 fun e w' => e = .returned (.tuple #[.pointer none, .int .i64 1]) ∧ Below x6.heap.size x6 w') := ⟨by
    have := vnew_few H6.out.1 K HKK.out zr okR_zr 1 99 n HN.out.2.1 (by have := HN.out; omega) (by rw [HN.out.2.2.2.1]; show p - 1 < p; have := HN.out; omega)
    rw [HAK.out, HRZ.out] at this
    exact this⟩
  have HRG6 : Box (x6.rangeAt S 0 AK.toList) := ⟨HX.out x6 H6.out.2⟩
  go_upto_region 11 with (first
    | (refine atLoad 23 ?_; refine wpList_ldMid rfl 23 _ _ rfl Tryz.underlying23 rfl S 0 rfl AK.toList HKI.out HRG6.out ?_)
    | (refine atBuild 26 ?_; refine wpList_run rfl _ _ (exec_built 26 [] rfl [] rfl RZ (by rw [← HRZ.out]; exact built_R0)) ?_)
    | (go_at_call 12; refine HV2.out.mono ?_; rintro e x7 ⟨rfl, hb⟩; have H7 : Box (Below x5.heap.size x5 x7) := ⟨below_to H6.out.1.bel hb⟩; clear hb))
  clear HV2 HRG6 HD2
  have HOP : Box (Calls Tryz.prog 30 #[.pointer (some ⟨D, 0, none⟩)] x7 fun e w' => ∃ a c, e = .returned (.slice a 0 c) ∧ Below x7.heap.size x7 w') := ⟨by
    refine (Disk.ops_cx (H5.out.1.below H7.out).cx (by rw [HD0.out.2.1]; simp)).mono ?_
    rintro e w' ⟨v', rfl, ho, hb, _⟩
    rw [HD0.out.2.1] at ho
    obtain ⟨a, c, rfl⟩ := Disk.own_form2 ho
    exact ⟨a, c, rfl, hb⟩⟩
  go_upto_region 13 with (go_at_call 30; refine HOP.out.mono ?_; rintro e x8 ⟨a8, c8, rfl, hb⟩; have H8 : Box (Below x5.heap.size x5 x8) := ⟨below_to H7.out hb⟩; clear hb)
  obtain ⟨b5, o5, ha5, hlt5, hcl5⟩ := H5.out.2.2.2.2 (by omega)
  subst ha5
  have HCL : Box (∀ k, k < 160 → x8.cell? ⟨b5, o5 + k, none⟩ = some (.int .u8 0)) := ⟨fun k hk => by
    have h7 := hcl5 k hk
    rw [H8.out.cell hlt5, h7, y160_at k hk]⟩
  have HFB : Box (Below w.heap.size w x8) := ⟨below_to HW1.out.1 (below_to H5.out.2.1 H8.out)⟩
  clear hlt5 hcl5
  go_wp2
  go_loopw [21] (fun i wr => ∃ k : Nat, k ≤ 160 ∧ i = .int .i64 (k : Int) ∧ Box (x8 = wr)) (fun i _ => 160 - (intOf i).toNat)
  case atStart => exact ⟨0, Nat.zero_le _, rfl, ⟨rfl⟩⟩
  case round =>
    obtain ⟨k, hk, rfl, HQ⟩ := hrel
    have HE := HQ.out
    subst HE
    by_cases hlt : k < 160
    · have hlt1 : (k : Int) < 160 := by omega
      have hck := HCL.out k hlt
      have hw4 : IntKind.i64.wrap ((k : Int) + 1) = ((k + 1 : Nat) : Int) := by rw [IntKind.wrap_i64]; omega
      have HLT : Box (k < 160) := ⟨hlt⟩
      go_wp2
      go_roundw
      case rel => exact ⟨k + 1, HLT.out, by go_num, ⟨trivial⟩⟩
      case measure => simp [intOf]; have := HLT.out; omega
    · obtain rfl : k = 160 := by omega
      go_wp2
      go_ret
      exact ⟨rfl, HFB.out⟩
theorem vaultEmpty_walk (K : List Int) (a1 a2 : Int) (W : World) (hT : Dig.Tabs W) (hT2 : Seal.Tab W) (hl : K.length = 32) (hK : Byt K) (w1 : (Lit.int .u8 a1).wf = true) (w2 : (Lit.int .u8 a2).wf = true) :
    Calls Tryz.prog 7 #[.agg (u8s K), .int .u8 a1, .int .u8 a2] W fun e w' => e = .returned (.bool true) ∧ Below W.heap.size W w' := by
  have b1 := bounds_u8 w1
  have b2 := bounds_u8 w2
  obtain ⟨x, rfl⟩ := Int.eq_ofNat_of_zero_le b1.1
  obtain ⟨y, rfl⟩ := Int.eq_ofNat_of_zero_le b2.1
  exact vaultEmpty_core K ⟨hl, hK⟩ x y (by omega) (by omega) W hT hT2
end Go.Proofs.YtnicgmimhgbcfaaGreatDoor
