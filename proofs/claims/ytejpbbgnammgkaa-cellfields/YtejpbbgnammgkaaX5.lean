/-
  What the Go function Put of package cell answers, for every cell.
-/
import Derived.Test.YtejpbbgnammgkaaX4
import Derived.Test.YtejpbbgnammgkaaV5
namespace Go.Proofs.Ytejpbbgnammgkaa
set_option linter.unusedVariables false
open Go.RowKit Plain

def ns (C : Cl) : List Int := [C.v, C.c, C.s, C.n]
theorem ns_bd {C : Cl} (h : Ok C) (k : Nat) : U64 ((ns C).getD k 0) := by
  match k with
  | 0 => exact h.hv
  | 1 => exact h.hc
  | 2 => exact h.hs
  | 3 => exact h.hn
  | k + 4 => exact ⟨by simp [ns], by simp [ns]⟩
theorem four_at (S k : Nat) (hk : k < 4) : (four S)[k]? = some (.pointer (some ⟨S, 32 + k, none⟩)) := by
  match k, hk with
  | 0, _ => rfl
  | 1, _ => rfl
  | 2, _ => rfl
  | 3, _ => rfl
theorem index4 (S k : Nat) (hk : k < 4) (w : World) : (Instr.index 43 (.agg (four S)) (.int .i64 k)).run Try.prog w = .ok (.pointer (some ⟨S, 32 + k, none⟩)) w :=
  run_index_row Try.underlying43 Try.underlying42 rfl (by kernel_rfl) k hk (four_at S k hk) w
/-- What Put of package cell has put so far, behind the cell's own block S. -/
def Pt (C : Cl) (w1 wr : World) (S : Nat) (v : Value) (n : Nat) (A : List Int) : Prop :=
  wr.ownsRow (S + 1) 5 1 v n (A.map (Value.int .u8)) ∧ Below (S + 1) w1 wr ∧ S + 1 ≤ wr.heap.size ∧ Lies wr S C
theorem Pt.below {C : Cl} {w1 wr w' : World} {S n : Nat} {v : Value} {A : List Int} (h : Pt C w1 wr S v n A) (hb : Below wr.heap.size wr w') : Pt C w1 w' S v n A :=
  ⟨own_later h.1 hb, h.2.1.trans (hb.mono h.2.2.1), Nat.le_trans h.2.2.1 hb.size, h.2.2.2.below hb⟩
theorem Pt.app {C : Cl} {w1 wr w' : World} {S n m : Nat} {v v' : Value} {A L : List Int} (h : Pt C w1 wr S v n A) (hw : Box (w'.ownsRow (S + 1) 5 1 v' (n + m) ((A ++ L).map (Value.int .u8)) ∧ Below (S + 1) wr w' ∧ S + 1 ≤ w'.heap.size)) : Pt C w1 w' S v' (n + m) (A ++ L) :=
  ⟨hw.out.1, h.2.1.trans hw.out.2.1, hw.out.2.2, h.2.2.2.on hw.out.2.1 (by omega)⟩
theorem put_k (x : Int) (w : World) (hx : U64 x) :
    Calls Try.prog 17 #[.int .u64 x, .int .i64 8] w fun e w' => ∃ g, e = .returned (.slice (some ⟨g, 0, none⟩) 8 8) ∧ Bytes w' (some ⟨g, 0, none⟩) 8 (bytesOf x 8) ∧ Below w.heap.size w w' :=
  (put_ok x 8 w hx.1 hx.2 (by omega) (by omega)).mono fun e w' ⟨g, he, ho⟩ => ⟨g, he, ho.bytes (bytesOf_bd _ 8), ho.2.2⟩
theorem rows4 (C : Cl) : C.r ++ rowsOf (ns C) 8 4 ++ C.t = cb C := by
  simp [rowsOf, ns, cb, List.append_assoc]

set_option maxRecDepth 20000 in
set_option maxHeartbeats 1000000 in
theorem cput_any (C : Cl) (w : World) (hC : Ok C) : Calls Try.prog 8 #[.agg (av C)] w fun e w' => ∃ a cap, e = .returned (.slice a 96 cap) ∧ Bytes w' a 96 (cb C) ∧ 96 ≤ cap ∧ cap ≤ maxLen ∧ Below w.heap.size w w' := by
  obtain ⟨i0, hi, hz0, hz1, hz2⟩ := info_parts info5
  obtain ⟨S, hS⟩ : ∃ S, w.heap.size = S := ⟨_, rfl⟩
  have HS : Box (w.heap.size = S) := ⟨hS⟩
  have HC : Box (Ok C) := ⟨hC⟩
  have H1 : Box (Lies (w.alloc (.cells (av C) 26)) S C ∧ (w.alloc (.cells (av C) 26)).heap.size = S + 1 ∧ Below S w (w.alloc (.cells (av C) 26))) := ⟨hS ▸ lies_new w C, by simp [hS], (Below.refl _ _).alloc (by omega) _⟩
  clear hS hC
  go_enter Try.func8, Try.ntmps8
  go_upto_region 1 with fail
  rw [HS.out]
  generalize w.alloc (.cells (av C) 26) = w1 at H1 ⊢
  go_upto_region 2 with (at_make; refine wpList_make_own _ rfl _ _ 27 rfl (S + 1) 5 i0 (.int .u8 0) 1 Try.underlying27 hi hz0 hz1 .i64 .i64 96 96 rfl rfl rfl (by rw [hz2]; decide) (by decide) (by rw [H1.out.2.1]; exact Nat.le_refl _) ?_; intro w2 hown hgr; have H2 : Box (Pt C w1 w2 S (.slice (some ⟨w1.heap.size, 0, none⟩) 0 96) 0 []) := ⟨hown, (Below.refl _ _).grown hgr (by rw [H1.out.2.1]; exact Nat.le_refl _) (by simp), by have := hgr.size; rw [H1.out.2.1] at this; exact this, (H1.out.1).on (B := S + 1) ((Below.refl _ _).grown hgr (by rw [H1.out.2.1]; exact Nat.le_refl _) (by simp)) (by omega)⟩; clear hown hgr)
  obtain ⟨g2, hg2⟩ : ∃ g, w1.heap.size = g := ⟨_, rfl⟩
  rw [hg2] at H2
  rw [hg2]
  go_wp2_with (first
    | (go_at_call 16; refine Calls.mono (numbers_any S _) ?_; rintro e w4 ⟨rfl, hb⟩; have H4 : Box (Pt C w1 w4 S v3 (0 + 32) ([] ++ C.r)) := ⟨H3.out.below hb⟩; clear hb)
    | (at_builtin; refine wpList_app rfl (.tmp 7) (.tmp 9) rfl (S + 1) 0 32 32 _ [] C.r _ w2 rfl rfl H2.out.1 (H2.out.2.2.2.root HC.out) (by decide) (Below.refl _ _) H2.out.2.2.1 ?_; intro v3 w3 h3; have H3 : Box (Pt C w1 w3 S v3 (0 + 32) ([] ++ C.r)) := ⟨H2.out.app h3⟩; clear h3))
  rw [Nat.zero_add, List.nil_append] at H4
  clear H2 H3 hg2
  go_loopw [3, 12] (fun v i wr => ∃ k : Nat, k ≤ 4 ∧ i = .int .i64 k ∧ Box (Pt C w1 wr S v (32 + k * 8) (C.r ++ rowsOf (ns C) 8 k))) (fun _ i _ => 4 - (intOf i).toNat)
  case atStart => exact ⟨0, by omega, rfl, ⟨by simpa [rowsOf] using H4.out⟩⟩
  case round =>
    obtain ⟨k, hk, rfl, HP⟩ := hrel
    clear H4
    by_cases hlt : k < 4
    · have hix := index4 S k hlt
      have hc : wr.cell? ⟨S, 32 + k, none⟩ = some (.int .u64 ((ns C).getD k 0)) := HP.out.2.2.2.num HC.out k hlt
      have hu := ns_bd HC.out k
      have HR : Box (rowsOf (ns C) 8 (k + 1) = rowsOf (ns C) 8 k ++ bytesOf ((ns C).getD k 0) 8) := ⟨rfl⟩
      have HL : Box (32 + k * 8 + 8 ≤ 140737488355328) := ⟨by omega⟩
      generalize (ns C).getD k 0 = z at hc hu HR
      go_wp2_with (first
        | (go_at_call 17; refine Calls.mono (put_k z _ hu) ?_; rintro e w5 ⟨g5, rfl, hB, hb⟩; have H5 : Box (Pt C w1 w5 S u3 (32 + k * 8) (C.r ++ rowsOf (ns C) 8 k) ∧ Bytes w5 (some ⟨g5, 0, none⟩) 8 (bytesOf z 8)) := ⟨HP.out.below hb, hB⟩; clear hB hb hc)
        | (at_builtin; refine wpList_app rfl (.tmp 15) (.tmp 19) rfl (S + 1) (32 + k * 8) 8 8 _ (C.r ++ rowsOf (ns C) 8 k) (bytesOf z 8) _ w5 rfl rfl H5.out.1.1 H5.out.2 HL.out (Below.refl _ _) H5.out.1.2.2.1 ?_; intro v6 w6 h6; have H6 : Box (Pt C w1 w6 S v6 (32 + k * 8 + 8) (C.r ++ rowsOf (ns C) 8 k ++ bytesOf z 8)) := ⟨H5.out.1.app h6⟩; clear h6 H5))
      go_roundw
      case rel => exact ⟨k + 1, by omega, by go_num, ⟨by rw [HR.out, ← List.append_assoc, show 32 + (k + 1) * 8 = 32 + k * 8 + 8 by omega]; exact H6.out⟩⟩
      case measure => simp [intOf]; omega
    · obtain rfl : k = 4 := by omega
      obtain ⟨a5, c5, rfl⟩ := own_form HP.out.1
      go_wp2_with (at_builtin; refine wpList_app rfl (.tmp 22) (.tmp 24) rfl (S + 1) 64 32 32 _ (C.r ++ rowsOf (ns C) 8 4) C.t _ wr rfl rfl HP.out.1 (HP.out.2.2.2.tag HC.out) (by decide) (Below.refl _ _) HP.out.2.2.1 ?_; intro v7 w7 h7; have H7 : Box (Pt C w1 w7 S v7 (64 + 32) (C.r ++ rowsOf (ns C) 8 4 ++ C.t)) := ⟨HP.out.app h7⟩; clear h7)
      rw [rows4] at H7
      obtain ⟨a7, c7, rfl⟩ := own_form H7.out.1
      go_ret
      refine ⟨a7, c7, rfl, own_bytes H7.out.1 (byt_cb HC.out), (own_cap H7.out.1).1, (own_cap H7.out.1).2, ?_⟩
      rw [HS.out]
      exact H1.out.2.2.trans (H7.out.2.1.mono (by omega))
end Go.Proofs.Ytejpbbgnammgkaa
