/-
  What the reference's Put of layer 7 answers, for every cell.
-/
import Derived.Test.YtejpbbgnammgkaaX7
namespace Go.Proofs.Ytejpbbgnammgkaa
set_option linter.unusedVariables false
open Go.RowKit Plain

theorem take_snoc (L : List Int) (k : Nat) (h : k < L.length) : L.take (k + 1) = L.take k ++ [L.getD k 0] := by
  rw [List.take_add_one]
  simp [h]
theorem byt_one (z : Int) (h : 0 ≤ z ∧ z ≤ 255) : Byt [z] := byt_cons _ _ h byt_nil
theorem Pt.one {C : Cl} {w1 wr : World} {S n : Nat} {v : Value} {A : List Int} (h : Pt C w1 wr S v n A) (z : Int) (hz : 0 ≤ z ∧ z ≤ 255) : Pt C w1 (wr.alloc (.cells #[.int .u8 z] 5)) S v n A ∧ Bytes (wr.alloc (.cells #[.int .u8 z] 5)) (some ⟨wr.heap.size, 0, none⟩) 1 [z] :=
  ⟨h.below ((Below.refl _ _).alloc (Nat.le_refl _) _), bytes_of_row (X := [z]) (t := 5) (fr := (0, 0)) (byt_one z hz) (al_at rfl)⟩
theorem rput_k (x : Int) (w : World) (hx : U64 x) :
    Calls Try.prog 20 #[.int .u64 x, .int .i64 8] w fun e w' => ∃ a' cap', e = .returned (.slice a' 8 cap') ∧ Bytes w' a' 8 (bytesOf x 8) ∧ Below w.heap.size w w' :=
  (rput_any x 8 8 w hx rfl (by omega)).mono fun e w' ⟨a', cap', he, ho⟩ => ⟨a', cap', he, ho.bytes (bytesOf_bd _ 8), ho.2.2⟩

set_option maxRecDepth 20000 in
set_option maxHeartbeats 1000000 in
theorem rcput_any (C : Cl) (w : World) (hC : Ok C) : Calls Try.prog 11 #[.agg (av C)] w fun e w' => ∃ a cap, e = .returned (.slice a 96 cap) ∧ Bytes w' a 96 (cb C) ∧ Below w.heap.size w w' := by
  obtain ⟨S, hS⟩ : ∃ S, w.heap.size = S := ⟨_, rfl⟩
  have HS : Box (w.heap.size = S) := ⟨hS⟩
  have HC : Box (Ok C) := ⟨hC⟩
  have H1 : Box (Pt C (w.alloc (.cells (av C) 26)) (w.alloc (.cells (av C) 26)) S (.slice none 0 0) 0 [] ∧ Below S w (w.alloc (.cells (av C) 26))) := ⟨⟨World.ownsRow_nil _ _ _ _, Below.refl _ _, by simp [hS], hS ▸ lies_new w C⟩, (Below.refl _ _).alloc (by omega) _⟩
  clear hS hC
  go_enter Try.func11, Try.ntmps11
  go_upto_region 1 with fail
  rw [HS.out]
  generalize w.alloc (.cells (av C) 26) = w1 at H1 ⊢
  go_wp2
  go_loopw [3, 4] (fun v i wr => ∃ k : Nat, k ≤ 32 ∧ i = .int .i64 k ∧ Box (Pt C w1 wr S v k (C.r.take k))) (fun _ i _ => 32 - (intOf i).toNat)
  case atStart => exact ⟨0, by omega, rfl, ⟨H1.out.1⟩⟩
  case round =>
    obtain ⟨k, hk, rfl, HP⟩ := hrel
    by_cases hlt : k < 32
    · have hc : wr.cell? ⟨S, k, none⟩ = some (.int .u8 (C.r.getD k 0)) := by rw [HP.out.2.2.2.cell]; exact av_r HC.out k hlt
      have HR : Box (C.r.take (k + 1) = C.r.take k ++ [C.r.getD k 0]) := ⟨take_snoc _ _ (by rw [HC.out.lr]; exact hlt)⟩
      have HA : Box (Pt C w1 (wr.alloc (.cells #[.int .u8 (C.r.getD k 0)] 5)) S u3 k (C.r.take k) ∧ Bytes (wr.alloc (.cells #[.int .u8 (C.r.getD k 0)] 5)) (some ⟨wr.heap.size, 0, none⟩) 1 [C.r.getD k 0]) := ⟨HP.out.one _ (HC.out.br k)⟩
      have HL : Box (k + 1 ≤ 140737488355328) := ⟨by omega⟩
      generalize C.r.getD k 0 = z at hc HR HA
      clear HP
      go_wp2_with (at_builtin; refine wpList_app rfl (.tmp 10) (.tmp 15) rfl (S + 1) k 1 1 _ (C.r.take k) [z] _ (wr.alloc (.cells #[.int .u8 z] 5)) rfl rfl HA.out.1.1 HA.out.2 HL.out (Below.refl _ _) HA.out.1.2.2.1 ?_; intro v6 w6 h6; have H6 : Box (Pt C w1 w6 S v6 (k + 1) (C.r.take k ++ [z])) := ⟨HA.out.1.app h6⟩; clear h6 HA)
      go_roundw
      case rel => exact ⟨k + 1, by omega, by go_num, ⟨by rw [HR.out]; exact H6.out⟩⟩
      case measure => simp [intOf]; omega
    · have HK : Box (k = 32) := ⟨by omega⟩
      have hd : decide ((k : Int) < 32) = false := by simp; omega
      have HP : Box (Pt C w1 wr S u3 32 C.r) := ⟨by
        have := HP.out
        rw [HK.out, List.take_of_length_le (by rw [HC.out.lr]; exact Nat.le_refl _)] at this
        exact this⟩
      obtain ⟨a5, c5, rfl⟩ := own_form HP.out.1
      clear hlt hk
      have d0 : wr.cell? ⟨S, 32, none⟩ = some (.int .u64 C.v) := HP.out.2.2.2.num HC.out 0 (by omega)
      have u0 := HC.out.hv
      go_upto_region 7 with (first | (go_at_call 20; refine Calls.mono (rput_k C.v _ u0) ?_; rintro e x0 ⟨ga0, gc0, rfl, hB, hb⟩; have X0 : Box (Pt C w1 x0 S (.slice a5 32 c5) 32 (C.r) ∧ Bytes x0 ga0 8 (bytesOf C.v 8)) := ⟨HP.out.below hb, hB⟩; clear hB hb d0) | (at_builtin; refine wpList_app rfl (.tmp 17) (.tmp 20) rfl (S + 1) 32 8 _ _ (C.r) (bytesOf C.v 8) _ x0 rfl rfl X0.out.1.1 X0.out.2 (by decide) (Below.refl _ _) X0.out.1.2.2.1 ?_; intro v0 y0 h6; have Y0 : Box (Pt C w1 y0 S v0 40 (C.r ++ bytesOf C.v 8)) := ⟨X0.out.1.app h6⟩; clear h6 X0))
      obtain ⟨ay0, cy0, rfl⟩ := own_form Y0.out.1
      have d1 : y0.cell? ⟨S, 33, none⟩ = some (.int .u64 C.c) := Y0.out.2.2.2.num HC.out 1 (by omega)
      have u1 := HC.out.hc
      go_upto_region 8 with (first | (go_at_call 20; refine Calls.mono (rput_k C.c _ u1) ?_; rintro e x1 ⟨ga1, gc1, rfl, hB, hb⟩; have X1 : Box (Pt C w1 x1 S (.slice ay0 40 cy0) 40 (C.r ++ bytesOf C.v 8) ∧ Bytes x1 ga1 8 (bytesOf C.c 8)) := ⟨Y0.out.below hb, hB⟩; clear hB hb d1) | (at_builtin; refine wpList_app rfl (.tmp 22) (.tmp 25) rfl (S + 1) 40 8 _ _ (C.r ++ bytesOf C.v 8) (bytesOf C.c 8) _ x1 rfl rfl X1.out.1.1 X1.out.2 (by decide) (Below.refl _ _) X1.out.1.2.2.1 ?_; intro v1 y1 h6; have Y1 : Box (Pt C w1 y1 S v1 48 (C.r ++ bytesOf C.v 8 ++ bytesOf C.c 8)) := ⟨X1.out.1.app h6⟩; clear h6 X1))
      obtain ⟨ay1, cy1, rfl⟩ := own_form Y1.out.1
      have d2 : y1.cell? ⟨S, 34, none⟩ = some (.int .u64 C.s) := Y1.out.2.2.2.num HC.out 2 (by omega)
      have u2 := HC.out.hs
      go_upto_region 9 with (first | (go_at_call 20; refine Calls.mono (rput_k C.s _ u2) ?_; rintro e x2 ⟨ga2, gc2, rfl, hB, hb⟩; have X2 : Box (Pt C w1 x2 S (.slice ay1 48 cy1) 48 (C.r ++ bytesOf C.v 8 ++ bytesOf C.c 8) ∧ Bytes x2 ga2 8 (bytesOf C.s 8)) := ⟨Y1.out.below hb, hB⟩; clear hB hb d2) | (at_builtin; refine wpList_app rfl (.tmp 27) (.tmp 30) rfl (S + 1) 48 8 _ _ (C.r ++ bytesOf C.v 8 ++ bytesOf C.c 8) (bytesOf C.s 8) _ x2 rfl rfl X2.out.1.1 X2.out.2 (by decide) (Below.refl _ _) X2.out.1.2.2.1 ?_; intro v2 y2 h6; have Y2 : Box (Pt C w1 y2 S v2 56 (C.r ++ bytesOf C.v 8 ++ bytesOf C.c 8 ++ bytesOf C.s 8)) := ⟨X2.out.1.app h6⟩; clear h6 X2))
      obtain ⟨ay2, cy2, rfl⟩ := own_form Y2.out.1
      have d3 : y2.cell? ⟨S, 35, none⟩ = some (.int .u64 C.n) := Y2.out.2.2.2.num HC.out 3 (by omega)
      have u3 := HC.out.hn
      go_upto_region 10 with (first | (go_at_call 20; refine Calls.mono (rput_k C.n _ u3) ?_; rintro e x3 ⟨ga3, gc3, rfl, hB, hb⟩; have X3 : Box (Pt C w1 x3 S (.slice ay2 56 cy2) 56 (C.r ++ bytesOf C.v 8 ++ bytesOf C.c 8 ++ bytesOf C.s 8) ∧ Bytes x3 ga3 8 (bytesOf C.n 8)) := ⟨Y2.out.below hb, hB⟩; clear hB hb d3) | (at_builtin; refine wpList_app rfl (.tmp 32) (.tmp 35) rfl (S + 1) 56 8 _ _ (C.r ++ bytesOf C.v 8 ++ bytesOf C.c 8 ++ bytesOf C.s 8) (bytesOf C.n 8) _ x3 rfl rfl X3.out.1.1 X3.out.2 (by decide) (Below.refl _ _) X3.out.1.2.2.1 ?_; intro v3 y3 h6; have Y3 : Box (Pt C w1 y3 S v3 64 (C.r ++ bytesOf C.v 8 ++ bytesOf C.c 8 ++ bytesOf C.s 8 ++ bytesOf C.n 8)) := ⟨X3.out.1.app h6⟩; clear h6 X3))
      obtain ⟨ay3, cy3, rfl⟩ := own_form Y3.out.1
      have EA : Box ((C.r ++ bytesOf C.v 8 ++ bytesOf C.c 8 ++ bytesOf C.s 8 ++ bytesOf C.n 8) ++ C.t = cb C) := ⟨by simp [cb, List.append_assoc]⟩
      generalize C.r ++ bytesOf C.v 8 ++ bytesOf C.c 8 ++ bytesOf C.s 8 ++ bytesOf C.n 8 = A at Y3 EA
      go_wp2
      go_loopw [3, 5] (fun v i wr => ∃ k : Nat, k ≤ 32 ∧ i = .int .i64 k ∧ Box (Pt C w1 wr S v (64 + k) (A ++ C.t.take k))) (fun _ i _ => 32 - (intOf i).toNat)
      case atStart => exact ⟨0, by omega, rfl, ⟨by simpa using Y3.out⟩⟩
      case round =>
        obtain ⟨k, hk, rfl, HQ⟩ := hrel
        by_cases hlt : k < 32
        · have hc : wr.cell? ⟨S, 36 + k, none⟩ = some (.int .u8 (C.t.getD k 0)) := by rw [HQ.out.2.2.2.cell]; exact av_t HC.out k hlt
          have HR : Box (A ++ C.t.take (k + 1) = A ++ C.t.take k ++ [C.t.getD k 0]) := ⟨by rw [take_snoc _ _ (by rw [HC.out.lt]; exact hlt), List.append_assoc]⟩
          have HA : Box (Pt C w1 (wr.alloc (.cells #[.int .u8 (C.t.getD k 0)] 5)) S u3 (64 + k) (A ++ C.t.take k) ∧ Bytes (wr.alloc (.cells #[.int .u8 (C.t.getD k 0)] 5)) (some ⟨wr.heap.size, 0, none⟩) 1 [C.t.getD k 0]) := ⟨HQ.out.one _ (HC.out.bt k)⟩
          have HL : Box (64 + k + 1 ≤ 140737488355328) := ⟨by omega⟩
          generalize C.t.getD k 0 = z at hc HR HA
          clear HQ
          go_wp2_with (at_builtin; refine wpList_app rfl (.tmp 41) (.tmp 46) rfl (S + 1) (64 + k) 1 1 _ (A ++ C.t.take k) [z] _ (wr.alloc (.cells #[.int .u8 z] 5)) rfl rfl HA.out.1.1 HA.out.2 HL.out (Below.refl _ _) HA.out.1.2.2.1 ?_; intro v6 w6 h6; have H6 : Box (Pt C w1 w6 S v6 (64 + k + 1) (A ++ C.t.take k ++ [z])) := ⟨HA.out.1.app h6⟩; clear h6 HA)
          go_roundw
          case rel => exact ⟨k + 1, by omega, by go_num, ⟨by rw [HR.out]; exact H6.out⟩⟩
          case measure => simp [intOf]; omega
        · obtain rfl : k = 32 := by omega
          have e32 : C.t.take 32 = C.t := List.take_of_length_le (by rw [HC.out.lt]; exact Nat.le_refl _)
          rw [e32, EA.out] at HQ
          obtain ⟨a7, c7, rfl⟩ := own_form HQ.out.1
          go_wp2
          go_ret
          refine ⟨a7, c7, rfl, own_bytes HQ.out.1 (byt_cb HC.out), ?_⟩
          rw [HS.out]
          exact H1.out.2.trans (HQ.out.2.1.mono (by omega))
end Go.Proofs.Ytejpbbgnammgkaa
