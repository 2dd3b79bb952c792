/-
  What the Go method makeRoom of package buffers leaves and answers; slices.Clone of bytes; one field of a block of a row set anew.
-/
import Derived.Test.YthjfobcfdpogeaaBE
import Derived.Deep.QuietTactic
namespace Go.Proofs.Ythjfobcfdpogeaa
set_option linter.unusedVariables false
open Go.RowKit Plain

/-- How many blocks a cache has, by its cell. -/
def lenC (w : World) (C : Nat) : Nat := match w.cell? ⟨C, 1, none⟩ with
  | some (.slice _ n _) => n
  | _ => 0
theorem Ca.lenC {w : World} {B C : Nat} {n : Int} {rv : Value} {L : List Kp} (h : Ca w B C n rv L) : lenC w C = L.length := by
  obtain ⟨a, cap, rfl, _, _⟩ := h.row.form
  unfold Go.Proofs.Ythjfobcfdpogeaa.lenC
  rw [h.cells.2.1]
theorem Ca.drew {w : World} {B C : Nat} {n : Int} {rv : Value} {L : List Kp} (h : Ca w B C n rv L) (k : Nat) : Ca (w.drewN k) B C n rv L := h.below ⟨rfl, rfl, rfl, Nat.le_refl _, fun _ _ => rfl⟩
theorem below_drewN0 (w : World) (k : Nat) : Below w.heap.size w (w.drewN k) := ⟨rfl, rfl, rfl, Nat.le_refl _, fun _ _ => rfl⟩
theorem Rm.cases {n : Int} {L L' : List Kp} {b : Bool} (h : Rm n L L' b) : ((L.length : Int) < n ∧ L' = L ∧ b = true) ∨ (n ≤ (L.length : Int) ∧ Ah L ∧ L' = L ∧ b = false) ∨ ∃ i, n ≤ (L.length : Int) ∧ Lf L i ∧ Rm n (L.eraseIdx i) L' b := by
  cases h with
  | fit _ h => exact .inl ⟨h, rfl, rfl⟩
  | stuck _ h ha => exact .inr (.inl ⟨h, ha, rfl, rfl⟩)
  | step _ _ _ i h hi k => exact .inr (.inr ⟨i, h, hi, k⟩)
set_option maxRecDepth 20000 in
set_option maxHeartbeats 2000000 in
theorem room_any (w : World) (B C : Nat) (n : Int) (rv : Value) (L L' : List Kp) (b : Bool) (h : Ca w B C n rv L) (hr : Rm n L L' b) :
    Calls Try.prog 23 #[.pointer (some ⟨C, 0, none⟩)] w fun e w' => e = .returned (.bool b) ∧ (∃ rv', Ca w' B C n rv' L') ∧ Fr B w w' := by
  have H0 : Box (Ca w B C n rv L ∧ Rm n L L' b) := ⟨h, hr⟩
  clear h hr
  go_enter Try.func23, Try.ntmps23
  go_wp2
  go_loopw [] (fun wr => Box (∃ rk Lk, Ca wr B C n rk Lk ∧ Rm n Lk L' b ∧ Fr B w wr)) (fun wr => lenC wr C)
  case atStart => exact ⟨rv, L, H0.out.1, H0.out.2, Fr.refl _ _⟩
  case round =>
    obtain ⟨rk, Lk, hA, hR, hF⟩ := hrel.out
    obtain ⟨a, cap, rfl, _, _⟩ := hA.row.form
    obtain ⟨c0, c1, -⟩ := hA.cells
    have hl := hA.lenC
    have HA : Box (Ca wr B C n (.slice a Lk.length cap) Lk) := ⟨hA⟩
    have HF : Box (Fr B w wr) := ⟨hF⟩
    have hlen := hA.len
    clear hA hF hrel H0
    obtain ⟨wo, hwo⟩ : ∃ wo, wo = wr := ⟨_, rfl⟩
    rw [← hwo] at c0 c1 HA HF hl ⊢
    clear hwo
    rcases hR.cases with ⟨hfit, hL, rfl⟩ | ⟨hge, ha, hL, rfl⟩ | ⟨i, hge, hi, hk⟩
    · clear hR
      have hge : decide (n ≤ (Lk.length : Int)) = false := by simp; omega
      go_upto_region 1 with fail
      go_quiet (fail)
      have HA2 : Box _ := ⟨HA.out.drew nq⟩
      have HF2 : Box (Fr B w (wo.drewN nq)) := ⟨HF.out.trans (Fr.of_below (below_drewN0 _ _))⟩
      generalize wo.drewN nq = w2 at HA2 HF2 ⊢
      clear c0 c1 HA HF hl
      go_wp2
      go_ret
      rw [hL]
      exact ⟨rfl, ⟨_, HA2.out⟩, HF2.out⟩
    · clear hR
      have hge' : decide (n ≤ (Lk.length : Int)) = true := by simpa using hge
      have HQ : Box (Ah Lk) := ⟨ha⟩
      clear hge ha
      go_upto_region 1 with fail
      go_quiet (fail)
      have HA2 : Box _ := ⟨HA.out.drew nq⟩
      have HF2 : Box (Fr B w (wo.drewN nq)) := ⟨HF.out.trans (Fr.of_below (below_drewN0 _ _))⟩
      generalize wo.drewN nq = w2 at HA2 HF2 ⊢
      clear c0 c1 HA HF hl
      have HL : Box (Calls Try.prog 32 #[.pointer (some ⟨C, 0, none⟩)] w2 fun e w' => e = .returned (.int .i64 (-1)) ∧ Below w2.heap.size w2 w') := ⟨(last_any w2 B C n _ Lk HA2.out).mono (by
        rintro e w' ⟨⟨r, rfl, ⟨rfl, _⟩ | ⟨i, rfl, hi, h0, _⟩⟩, hb⟩
        · exact ⟨rfl, hb⟩
        · exact absurd h0 (HQ.out _ (List.getElem_mem hi)))⟩
      go_wp2_with (go_at_call 32; refine HL.out.mono ?_; rintro e w3 ⟨rfl, hb3⟩; have B3 : Box _ := ⟨hb3⟩; clear hb3)
      go_ret
      rw [hL]
      exact ⟨rfl, ⟨_, HA2.out.below B3.out⟩, HF2.out.trans (Fr.of_below B3.out)⟩
    · clear hR
      have hge' : decide (n ≤ (Lk.length : Int)) = true := by simpa using hge
      have HQ : Box (Lf Lk i ∧ Rm n (Lk.eraseIdx i) L' b) := ⟨hi, hk⟩
      have hil : i < Lk.length := hi.1
      have hne : ((i : Int) == -1) = false := by simp
      clear hge hi hk
      go_upto_region 1 with fail
      go_quiet (fail)
      have HA2 : Box _ := ⟨HA.out.drew nq⟩
      have HF2 : Box (Fr B w (wo.drewN nq)) := ⟨HF.out.trans (Fr.of_below (below_drewN0 _ _))⟩
      generalize wo.drewN nq = w2 at HA2 HF2 ⊢
      clear c0 c1 HA HF
      have HL : Box (Calls Try.prog 32 #[.pointer (some ⟨C, 0, none⟩)] w2 fun e w' => e = .returned (.int .i64 (i : Int)) ∧ Below w2.heap.size w2 w') := ⟨(last_any w2 B C n _ Lk HA2.out).mono (by
        rintro e w' ⟨⟨r, rfl, ⟨rfl, ha⟩ | ⟨j, rfl, hj⟩⟩, hb⟩
        · obtain ⟨h1, h2, _⟩ := HQ.out.1
          exact absurd h2 (ha _ (List.getElem_mem h1))
        · have e : j = i := by
            obtain ⟨h1, h2, h3⟩ := HQ.out.1
            obtain ⟨k1, k2, k3⟩ := hj
            rcases Nat.lt_trichotomy i j with hl | hl | hl
            · exact absurd k2 (h3 j k1 hl)
            · exact hl.symm
            · exact absurd h2 (k3 i h1 hl)
          exact ⟨by rw [e], hb⟩)⟩
      have HG : Box (∀ x, Below w2.heap.size w2 x → Calls Try.prog 29 #[.pointer (some ⟨C, 0, none⟩), .int .i64 (i : Int)] x fun e w' => e = .returned (.tuple #[]) ∧ (∃ rv', Ca w' B C n rv' (Lk.eraseIdx i)) ∧ Fr B x w') := ⟨fun x hx => forget_any x B C n _ Lk (HA2.out.below hx) i hil⟩
      go_wp2_with (first
        | (go_at_call 32; refine HL.out.mono ?_; rintro e w3 ⟨rfl, hb3⟩; have B3 : Box _ := ⟨hb3⟩; clear hb3)
        | (go_at_call 29; refine (HG.out _ B3.out).mono ?_; rintro e w4 ⟨rfl, h4, f4⟩; have H4 : Box _ := ⟨h4⟩; have F4 : Box _ := ⟨f4⟩; clear h4 f4))
      obtain ⟨r4, h4⟩ := H4.out
      refine ⟨⟨r4, _, h4, HQ.out.2, (HF2.out.trans (Fr.of_below B3.out)).trans F4.out⟩, ?_⟩
      rw [h4.lenC, hl, List.length_eraseIdx, if_pos hil]
      omega
theorem own_emptyB (w : World) : (w.alloc (.cells #[] 5)).ownsRow w.heap.size 5 1 (.slice (some ⟨w.heap.size, 0, none⟩) 0 0) 0 [] :=
  ⟨rfl, .inr ⟨w.heap.size, 0, #[], rfl, Nat.le_refl _, al_at rfl, Nat.le_refl _, by unfold maxLen; omega, by simp, by simp⟩⟩
set_option maxRecDepth 20000 in
set_option maxHeartbeats 1000000 in
theorem clone_any (a : Option Addr) (n cap : Nat) (L : List Int) (w : World) (h : Bytes w a n L) (hl : n < 1000000) (h0 : 0 < n) :
    Calls Try.prog 24 #[.slice a n cap] w fun e w' => ∃ a' c', e = .returned (.slice a' n c') ∧ w'.ownsRow w.heap.size 5 1 (.slice a' n c') n (L.map (Value.int .u8)) ∧ Below w.heap.size w w' := by
  obtain ⟨i0, hi, hz0, hz1, hz2⟩ := info_parts info5
  cases a with
  | none =>
    obtain ⟨_, _, he, _⟩ := h.2.2 (by omega)
    cases he
  | some ad =>
    have HB : Box ((0 + n) * 1 ≤ 140737488355328) := ⟨by omega⟩
    have HN : Box ((L.map (Value.int .u8)).length = n * 1) := ⟨by simp [h.1]⟩
    have HO : Box (∀ u ∈ L.map (Value.int .u8), u.oneCell' = true) := ⟨ints_oneCell _ _⟩
    have HC : Box (∀ j u, (L.map (Value.int .u8))[j]? = some u → w.cell? (ad.add j) = some u) := ⟨bytes_news h⟩
    have hq : ∀ x, (binOp .eql 30 (.slice (some ad) n cap) (.slice none 0 0)).run Try.prog x = .ok (.bool false) x := fun x => eql_nil x 30 _ _ _ _ Try.underlying30
    clear h hl h0
    go_enter Try.func24, Try.ntmps24
    go_wp2_with (at_builtin; refine wpList_append_own _ rfl _ _ 30 rfl w.heap.size 5 i0 (.int .u8 0) 1 1 Try.underlying30 hi hz0 hz1 hz2 rfl (by decide) _ 0 [] rfl (own_emptyB w) ad n cap (L.map (Value.int .u8)) rfl HN.out (fun j u hj => cell_al _ (HC.out j u hj)) HO.out (by unfold maxLen; have := HB.out; omega) HB.out (by simp) ?_; intro v' w2 hown hgr _; have HX : Box (_ ∧ _) := ⟨hown, hgr⟩; clear hown hgr)
    go_ret
    obtain ⟨x1, x2⟩ := HX.out
    rw [Nat.zero_add, List.nil_append] at x1
    obtain ⟨a', c', rfl⟩ := own_form x1
    have hz : ∀ k, Value.ownBlock (.slice (some ⟨w.heap.size, 0, none⟩) 0 0) = some k → w.heap.size ≤ k := fun k hk => by simp [Value.ownBlock] at hk; omega
    exact ⟨a', c', rfl, x1, below_grown x2 hz⟩
theorem kcs_set (L : List Kp) (i j : Nat) (hi : i < L.length) (hj : j < 3) (v : Value) (x : Kp) (hx : (kc L[i]).set j v = kc x) : (kcs L).set (i * 3 + j) v = kcs (L.set i x) := by
  have e1 : kcs L = kcs (L.take i) ++ (kc L[i] ++ kcs (L.drop (i + 1))) := by
    rw [← kcs_cons, ← kcs_app, List.getElem_cons_drop, List.take_append_drop]
  have hl : (kcs (L.take i)).length = i * 3 := by rw [length_kcs, List.length_take, Nat.min_eq_left (by omega)]
  rw [e1, List.set_append_right _ _ (by omega), hl, show i * 3 + j - i * 3 = j by omega, List.set_append_left _ _ (by rw [length_kc]; exact hj), hx, ← kcs_cons, ← kcs_app, List.set_eq_take_append_cons_drop, if_pos hi]
/-- One field of a block of the row set anew. -/
theorem Ca.field {w : World} {B C g cap : Nat} {n : Int} {L : List Kp} (h : Ca w B C n (.slice (some ⟨g, 0, none⟩) L.length cap) L) (i j : Nat) (hi : i < L.length) (hj : j < 3) (v : Value) (x : Kp) (hx : (kc L[i]).set j v = kc x) (hu : U64 x.b ∧ U64 x.h) :
    Ca (w.setCell ⟨g, i * 3 + j, none⟩ v) B C n (.slice (some ⟨g, 0, none⟩) L.length cap) (L.set i x) ∧ Fr B w (w.setCell ⟨g, i * 3 + j, none⟩ v) ∧ (w.cell? ⟨g, i * 3 + j, none⟩).isSome = true ∧ w.frozen? ⟨g, i * 3 + j, none⟩ = false := by
  obtain ⟨g', cap', cur, e, hg, hc, hm, hs, htk⟩ := h.row.blk (by omega)
  simp only [Value.slice.injEq, Option.some.injEq, Addr.mk.injEq, and_true, true_and] at e
  obtain ⟨rfl, rfl⟩ := e
  have hneC : C ≠ g := fun e => h.ne (by rw [e]; rfl)
  have hr := heap_setCell_same w g (i * 3 + j) cur _ v hg
  have hf : i * 3 + j < L.length * 3 := by omega
  have hf2 : i * 3 + j < cur.size := by have := Nat.mul_le_mul_right 3 hc; omega
  refine ⟨⟨?_, ⟨length_kcs _, .inr ⟨g, cap, _, by rw [List.length_set], Nat.zero_le _, hr, by rw [List.length_set]; exact hc, hm, by simpa using hs, ?_⟩⟩, fun y hy => ?_, h.hC, h.hR, by rw [List.length_set]; exact h.len⟩, fr_set (Fr.refl _ _) (h.hR g rfl) (h.ckr rfl) _, ?_, frozen_of_row w g _ _ _ hg⟩
  · rw [heap_setCell_other w ⟨g, i * 3 + j, none⟩ C _ hneC]
    exact h.hd
  · rw [List.length_set, Array.toList_setIfInBounds, ← kcs_set L i j hi hj v x hx, ← htk, List.take_set]
  · rcases List.mem_or_eq_of_mem_set hy with hy | rfl
    · exact h.u y hy
    · exact hu
  · rw [cell_of_row _ _ _ _ _ _ hg]
    simp [hf2]
end Go.Proofs.Ythjfobcfdpogeaa
