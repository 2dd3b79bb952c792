/-
  What the Go function mixed of package digest answers, for every words and every schedule.
-/
import Derived.BigRegion
import Derived.Deep.QuietTactic
import Derived.BigQuiet
import Derived.Deep.MidRow
import Derived.Test.YtipdaaajnbjnjaaDoorO02
import Derived.Test.YtipdaaajnbjnjaaDoorO04
namespace Go.Proofs.YtipdaaajnbjnjaaDoor.Dig
set_option maxRecDepth 100000
set_option linter.unusedVariables false
open Go.RowKit Go.Proofs.YtipdaaajnbjnjaaDoor.Dig.Plain
/-- The two tables that package digest keeps hold what the document says. -/
def Tabs (w : World) : Prop := 2 ≤ w.heap.size ∧ (∀ i, i < 8 → w.cell? ⟨0, i, none⟩ = some (.int .u32 (hh.getD i 0))) ∧ ∀ i, i < 64 → w.cell? ⟨1, i, none⟩ = some (.int .u32 (kk.getD i 0))
theorem Tabs.below {w w' : World} (h : Tabs w) (hb : Below w.heap.size w w') : Tabs w' := by
  have h2 := h.1
  exact ⟨Nat.le_trans h.1 hb.size, fun i hi => (hb.cell (by show 0 < _; omega)).trans (h.2.1 i hi), fun i hi => (hb.cell (by show 1 < _; omega)).trans (h.2.2 i hi)⟩
theorem index43 (X : List Int) (hX : X.length = 8) (k : Nat) (hk : k < 8) (w : World) : (Instr.index 140 (.agg (u32s X)) (.int .i64 k)).run Tryd.prog w = .ok (.int .u32 (X.getD k 0)) w :=
  run_index_row Tryd.underlying140 Tryd.underlying63 rfl (by kernel_rfl) k hk (by simp [u32s, hX, hk]) w
set_option maxRecDepth 20000 in
set_option maxHeartbeats 2000000 in
theorem mixed_any (H W : List Int) (w : World) (hH : H.length = 8) (hW : W.length = 64) (hHw : Wrd H) (hWw : Wrd W) (hT : Tabs w) :
    Calls Tryd.prog 77 #[.agg (u32s H), .agg (u32s W)] w fun e w' => e = .returned (.agg (u32s (mix H W))) ∧ Below w.heap.size w w' := by
  obtain ⟨S, hS⟩ : ∃ S, w.heap.size = S := ⟨_, rfl⟩
  have HS : Hid (w.heap.size = S) := hS
  clear hS
  have h2 : 2 ≤ S := by rw [← HS.out]; exact hT.1
  have HT : Hid (∀ wr, Below S w wr → Tabs wr) := fun wr hb => hT.below (by rw [HS.out]; exact hb)
  clear hT
  go_enter Tryd.func77, Tryd.ntmps77
  go_wp2
  rw [HS.out]
  obtain ⟨x0, hx0⟩ : ∃ x0, x0 = ((w.alloc (Obj.cells (u32s H) 140)).alloc (Obj.cells (u32s W) 166)).alloc (Obj.cells (fil [] 8) 140) := ⟨_, rfl⟩
  have hz8 : fil [] 8 = #[.int .u32 0, .int .u32 0, .int .u32 0, .int .u32 0, .int .u32 0, .int .u32 0, .int .u32 0, .int .u32 0] := rfl
  rw [hz8] at hx0
  have gH : x0.heap[S]? = some (.cells (u32s H) 140 (0, 0)) := by rw [hx0]; exact al_old (al_old (al_at HS.out))
  have gW : x0.heap[S + 1]? = some (.cells (u32s W) 166 (0, 0)) := by rw [hx0]; exact al_old (al_at (by simp [HS.out]))
  have gR : x0.heap[S + 2]? = some (.cells (fil [] 8) 140 (0, 0)) := by rw [hx0]; exact al_at (by simp [HS.out])
  have gB : Below S w x0 := by rw [hx0, ← HS.out]; exact (((Below.refl _ _).alloc (Nat.le_refl _) _).alloc (by simp) _).alloc (by simp; omega) _
  rw [← hx0]
  clear hx0 hz8
  obtain ⟨y0, Y0⟩ : ∃ z, Hid (H.getD 0 0 = z) := ⟨_, rfl⟩
  obtain ⟨y1, Y1⟩ : ∃ z, Hid (H.getD 1 0 = z) := ⟨_, rfl⟩
  obtain ⟨y2, Y2⟩ : ∃ z, Hid (H.getD 2 0 = z) := ⟨_, rfl⟩
  obtain ⟨y3, Y3⟩ : ∃ z, Hid (H.getD 3 0 = z) := ⟨_, rfl⟩
  obtain ⟨y4, Y4⟩ : ∃ z, Hid (H.getD 4 0 = z) := ⟨_, rfl⟩
  obtain ⟨y5, Y5⟩ : ∃ z, Hid (H.getD 5 0 = z) := ⟨_, rfl⟩
  obtain ⟨y6, Y6⟩ : ∃ z, Hid (H.getD 6 0 = z) := ⟨_, rfl⟩
  obtain ⟨y7, Y7⟩ : ∃ z, Hid (H.getD 7 0 = z) := ⟨_, rfl⟩
  have c0 := u32_cell x0 S 0 H _ _ gH (by omega)
  rw [Y0.out] at c0
  have c1 := u32_cell x0 S 1 H _ _ gH (by omega)
  rw [Y1.out] at c1
  have c2 := u32_cell x0 S 2 H _ _ gH (by omega)
  rw [Y2.out] at c2
  have c3 := u32_cell x0 S 3 H _ _ gH (by omega)
  rw [Y3.out] at c3
  have c4 := u32_cell x0 S 4 H _ _ gH (by omega)
  rw [Y4.out] at c4
  have c5 := u32_cell x0 S 5 H _ _ gH (by omega)
  rw [Y5.out] at c5
  have c6 := u32_cell x0 S 6 H _ _ gH (by omega)
  rw [Y6.out] at c6
  have c7 := u32_cell x0 S 7 H _ _ gH (by omega)
  rw [Y7.out] at c7
  have HY : Hid ((⟨y0, y1, y2, y3, y4, y5, y6, y7⟩ : St) = rnd W (St.of H) 0) := by rw [← Y0.out, ← Y1.out, ← Y2.out, ← Y3.out, ← Y4.out, ← Y5.out, ← Y6.out, ← Y7.out]; rfl
  go_quiet (fail)
  have gH1 : (x0.drewN nq).heap[S]? = _ := gH
  have gW1 : (x0.drewN nq).heap[S + 1]? = _ := gW
  have gR1 : (x0.drewN nq).heap[S + 2]? = _ := gR
  have gB1 : Below S w (x0.drewN nq) := ⟨gB.os, gB.tape, gB.output, gB.size, gB.block⟩
  clear gH gW gR gB c0 c1 c2 c3 c4 c5 c6 c7
  generalize x0.drewN nq = x1 at gH1 gW1 gR1 gB1 ⊢
  clear nq x0
  have c4 := u32_cell x1 S 4 H _ _ gH1 (by omega)
  rw [Y4.out] at c4
  have c5 := u32_cell x1 S 5 H _ _ gH1 (by omega)
  rw [Y5.out] at c5
  have c6 := u32_cell x1 S 6 H _ _ gH1 (by omega)
  rw [Y6.out] at c6
  have c7 := u32_cell x1 S 7 H _ _ gH1 (by omega)
  rw [Y7.out] at c7
  go_wp2
  go_quiet (fail)
  have HG : Hid ((x1.drewN nq).heap[S]? = _ ∧ (x1.drewN nq).heap[S + 1]? = _ ∧ (x1.drewN nq).heap[S + 2]? = _ ∧ Below S w (x1.drewN nq)) := ⟨gH1, gW1, gR1, gB1.os, gB1.tape, gB1.output, gB1.size, gB1.block⟩
  clear gH1 gW1 gR1 gB1 c4 c5 c6 c7
  generalize x1.drewN nq = x2 at HG ⊢
  clear nq x1
  go_wp2
  go_loopw [5, 6, 7, 8, 9, 10, 11, 12, 34] (fun va vb vc vd ve vf vg vh i wr => ∃ (k : Nat) (a b c d e f g h : Int), Hid (k ≤ 64 ∧ (⟨a, b, c, d, e, f, g, h⟩ : St) = rnd W (St.of H) k) ∧ i = .int .i64 k ∧ va = .int .u32 a ∧ vb = .int .u32 b ∧ vc = .int .u32 c ∧ vd = .int .u32 d ∧ ve = .int .u32 e ∧ vf = .int .u32 f ∧ vg = .int .u32 g ∧ vh = .int .u32 h ∧ wr.heap[S]? = some (.cells (u32s H) 140 (0, 0)) ∧ wr.heap[S + 1]? = some (.cells (u32s W) 166 (0, 0)) ∧ wr.heap[S + 2]? = some (.cells (fil [] 8) 140 (0, 0)) ∧ Below S w wr) (fun _ _ _ _ _ _ _ _ i _ => 64 - (intOf i).toNat)
  case atStart => exact ⟨0, _, _, _, _, _, _, _, _, ⟨by omega, HY.out⟩, rfl, rfl, rfl, rfl, rfl, rfl, rfl, rfl, rfl, HG.out⟩
  case round =>
    clear HG HY Y0 Y1 Y2 Y3 Y4 Y5 Y6 Y7
    obtain ⟨k, a, b, c, d, e, f, g, h, HK, rfl, rfl, rfl, rfl, rfl, rfl, rfl, rfl, rfl, gH, gW, gR, gB⟩ := hrel
    have hok : (⟨a, b, c, d, e, f, g, h⟩ : St).OK := by rw [HK.out.2]; exact rnd_ok W _ (St.of_ok hHw) k
    by_cases hlt : k < 64
    · obtain ⟨ba, bb, bc, bd, be, bf, bg, bh⟩ := hok
      have cW := u32_cell wr (S + 1) k W _ _ gW (by omega)
      have cK := (HT.out wr gB).2.2 k hlt
      have bW := hWw k
      have bK := wrd_kk k
      obtain ⟨wk, HWk⟩ : ∃ z, Hid (W.getD k 0 = z) := ⟨_, rfl⟩
      obtain ⟨kc, HKc⟩ : ∃ z, Hid (kk.getD k 0 = z) := ⟨_, rfl⟩
      rw [HWk.out] at cW bW
      rw [HKc.out] at cK bK
      have HN : Hid (stepSt ⟨a, b, c, d, e, f, g, h⟩ kc wk = rnd W (St.of H) (k + 1)) := by rw [rnd, ← HK.out.2, HWk.out, HKc.out]; rfl
      change W32 a at ba
      change W32 b at bb
      change W32 c at bc
      change W32 d at bd
      change W32 e at be
      change W32 f at bf
      change W32 g at bg
      change W32 h at bh
      go_wp2
      go_quiet ((go_at_call 87; exact Calls.quiet_of_same (right_k _ _ _ (by assumption) (by decide) (by decide))))
      have R2 : (wr.drewN nq).heap[S]? = _ := gH
      have W2 : (wr.drewN nq).heap[S + 1]? = _ := gW
      have Z2 : (wr.drewN nq).heap[S + 2]? = _ := gR
      have B2 : Below S w (wr.drewN nq) := ⟨gB.os, gB.tape, gB.output, gB.size, gB.block⟩
      clear gH gW gR gB cW cK
      generalize wr.drewN nq = x2 at R2 W2 Z2 B2 ⊢
      clear nq wr
      go_wp2_with (go_at_call 87; refine (right_k _ _ _ (by assumption) (by decide) (by decide)).mono ?_; rintro e w' ⟨rfl, rfl⟩)
      go_roundw
      case rel =>
        exact ⟨k + 1, (stepSt ⟨a, b, c, d, e, f, g, h⟩ kc wk).a, _, _, _, (stepSt ⟨a, b, c, d, e, f, g, h⟩ kc wk).e, _, _, _, ⟨by omega, HN.out⟩, by go_num, rfl, rfl, rfl, rfl, rfl, rfl, rfl, rfl, R2, W2, Z2, B2⟩
      case measure => simp [intOf]; omega
    · obtain ⟨hk, hs⟩ := HK.out
      obtain rfl : k = 64 := by omega
      obtain ⟨X, HX⟩ : ∃ X, Hid ([a, b, c, d, e, f, g, h] = X) := ⟨_, rfl⟩
      have hXl : X.length = 8 := by rw [← HX.out]; rfl
      have HXa : Hid (#[Value.int .u32 a, .int .u32 b, .int .u32 c, .int .u32 d, .int .u32 e, .int .u32 f, .int .u32 g, .int .u32 h] = u32s X) := by rw [← HX.out]; rfl
      have HM : Hid (mz H X 8 = mix H W) := by rw [← HX.out]; unfold mix; rw [← hs]; rfl
      have HXb : Hid (W32 a ∧ W32 b) := ⟨hok.1, hok.2.1⟩
      clear hok hs hk HK hlt
      go_wp2
      rw [HXa.out]
      go_loopw [106] (fun i wr => ∃ k : Nat, k ≤ 8 ∧ i = .int .i64 k ∧ wr.heap[S]? = some (.cells (u32s (mz H X k)) 140 (0, 0)) ∧ wr.heap[S + 2]? = some (.cells (fil [] 8) 140 (0, 0)) ∧ Below S w wr) (fun i _ => 8 - (intOf i).toNat)
      case atStart => exact ⟨0, by omega, rfl, gH, gR, gB⟩
      case round =>
        clear gH gW gR gB HXa HX
        obtain ⟨k, hk, rfl, gH, gR, gB⟩ := hrel
        by_cases hlt : k < 8
        · have hidx := fun wx => index43 X hXl k hlt wx
          have hc := u32_cell wr S k (mz H X k) _ _ gH (by rw [length_mz]; omega)
          rw [mz_far H X k k (Nat.le_refl _)] at hc
          have hf : wr.frozen? ⟨S, k, none⟩ = false := frozen_of_row wr _ _ _ 140 gH
          have hb := hHw k
          have HST : Hid ((wr.setCell ⟨S, k, none⟩ (.int .u32 ((H.getD k 0 + X.getD k 0) % 4294967296))).heap[S]? = some (.cells (u32s (mz H X (k + 1))) 140 (0, 0)) ∧ Below S w (wr.setCell ⟨S, k, none⟩ (.int .u32 ((H.getD k 0 + X.getD k 0) % 4294967296))) ∧ (wr.setCell ⟨S, k, none⟩ (.int .u32 ((H.getD k 0 + X.getD k 0) % 4294967296))).heap[S + 2]? = wr.heap[S + 2]?) := by
            refine ⟨?_, ⟨gB.os, gB.tape, gB.output, by simpa using gB.size, fun q hq => ?_⟩, heap_setCell_other wr ⟨S, k, none⟩ _ _ (fun e => by simp at e)⟩
            · rw [heap_setCell_same wr S k _ 140 _ gH, u32s_set, mz]
            · rw [heap_setCell_other wr ⟨S, k, none⟩ q _ (fun e => by simp at e; omega)]
              exact gB.block q hq
          generalize H.getD k 0 = z1 at hc hb HST
          generalize X.getD k 0 = z2 at hidx HST
          go_wp2
          go_roundw
          case rel =>
            obtain ⟨s1, s2, s3⟩ := HST.out
            exact ⟨k + 1, by omega, by go_num, s1, s3.trans gR, s2⟩
          case measure => simp [intOf]; omega
        · obtain rfl : k = 8 := by omega
          rw [HM.out] at gH
          have hsz : (u32s (mix H W)).size = 8 := by rw [size_u32s, length_mix]; exact hH
          have hall := all_u32s (mix H W)
          obtain ⟨Y, HY⟩ : ∃ Y, Hid (mix H W = Y) := ⟨_, rfl⟩
          rw [HY.out] at gH hsz hall
          have HF : Hid _ := And.intro hsz (And.intro hall (And.intro gH (And.intro gR gB)))
          clear hsz hall gH gR gB
          go_wp2_with (first | (refine wpList_load_row rfl 140 _ rfl S rfl 140 (u32s Y) (0, 0) _ HF.out.2.2.1 Tryd.underlying140 rfl (by rw [HF.out.1]; kernel_rfl) ?_) | (refine wpList_store_row rfl 140 _ _ rfl (S + 2) (u32s Y) rfl rfl 140 (fil [] 8) HF.out.2.2.2.1 (by rw [HF.out.1]; kernel_rfl) (by rw [HF.out.1]; rfl) HF.out.2.1 ?_))
          (try simp only [Exit.inBlock, Exit.then])
          refine bodyPost_ret (results_cell_row (p := 4) (ty := 140) rfl _ _ (S + 2) 140 (u32s Y) (0, 0) _ rfl (setRow_heap _ _ _ _ _ _ HF.out.2.2.2.1) Tryd.underlying140 rfl (by rw [HF.out.1]; kernel_rfl)) rfl ?_
          exact ⟨by rw [HY.out], by rw [HS.out]; exact below_setRow HF.out.2.2.2.2 (by omega) _⟩
end Go.Proofs.YtipdaaajnbjnjaaDoor.Dig
