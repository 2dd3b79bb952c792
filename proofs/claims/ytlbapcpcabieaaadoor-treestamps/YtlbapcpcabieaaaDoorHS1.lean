/-
  What the Go function schedule of package digest answers, for every part of 64 bytes.
-/
import Derived.Test.YtlbapcpcabieaaaDoorHR1
import Derived.Test.YtlbapcpcabieaaaDoorHP2
import Derived.BigRegion
import Derived.Deep.QuietTactic
import Derived.BigQuiet
namespace Go.Proofs.YtlbapcpcabieaaaDoor.Dig
set_option linter.unusedVariables false
open Go.RowKit Go.Proofs.YtlbapcpcabieaaaDoor.Dig.Plain

set_option maxHeartbeats 2000000 in
theorem schedule_any (B : List Int) (w : World) (hB : B.length = 64) (hb : Byt B) :
    Calls Tryd.prog 37 #[.agg (u8s B)] w fun e w' => e = .returned (.agg (u32s (sched B 0))) ∧ Below w.heap.size w w' := by
  obtain ⟨S, hS⟩ : ∃ S, w.heap.size = S := ⟨_, rfl⟩
  have HS : Hid (w.heap.size = S) := hS
  have z64 : (fil [] 64) = #[.int .u32 0, .int .u32 0, .int .u32 0, .int .u32 0, .int .u32 0, .int .u32 0, .int .u32 0, .int .u32 0, .int .u32 0, .int .u32 0, .int .u32 0, .int .u32 0, .int .u32 0, .int .u32 0, .int .u32 0, .int .u32 0, .int .u32 0, .int .u32 0, .int .u32 0, .int .u32 0, .int .u32 0, .int .u32 0, .int .u32 0, .int .u32 0, .int .u32 0, .int .u32 0, .int .u32 0, .int .u32 0, .int .u32 0, .int .u32 0, .int .u32 0, .int .u32 0, .int .u32 0, .int .u32 0, .int .u32 0, .int .u32 0, .int .u32 0, .int .u32 0, .int .u32 0, .int .u32 0, .int .u32 0, .int .u32 0, .int .u32 0, .int .u32 0, .int .u32 0, .int .u32 0, .int .u32 0, .int .u32 0, .int .u32 0, .int .u32 0, .int .u32 0, .int .u32 0, .int .u32 0, .int .u32 0, .int .u32 0, .int .u32 0, .int .u32 0, .int .u32 0, .int .u32 0, .int .u32 0, .int .u32 0, .int .u32 0, .int .u32 0, .int .u32 0] := rfl
  have HZ : Hid _ := z64
  clear z64 hS
  go_enter Tryd.func37, Tryd.ntmps37
  go_wp2
  rw [HS.out]
  go_loopw [4, 8] (fun _ i wr => ∃ k : Nat, k ≤ 16 ∧ i = .int .i64 k ∧ wr.heap[S]? = some (.cells (u8s B) 66 (0, 0)) ∧ wr.heap[S + 1]? = some (.cells (fil [] 64) 72 (0, 0)) ∧ wr.heap[S + 2]? = some (.cells (fil (wl0 B 0 k) 64) 72 (0, 0)) ∧ Below S w wr) (fun _ i _ => 16 - (intOf i).toNat)
  case atStart =>
    refine ⟨0, by omega, rfl, ?_, ?_, ?_, ?_⟩
    · exact al_old (al_old (al_at HS.out))
    · rw [HZ.out]; exact al_old (al_at (by simp [HS.out]))
    · rw [wl0, HZ.out]; exact al_at (by simp [HS.out])
    · rw [← HS.out]; exact (((Below.refl _ _).alloc (Nat.le_refl _) _).alloc (by simp) _).alloc (by simp; omega) _
  case round =>
    obtain ⟨k, hk, rfl, hgB, hgR, hgW, hbel⟩ := hrel
    by_cases hlt : k < 16
    · have c1 := row_cell wr S (4 * k) B _ _ hgB (by omega)
      have c2 := row_cell wr S (4 * k + 1) B _ _ hgB (by omega)
      have c3 := row_cell wr S (4 * k + 2) B _ _ hgB (by omega)
      have c4 := row_cell wr S (4 * k + 3) B _ _ hgB (by omega)
      have b1 := hb (4 * k)
      have b2 := hb (4 * k + 1)
      have b3 := hb (4 * k + 2)
      have b4 := hb (4 * k + 3)
      have HW : Hid (word B 0 k = B.getD (4 * k) 0 * 16777216 + B.getD (4 * k + 1) 0 * 65536 + B.getD (4 * k + 2) 0 * 256 + B.getD (4 * k + 3) 0) := by
        unfold word; rw [Nat.zero_add]; rfl
      generalize B.getD (4 * k) 0 = z1 at c1 b1 HW
      generalize B.getD (4 * k + 1) 0 = z2 at c2 b2 HW
      generalize B.getD (4 * k + 2) 0 = z3 at c3 b3 HW
      generalize B.getD (4 * k + 3) 0 = z4 at c4 b4 HW
      have HO : Hid (bits .or .u32 (bits .or .u32 (bits .or .u32 (z1 * 16777216) (z2 * 65536)) (z3 * 256)) z4 = word B 0 k) := by rw [HW.out]; exact or4 z1 z2 z3 z4 b1 b2 b3 b4
      have hf : wr.frozen? ⟨S + 2, k, none⟩ = false := frozen_of_row wr _ _ _ 72 hgW
      obtain ⟨v, hcw⟩ : ∃ v, wr.cell? ⟨S + 2, k, none⟩ = some v := by
        obtain ⟨v, hv⟩ := fil_some (wl0 B 0 k) 64 k (by omega) (by rw [length_wl0]; omega)
        exact ⟨v, by rw [cell_of_row _ _ _ _ _ _ hgW]; exact hv⟩
      have hst := fil_step w wr (S + 2) 64 S (wl0 B 0 k) (word B 0 k) (by rw [length_wl0]; omega) (by omega) hgW hbel
      rw [length_wl0] at hst
      have HST : Hid _ := hst
      clear hst
      go_wp2
      go_region
      go_wp2
      go_roundw
      case rel =>
        rw [HO.out]
        obtain ⟨s1, s2, s3⟩ := HST.out
        refine ⟨k + 1, by omega, by go_num, ?_, ?_, ?_, ?_⟩
        · exact (s3 S (by omega)).trans hgB
        · exact (s3 (S + 1) (by omega)).trans hgR
        · exact s1
        · exact s2.drew
      case measure => simp [intOf]; omega
    · obtain rfl : k = 16 := by omega
      go_wp2
      go_loopw [5] (fun i wr => ∃ t j : Nat, Hid (t = 16 + j ∧ j ≤ 48) ∧ i = .int .i64 t ∧ wr.heap[S + 1]? = some (.cells (fil [] 64) 72 (0, 0)) ∧ wr.heap[S + 2]? = some (.cells (fil (wlx B 0 j) 64) 72 (0, 0)) ∧ Below S w wr) (fun i _ => 64 - (intOf i).toNat)
      case atStart => exact ⟨16, 0, ⟨rfl, by omega⟩, rfl, hgR, hgW, hbel⟩
      case round =>
        clear hgB hgR hgW hbel
        obtain ⟨t, j, HT, rfl, hgR, hgW, hbel⟩ := hrel
        by_cases hlt : t < 64
        · obtain ⟨ht, hj⟩ := HT.out
          have hln := length_wlx B 0 j
          have hwd := wrd_wlx B 0 j hb
          obtain ⟨z1, Z1⟩ : ∃ z, Hid ((wlx B 0 j).getD j 0 = z) := ⟨_, rfl⟩
          obtain ⟨z2, Z2⟩ : ∃ z, Hid ((wlx B 0 j).getD (j + 1) 0 = z) := ⟨_, rfl⟩
          obtain ⟨z3, Z3⟩ : ∃ z, Hid ((wlx B 0 j).getD (j + 9) 0 = z) := ⟨_, rfl⟩
          obtain ⟨z4, Z4⟩ : ∃ z, Hid ((wlx B 0 j).getD (j + 14) 0 = z) := ⟨_, rfl⟩
          have b1 : W32 z1 := by rw [← Z1.out]; exact hwd j
          have b2 : W32 z2 := by rw [← Z2.out]; exact hwd (j + 1)
          have b3 : W32 z3 := by rw [← Z3.out]; exact hwd (j + 9)
          have b4 : W32 z4 := by rw [← Z4.out]; exact hwd (j + 14)
          have C1 : Hid (∀ x : World, x.heap[S + 2]? = some (.cells (fil (wlx B 0 j) 64) 72 (0, 0)) → x.cell? ⟨S + 2, j, none⟩ = some (.int .u32 z1)) := fun x hx => by rw [← Z1.out]; exact fil_cell x _ _ 64 _ _ _ hx (by omega)
          have C2 : Hid (∀ x : World, x.heap[S + 2]? = some (.cells (fil (wlx B 0 j) 64) 72 (0, 0)) → x.cell? ⟨S + 2, j + 1, none⟩ = some (.int .u32 z2)) := fun x hx => by rw [← Z2.out]; exact fil_cell x _ _ 64 _ _ _ hx (by omega)
          have C3 : Hid (∀ x : World, x.heap[S + 2]? = some (.cells (fil (wlx B 0 j) 64) 72 (0, 0)) → x.cell? ⟨S + 2, j + 9, none⟩ = some (.int .u32 z3)) := fun x hx => by rw [← Z3.out]; exact fil_cell x _ _ 64 _ _ _ hx (by omega)
          have C4 : Hid (∀ x : World, x.heap[S + 2]? = some (.cells (fil (wlx B 0 j) 64) 72 (0, 0)) → x.cell? ⟨S + 2, j + 14, none⟩ = some (.int .u32 z4)) := fun x hx => by rw [← Z4.out]; exact fil_cell x _ _ 64 _ _ _ hx (by omega)
          have HW : Hid (nextW (wlx B 0 j) j = (z1 + sig0 z2 + z3 + sig1 z4) % 4294967296) := by rw [← Z1.out, ← Z2.out, ← Z3.out, ← Z4.out]; rfl
          have e16 : (t : Int) - 16 = (j : Int) := by omega
          have e15 : (t : Int) - 15 = ((j + 1 : Nat) : Int) := by omega
          have e7 : (t : Int) - 7 = ((j + 9 : Nat) : Int) := by omega
          have e2 : (t : Int) - 2 = ((j + 14 : Nat) : Int) := by omega
          have i16 : j < 64 := by omega
          have i15 : j + 1 < 64 := by omega
          have i7 : j + 9 < 64 := by omega
          have i2 : j + 14 < 64 := by omega
          have HV : Hid (∀ x : World, x.heap[S + 2]? = some (.cells (fil (wlx B 0 j) 64) 72 (0, 0)) → ∃ v, x.cell? ⟨S + 2, t, none⟩ = some v) := by
            intro x hx
            obtain ⟨v, hv⟩ := fil_some (wlx B 0 j) 64 t (by omega) (by omega)
            exact ⟨v, by rw [cell_of_row _ _ _ _ _ _ hx]; exact hv⟩
          have HST : Hid (∀ x : World, x.heap[S + 2]? = some (.cells (fil (wlx B 0 j) 64) 72 (0, 0)) → Below S w x → (x.setCell ⟨S + 2, t, none⟩ (.int .u32 (nextW (wlx B 0 j) j))).heap[S + 2]? = some (.cells (fil (wlx B 0 (j + 1)) 64) 72 (0, 0)) ∧ Below S w (x.setCell ⟨S + 2, t, none⟩ (.int .u32 (nextW (wlx B 0 j) j))) ∧ ∀ q, q ≠ S + 2 → (x.setCell ⟨S + 2, t, none⟩ (.int .u32 (nextW (wlx B 0 j) j))).heap[q]? = x.heap[q]?) := by
            intro x hx hbx
            have := fil_step w x (S + 2) 64 S (wlx B 0 j) (nextW (wlx B 0 j) j) (by omega) (by omega) hx hbx
            rwa [hln, ← ht] at this
          generalize j + 1 = m1 at C2 e15 i15
          generalize j + 9 = m9 at C3 e7 i7
          generalize j + 14 = m14 at C4 e2 i2
          obtain ⟨p1, q1⟩ := b1
          obtain ⟨p3, q3⟩ := b3
          clear hwd hln hj ht Z1 Z2 Z3 Z4
          have c2 := C2.out wr hgW
          go_wp2
          go_quiet ((go_at_call 38; exact Calls.quiet_of_same (right_k _ _ _ (by assumption) (by decide) (by decide))))
          have R2 : (wr.drewN nq).heap[S + 1]? = _ := hgR
          have W2 : (wr.drewN nq).heap[S + 2]? = _ := hgW
          have B2 : Below S w (wr.drewN nq) := ⟨hbel.os, hbel.tape, hbel.output, hbel.size, hbel.block⟩
          clear hgR hgW hbel c2 C2
          generalize wr.drewN nq = x2 at R2 W2 B2 ⊢
          have c4 := C4.out x2 W2
          clear nq wr
          go_wp2
          go_quiet ((go_at_call 38; exact Calls.quiet_of_same (right_k _ _ _ (by assumption) (by decide) (by decide))))
          have R3 : (x2.drewN nq).heap[S + 1]? = _ := R2
          have W3 : (x2.drewN nq).heap[S + 2]? = _ := W2
          have B3 : Below S w (x2.drewN nq) := ⟨B2.os, B2.tape, B2.output, B2.size, B2.block⟩
          clear R2 W2 B2 c4 C4
          generalize x2.drewN nq = x3 at R3 W3 B3 ⊢
          have c1 := C1.out x3 W3
          have c3 := C3.out x3 W3
          clear nq x2
          have hf : x3.frozen? ⟨S + 2, t, none⟩ = false := frozen_of_row x3 _ _ _ 72 W3
          obtain ⟨v, hcw⟩ := HV.out x3 W3
          have HS3 : Hid _ := HST.out x3 W3 B3
          go_wp2
          go_region
          go_wp2
          go_roundw
          case rel =>
            obtain ⟨s1, s2, s3⟩ := HS3.out
            have HE : (z1 + bits BinOp.xor IntKind.u32 (bits BinOp.xor IntKind.u32 (rotr z2 7) (rotr z2 18)) (z2 / 8) + z3 + bits BinOp.xor IntKind.u32 (bits BinOp.xor IntKind.u32 (rotr z4 17) (rotr z4 19)) (z4 / 1024)) % 4294967296 = nextW (wlx B 0 j) j := HW.out.symm
            rw [HE]
            obtain ⟨ht, hj⟩ := HT.out
            refine ⟨t + 1, j + 1, ⟨by omega, by omega⟩, by go_num, ?_, ?_, ?_⟩
            · exact (s3 (S + 1) (by omega)).trans R3
            · exact s1
            · exact s2.drew
          case measure => simp [intOf]; omega
        · obtain ⟨ht, hj⟩ := HT.out
          obtain rfl : t = 64 := by omega
          obtain rfl : j = 48 := by omega
          have hln := length_sched B 0
          have hgW' : wr.heap[S + 2]? = some (.cells (u32s (sched B 0)) 72 (0, 0)) := by rw [← fil_full (sched B 0) 64 hln]; exact hgW
          have hsz : (u32s (sched B 0)).size = 64 := by simp [u32s, hln]
          have hall : (u32s (sched B 0)).all (·.oneCell') = true := by simp [u32s, Value.oneCell']
          clear hgW ht hj HT hln
          obtain ⟨X, HX⟩ : ∃ X, Hid (sched B 0 = X) := ⟨_, rfl⟩
          rw [HX.out] at hgW' hsz hall
          have HF : Hid _ := And.intro hsz (And.intro hall (And.intro hgW' (And.intro hgR hbel)))
          clear hsz hall hgW' hgR hbel
          go_wp2_with (first | (refine wpList_load_row rfl 72 _ rfl (S + 2) rfl 72 (u32s X) (0, 0) _ HF.out.2.2.1 Tryd.underlying72 rfl (by rw [HF.out.1]; kernel_rfl) ?_) | (refine wpList_store_row rfl 72 _ _ rfl (S + 1) (u32s X) rfl rfl 72 (fil [] 64) HF.out.2.2.2.1 (by rw [HF.out.1]; kernel_rfl) (by rw [HF.out.1]; rfl) HF.out.2.1 ?_))
          (try simp only [Exit.inBlock, Exit.then])
          refine bodyPost_ret (results_cell_row (p := 2) (ty := 72) rfl _ _ (S + 1) 72 (u32s X) (0, 0) _ rfl (setRow_heap _ _ _ _ _ _ HF.out.2.2.2.1) Tryd.underlying72 rfl (by rw [HF.out.1]; kernel_rfl)) rfl ?_
          exact ⟨by rw [HX.out], by rw [HS.out]; exact below_setRow HF.out.2.2.2.2 (by omega) _⟩
end Go.Proofs.YtlbapcpcabieaaaDoor.Dig
