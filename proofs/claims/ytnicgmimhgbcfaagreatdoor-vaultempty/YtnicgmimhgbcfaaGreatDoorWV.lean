/-
  Awake of the laws of layer 11: a vault that reads noughts, and what is put.
-/
import Derived.Test.YtnicgmimhgbcfaaGreatDoorWX
namespace Go.Proofs.YtnicgmimhgbcfaaGreatDoor
set_option linter.unusedVariables false
set_option maxRecDepth 100000
open Go.RowKit Go.Shelf Plain Go.Proofs.YtnicgmimhgbcfaaGreatDoor.Shap.Plain
attribute [local go_sem] Oper.semAt_some

def k1 : List Int := 1 :: List.replicate 31 0
theorem len_k1 : k1.length = 32 := by simp [k1]
theorem byt_k1 : Byt k1 := fun i => by
  cases i with
  | zero => decide
  | succ i => simpa [k1] using byt_zeros 31 i
theorem built_K : Tryz.prog.built 23 [(0, .int .u8 1)] = some (u8s k1) := by kernel_rfl
theorem built_I4 (a : Option Addr) (l c : Nat) : Tryz.prog.built 65 [(0, .int .u64 4), (1, .slice a l c)] = some #[.int .u64 4, .slice a l c] := by kernel_rfl
theorem len_y160 : y160.length = 160 := by simp [y160]
theorem Good.okr {K : List Int} {n : Nat} {d : Disk.Dk} {f : Nat → List Int} {top : Rf} (h : Good K n d f top) : OkR top := by
  obtain ⟨Kk, h1, h2⟩ := h.is
  rw [← h2]
  exact h1.okr _ _
theorem aw_new : newF (fun _ => y160) (lastB [((4 : Int), b79)]) 4 = b79 := rfl
def v1 : Vt := ⟨k1, 5, zr, 1, 1000⟩
def v2 (R : Rf) : Vt := ⟨k1, 5, R, 4, mn63 1000⟩
theorem aw_update {w x5 : World} {V D : Nat} {fp3 : Nat → Prop} {sa : Option Addr} {sc g4 : Nat} {d3 d6 : Disk.Dk} {R : Rf} (h1 : x5.heap[g4]? = some (.cells (u8s b79) 5 (0, 0))) (h3 : VC w x5 V D fp3 v1 d3 sa sc) (h4 : ¬ fp3 g4) (h5 : g4 ≠ V)
    (hl : 0 ≤ d3.left ∧ d3.left ≤ 9223372036854775807) (ho : d3.ops.length < 100) (hu : d3.uw.length < 100) (hup : updM (Yk k1) Xd 5 (topL 5) 1000 [((4 : Int), b79)] d3 1 zr = (d6, 4, 0, R)) :
    Calls Tryz.prog 19 #[.pointer (some ⟨V, 0, none⟩), .slice (some ⟨x5.heap.size, 0, none⟩) 1 1] (x5.alloc (.cells #[.int .u64 4, .slice (some ⟨g4, 0, none⟩) 160 160] 65)) fun e w' => ∃ fp', e = .returned (.tuple #[.agg (ra R), .int .i64 0]) ∧ VC w w' V D fp' ⟨k1, 5, zr, 4, 1000⟩ d6 sa sc ∧ Fw (fun k => k = V) x5 w' fp3 fp' := by
  obtain ⟨y, hy⟩ : ∃ y, x5.alloc (.cells #[.int .u64 4, .slice (some ⟨g4, 0, none⟩) 160 160] 65) = y := ⟨_, rfl⟩
  have hb : Below x5.heap.size x5 y := by rw [← hy]; exact (Below.refl _ _).alloc (Nat.le_refl _) _
  have hrow : y.heap[x5.heap.size]? = some (.cells #[.int .u64 4, .slice (some ⟨g4, 0, none⟩) 160 160] 65 (0, 0)) := by rw [← hy]; exact al_at rfl
  rw [hy]
  have hg5 : y.heap[g4]? = some (.cells (u8s b79) 5 (0, 0)) := (hb.block g4 (Array.getElem?_eq_some_iff.1 h1).1).trans h1
  obtain ⟨B, hB, hBl, hBy⟩ : ∃ B, b79 = B ∧ B.length = 160 ∧ Byt B := ⟨_, rfl, len_b79, byt_b79⟩
  rw [hB] at hup hg5
  have hM : Imgs y (some ⟨x5.heap.size, 0, none⟩) [⟨4, some ⟨g4, 0, none⟩, 160, 160, B⟩] := by
    refine ⟨fun _ => ⟨x5.heap.size, 0, rfl, (Array.getElem?_eq_some_iff.1 hrow).1, fun i hi j q hq => ?_⟩, fun m hm => ?_⟩
    · have e : i = 0 := by simp at hi; exact hi
      subst e
      rw [cell_of_row _ _ _ _ _ _ hrow]
      simpa [imc] using hq
    · simp only [List.mem_singleton] at hm
      subst hm
      exact ⟨by have := bytes_of_row hBy hg5; rw [hBl] at this; exact this, by show (0 : Int) ≤ 4; decide, by show (4 : Int) ≤ _; decide, by show 160 ≤ maxLen; unfold maxLen; omega⟩
  have := update_v (h3.below hb) _ 1 _ hM (by simp) (fun m hm ad e => by simp only [List.mem_singleton] at hm; subst hm; cases e; exact ⟨h4, h5⟩) (by decide) hl (by omega) (by omega)
  have e2 : updM (Yk v1.key) Xd v1.n (topL v1.n) v1.lim (LM [⟨4, some ⟨g4, 0, none⟩, 160, 160, B⟩]) d3 v1.nx v1.top = (d6, 4, 0, R) := hup
  rw [e2] at this
  refine this.mono ?_
  rintro e w' ⟨fp', q1, q2, q3⟩
  exact ⟨fp', q1, q2, (Fw.below _ fp3 hb).trans q3⟩
theorem aw_read1 {w x2 : World} {V D : Nat} {fp2 : Nat → Prop} {sa : Option Addr} {sc : Nat} {d0 d3 : Disk.Dk} (h : VC w x2 V D fp2 v1 d0 sa sc) (ho : d0.ops.length = 0) (hu : d0.uw.length = 0) (hr : readM (Yk k1) Xd 5 4 (topL 5) d0 zr = (d3, 0, y160)) :
    Calls Tryz.prog 26 #[.pointer (some ⟨V, 0, none⟩), .int .u64 4] x2 fun e w' => ∃ fp' a, e = .returned (.tuple #[.slice a 160 160, .int .i64 0]) ∧ VC w w' V D fp' v1 d3 sa sc ∧ Bytes w' a 160 y160 ∧ ∀ ad, a = some ad → ¬ fp' ad.block ∧ ad.block ≠ V := by
  have := read_z h 4 (by decide) (by rw [ho]; omega) (by rw [hu]; omega) rfl
  have e2 : readM (Yk v1.key) Xd v1.n 4 (topL v1.n) d0 v1.top = (d3, 0, y160) := hr
  rw [e2] at this
  refine this.mono ?_
  rintro e w' ⟨fp', a, h1, h2, h3, h4, h5⟩
  simp only [len_y160] at h3 h4
  exact ⟨fp', a, h3, h1, h4, fun ad e => ⟨(h5 ad e).1, by have := (h5 ad e).2; have := h.lt; omega⟩⟩
theorem aw_read2 {w x8 : World} {V D : Nat} {fp6 : Nat → Prop} {sa : Option Addr} {sc : Nat} {d6 d8 : Disk.Dk} {R : Rf} (h : VC w x8 V D fp6 (v2 R) d6 sa sc) (ho : d6.ops.length < 30000) (hu : d6.uw.length < 30000) (hr : readM (Yk k1) Xd 5 4 (topL 5) d6 R = (d8, 0, b79)) :
    Calls Tryz.prog 26 #[.pointer (some ⟨V, 0, none⟩), .int .u64 4] x8 fun e w' => ∃ fp' a, e = .returned (.tuple #[.slice a 160 160, .int .i64 0]) ∧ VC w w' V D fp' (v2 R) d8 sa sc ∧ Bytes w' a 160 b79 ∧ Fw No x8 w' fp6 fp' := by
  have := read_ok h 4 (show 4 < 5 by omega) (by omega) (by omega)
  have e2 : readM (Yk (v2 R).key) Xd (v2 R).n 4 (topL (v2 R).n) d6 (v2 R).top = (d8, 0, b79) := hr
  rw [e2] at this
  refine this.mono ?_
  rintro e w' ⟨fp', a, h1, h2, h3, h4⟩
  simp only [len_b79] at h3 h4
  exact ⟨fp', a, h3, h1, h4, h2⟩
theorem aw_adopt {w x7 : World} {V D : Nat} {fp6 : Nat → Prop} {sa : Option Addr} {sc : Nat} {d6 : Disk.Dk} {R : Rf} (h : VC w x7 V D fp6 ⟨k1, 5, zr, 4, 1000⟩ d6 sa sc) (hR : OkR R) :
    Calls Tryz.prog 21 #[.pointer (some ⟨V, 0, none⟩), .agg (ra R), .int .u64 1000] x7 fun e w' => e = .returned (.tuple #[]) ∧ VC w w' V D fp6 (v2 R) d6 sa sc ∧ Fw (fun k => k = V) x7 w' fp6 fp6 := adopt_v h R hR 1000 ⟨by decide, by decide⟩
theorem aw_places (x : World) : Calls Tryz.prog 29 #[.int .i64 5] x fun e w' => e = .returned (.tuple #[.int .i64 16, .int .i64 0]) ∧ Below x.heap.size x w' := by
  have := places_ok 5 x (by omega) (by omega)
  rw [aw_off] at this
  exact this
end Go.Proofs.YtnicgmimhgbcfaaGreatDoor
