/-
  The document's example of layer 19 (awake), walked.
-/
import Derived.Test.YtpdggopkalbbeaaNB
import Derived.Test.YtpdggopkalbbeaaND
namespace Go.Proofs.Ytpdggopkalbbeaa
set_option linter.unusedVariables false
open Go.RowKit Plain

def nx : Nd := ⟨2, 0, 258, 0, 0, 0, 0, 0⟩
theorem ok_nx : OkN nx := okN_of ⟨by decide, by decide⟩ ⟨by decide, by decide⟩ ⟨by decide, by decide⟩ ⟨by decide, by decide⟩ ⟨by decide, by decide⟩ ⟨by decide, by decide⟩ ⟨by decide, by decide⟩ ⟨by decide, by decide⟩
theorem built_NX : Try.prog.built 26 [(0, .int .u8 2), (2, .int .u32 258)] = some (nc nx) := by kernel_rfl
theorem road84 (w : World) : Calls Try.prog 14 #[.int .i64 84] w fun e w' => ∃ a, e = .returned (.tuple #[.int .i64 4, .slice a 2 2, .int .i64 0]) ∧ Way w' a [0, 1] ∧ Below w.heap.size w w' := road_any 84 w (by omega)
theorem get_nx (a : Option Addr) (cap : Nat) (w : World) (hB : Bytes w a 32 (nb nx)) : Calls Try.prog 10 #[.slice a 32 cap] w fun e w' => e = .returned (.tuple #[.agg (nc nx), .int .i64 0]) ∧ Below w.heap.size w w' := by
  have := nget_any a 32 cap _ w hB
  rwa [getN_nb ok_nx (by decide)] at this
theorem nx4 : (nb nx).getD 4 0 = 2 := by rw [nb_z nx 0 (by omega)]; rfl
theorem nx5 : (nb nx).getD 5 0 = 1 := by rw [nb_z nx 1 (by omega)]; rfl

set_option maxHeartbeats 2000000 in
theorem awake_any (w : World) : Calls Try.prog 8 #[] w fun e w' => e = .returned (.bool true) ∧ Below w.heap.size w w' := by
  go_enter Try.func8, Try.ntmps8
  go_upto_region 2 with (go_at_call 14; refine Calls.mono (road84 w) ?_; rintro e w1 ⟨a1, rfl, hW, hb⟩; obtain ⟨g1, rfl, hlt, hc⟩ := hW (by simp); have H1 : Box (Way w1 (some ⟨g1, 0, none⟩) [0, 1] ∧ Below w.heap.size w w1) := ⟨fun _ => ⟨g1, rfl, hlt, hc⟩, hb⟩; clear hlt hc hW hb)
  go_upto_region 3 with (first
    | (refine wpList_run rfl _ _ (exec_built 26 [(0, .const (.int .u8 2)), (2, .const (.int .u32 258))] rfl [(0, .int .u8 2), (2, .int .u32 258)] rfl _ built_NX) ?_)
    | (go_at_call 9; refine Calls.mono (nput_any nx w1 ok_nx) ?_; rintro e w2 ⟨g2, rfl, hO⟩; have H2 : Box (Way w2 (some ⟨g1, 0, none⟩) [0, 1] ∧ Below w.heap.size w w2 ∧ Bytes w2 (some ⟨g2, 0, none⟩) 32 (nb nx)) := ⟨H1.out.1.on hO.2.2, below_to H1.out.2 hO.2.2, hO.bytes (byt_nb ok_nx)⟩; clear hO H1))
  go_upto_region 4 with (first
    | (refine wpList_newN w3 nx rfl _ _ rfl rfl rfl rfl ?_; intro w4 hz hb; have H4 : Box (Way w4 (some ⟨g1, 0, none⟩) [0, 1] ∧ Below w.heap.size w w4 ∧ Bytes w4 (some ⟨g2, 0, none⟩) 32 (nb nx) ∧ Lies w4 w3.heap.size nx) := ⟨H3.out.1.on hb, below_to H3.out.2.1 hb, H3.out.2.2.below hb, hz⟩; clear hz hb H3)
    | (refine wpList_run rfl _ _ (exec_alloc 26 rfl _ zeroN) ?_)
    | (go_at_call 10; refine Calls.mono (get_nx (some ⟨g2, 0, none⟩) 32 w2 H2.out.2.2) ?_; rintro e w3 ⟨rfl, hb⟩; have H3 : Box (Way w3 (some ⟨g1, 0, none⟩) [0, 1] ∧ Below w.heap.size w w3 ∧ Bytes w3 (some ⟨g2, 0, none⟩) 32 (nb nx)) := ⟨H2.out.1.on hb, below_to H2.out.2.1 hb, H2.out.2.2.below hb⟩; clear hb H2))
  generalize w3.heap.size = T at H4 ⊢
  obtain ⟨g1', e1, _, hc⟩ := H4.out.1 (by simp)
  simp only [Option.some.injEq, Addr.mk.injEq, and_true] at e1
  obtain rfl := e1
  have c0 : w4.cell? ⟨g1, 0, none⟩ = some (.int .i64 0) := hc 0 (by simp)
  have c1 : w4.cell? ⟨g1, 1, none⟩ = some (.int .i64 1) := hc 1 (by simp)
  obtain ⟨g2', o2', e2, _, hd⟩ := H4.out.2.2.1.2.2 (by omega)
  simp only [Option.some.injEq, Addr.mk.injEq, and_true] at e2
  obtain ⟨rfl, rfl⟩ := e2
  have d4 := hd 4 (by omega)
  have d5 := hd 5 (by omega)
  rw [nx4, Nat.zero_add] at d4
  rw [nx5, Nat.zero_add] at d5
  have k0 : w4.cell? ⟨T, 0, none⟩ = some (.int .u8 2) := H4.out.2.2.2.cell 0
  clear hc hd
  go_wp2
  go_ret
  exact ⟨rfl, H4.out.2.1⟩
end Go.Proofs.Ytpdggopkalbbeaa
