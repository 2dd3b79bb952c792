/-
  The walks of InodeRoads and InodeApart.
-/
import Derived.Test.YtpdggopkalbbeaaNE
namespace Go.Proofs.Ytpdggopkalbbeaa
set_option linter.unusedVariables false
open Go.RowKit Plain

theorem Way.drewN {w : World} {a : Option Addr} {L : List Int} (h : Way w a L) (n : Nat) : Way (w.drewN n) a L := h.on (below_drewN (Below.refl _ _) n)
set_option maxHeartbeats 2000000 in
theorem inodeRoads_walk (i : Int) (w : World) (h1 : (Lit.int .i64 i).wf = true) : Calls Try.prog 4 #[.int .i64 i] w fun e w' => e = .returned (.bool true) ∧ Below w.heap.size w w' := by
  have h9 : -9223372036854775808 ≤ i ∧ i ≤ 9223372036854775807 := bounds_i64 h1
  have HA : Box _ := ⟨fun z : World => road_any i z h9⟩
  have HR : Box _ := ⟨fun z : World => rroad_any i z h9⟩
  have HL : Box ((rl i).length ≤ 2) := ⟨by unfold rl; split <;> (try split) <;> simp⟩
  generalize rk i = k at HA HR
  generalize re i = x at HA HR
  generalize rl i = L at HA HR HL
  obtain ⟨n, hn⟩ : ∃ n, Box (L.length = n) := ⟨_, ⟨rfl⟩⟩
  have hn2 : n ≤ 2 := by rw [← hn.out]; exact HL.out
  rw [hn.out] at HA HR
  clear h1 HL
  go_enter Try.func4, Try.ntmps4
  go_upto_region 4 with (go_at_call 8; refine Calls.mono (awake_any w) ?_; rintro e w1 ⟨rfl, hb⟩; have H1 : Box (Below w.heap.size w w1) := ⟨hb⟩; clear hb)
  go_upto_region 5 with (go_at_call 14; refine Calls.mono (HA.out w1) ?_; rintro e w2 ⟨a2, rfl, hW, hb⟩; have H2 : Box (Way w2 a2 L ∧ Below w.heap.size w w2) := ⟨hW, below_to H1.out hb⟩; clear hW hb H1)
  go_upto_region 6 with (go_at_call 15; refine Calls.mono (HR.out w2) ?_; rintro e w3 ⟨a3, rfl, hW, hb⟩; have H3 : Box (Way w3 a2 L ∧ Way w3 a3 L ∧ Below w.heap.size w w3) := ⟨H2.out.1.on hb, hW, below_to H2.out.2 hb⟩; clear hW hb H2)
  clear HA HR
  go_wp2
  go_loopw [10] (fun v wr => ∃ j : Nat, j ≤ n ∧ v = .int .i64 (j : Int) ∧ Box (Way wr a2 L ∧ Way wr a3 L ∧ Below w.heap.size w wr)) (fun v _ => 5 - (intOf v).toNat)
  case atStart => exact ⟨0, by omega, rfl, H3⟩
  case round =>
    obtain ⟨j, hj, rfl, HP⟩ := hrel
    clear H3
    by_cases hlt : j < n
    · have g5 : (j : Int) < (n : Int) := by omega
      obtain ⟨b2, rfl, _, hc2⟩ := HP.out.1 (by rw [hn.out]; omega)
      obtain ⟨b3, rfl, _, hc3⟩ := HP.out.2.1 (by rw [hn.out]; omega)
      have d2 := hc2 j (by rw [hn.out]; exact hlt)
      have d3 := hc3 j (by rw [hn.out]; exact hlt)
      clear hc2 hc3
      generalize L.getD j 0 = y at d2 d3
      go_upto_region 11 with fail
      go_quiet (fail)
      have HQ : Box (Way (wr.drewN nq) (some ⟨b2, 0, none⟩) L ∧ Way (wr.drewN nq) (some ⟨b3, 0, none⟩) L ∧ Below w.heap.size w (wr.drewN nq)) := ⟨HP.out.1.drewN _, HP.out.2.1.drewN _, below_drewN HP.out.2.2 _⟩
      go_wp2
      go_roundw
      case rel => exact ⟨j + 1, by omega, by go_num, HQ⟩
      case measure => simp [intOf]; omega
    · have g5 : ¬ (j : Int) < (n : Int) := by omega
      go_wp2
      go_ret
      exact ⟨rfl, HP.out.2.2⟩
end Go.Proofs.Ytpdggopkalbbeaa
