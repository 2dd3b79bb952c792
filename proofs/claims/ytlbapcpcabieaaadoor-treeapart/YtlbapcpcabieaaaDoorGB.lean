/-
  TreeApart, walked: all ways together.
-/
import Derived.Test.YtlbapcpcabieaaaDoorGA
namespace Go.Proofs.YtlbapcpcabieaaaDoor
set_option linter.unusedVariables false
open Go.RowKit Plain

theorem dg_inj (l1 l2 p1 p2 : Int) (L1 L2 : List Int) (k1 : 0 ≤ l1 ∧ l1 ≤ 255) (k2 : 0 ≤ l2 ∧ l2 ≤ 255) (q1 : 0 ≤ p1 ∧ p1 ≤ 4294967295) (q2 : 0 ≤ p2 ∧ p2 ≤ 4294967295) (h : dg l1 p1 L1 = dg l2 p2 L2) : l1 = l2 ∧ p1 = p2 ∧ L1 = L2 := by
  unfold dg at h
  obtain ⟨h1, h2⟩ := List.cons.inj h
  obtain ⟨h3, h4⟩ := List.append_inj h2 (by rw [length_bytesOf, length_bytesOf])
  rw [bytes4, bytes4] at h3
  simp only [List.cons.injEq, and_true] at h3
  obtain ⟨e1, e2, e3, e4⟩ := h3
  exact ⟨by omega, by omega, h4⟩
set_option maxRecDepth 20000 in
set_option maxHeartbeats 1000000 in
theorem apart_long1 (l1 l2 p1 p2 : Int) (a1 a2 : Option Addr) (n1 c1 n2 c2 : Nat) (w : World) (hT : Dig.Tabs w) (m1 : 300 < n1) (hm : n1 ≤ maxLen) :
    Calls Tryd.prog 6 #[.int .u8 l1, .int .u32 p1, .slice a1 n1 c1, .int .u8 l2, .int .u32 p2, .slice a2 n2 c2] w fun e w' => e = .returned (.bool true) ∧ Below w.heap.size w w' := by
  unfold maxLen at hm
  have g1 : 300 < (n1 : Int) := by omega
  go_enter Tryd.func6, Tryd.ntmps6
  go_wp2_with (go_at_call 8; refine Calls.mono (awake_any w hT) ?_; rintro e w1 ⟨rfl, hb⟩; have H1 : Box (Below w.heap.size w w1) := ⟨hb⟩; clear hb)
  go_ret
  exact ⟨rfl, H1.out⟩
set_option maxRecDepth 20000 in
set_option maxHeartbeats 1000000 in
theorem apart_long2 (l1 l2 p1 p2 : Int) (a1 a2 : Option Addr) (n1 c1 n2 c2 : Nat) (w : World) (hT : Dig.Tabs w) (m1 : n1 ≤ 300) (m2 : 300 < n2) (hm : n2 ≤ maxLen) :
    Calls Tryd.prog 6 #[.int .u8 l1, .int .u32 p1, .slice a1 n1 c1, .int .u8 l2, .int .u32 p2, .slice a2 n2 c2] w fun e w' => e = .returned (.bool true) ∧ Below w.heap.size w w' := by
  unfold maxLen at hm
  have g1 : ¬ 300 < (n1 : Int) := by omega
  have g2 : 300 < (n2 : Int) := by omega
  go_enter Tryd.func6, Tryd.ntmps6
  go_wp2_with (go_at_call 8; refine Calls.mono (awake_any w hT) ?_; rintro e w1 ⟨rfl, hb⟩; have H1 : Box (Below w.heap.size w w1) := ⟨hb⟩; clear hb)
  go_ret
  exact ⟨rfl, H1.out⟩
theorem treeApart_walk (l1 p1 : Int) (a1 : Option Addr) (n1 c1 : Nat) (z1 : List Int) (l2 p2 : Int) (a2 : Option Addr) (n2 c2 : Nat) (z2 : List Int) (w : World) (hT : Dig.Tabs w) (w0 : (Lit.int .u8 l1).wf = true) (w1 : (Lit.int .u32 p1).wf = true) (r1 : IsRow .u8 w a1 n1 c1 z1) (w3 : (Lit.int .u8 l2).wf = true) (w4 : (Lit.int .u32 p2).wf = true) (r2 : IsRow .u8 w a2 n2 c2 z2) :
    Calls Tryd.prog 6 #[.int .u8 l1, .int .u32 p1, .slice a1 n1 c1, .int .u8 l2, .int .u32 p2, .slice a2 n2 c2] w fun e w' => e = .returned (.bool true) ∧ Below w.heap.size w w' := by
  have k1 := bounds_u8 w0
  have q1 := bounds_u32 w1
  have k2 := bounds_u8 w3
  have q2 := bounds_u32 w4
  obtain ⟨b1, x1, y1⟩ := r1.pc
  obtain ⟨b2, x2, y2⟩ := r2.pc
  have e1 := r1.len
  have e2 := r2.len
  generalize z1.take n1 = L1 at b1
  generalize z2.take n2 = L2 at b2
  by_cases m1 : n1 ≤ 300
  · by_cases m2 : n2 ≤ 300
    · have HX : Box ((dsha (dg l1 p1 L1)).length = 32 ∧ Byt (dsha (dg l1 p1 L1))) := ⟨length_dsha _, byt_dsha _⟩
      have HA : Box (Calls Tryd.prog 8 #[] w fun e w' => e = .returned (.bool true) ∧ Below w.heap.size w w') := ⟨awake_any w hT⟩
      have C0 : Box (∀ x, Below w.heap.size w x → Calls Tryd.prog 14 #[.int .i64 l1, .int .u32 p1, .slice a1 n1 c1] x fun e w' => e = .returned (.agg (u8s (dsha (dg l1 p1 L1)))) ∧ Below x.heap.size x w') := ⟨fun x hx => digest_any l1 p1 a1 n1 c1 L1 x (hT.below hx) q1 (b1.below hx) (by omega) x1 y1⟩
      have HB : Box (∀ x, Below w.heap.size w x → Bytes x a1 n1 L1 ∧ Bytes x a2 n2 L2) := ⟨fun x hx => ⟨b1.below hx, b2.below hx⟩⟩
      have HY : Box (Byt L1 ∧ Byt L2) := ⟨b1.2.1, b2.2.1⟩
      have C1 : ∀ b : Bool, decide (dsha (dg l1 p1 L1) = dsha (dg l2 p2 L2)) = b → Box (∀ x, Below w.heap.size w x → Calls Tryd.prog 16 #[.agg (ra ⟨dsha (dg l1 p1 L1), 0⟩), .int .i64 l2, .int .u32 p2, .slice a2 n2 c2] x fun e w' => e = .returned (.bool b) ∧ Below x.heap.size x w') := fun b hb => ⟨fun x hx => by
        have := check_any ⟨dsha (dg l1 p1 L1), 0⟩ l2 p2 a2 n2 c2 L2 x ⟨HX.out.1, HX.out.2, ⟨by simp, by simp⟩⟩ (hT.below hx) q2 (b2.below hx) (by omega) x2 y2
        rwa [hb] at this⟩
      have HO : decide (dsha (dg l1 p1 L1) = dsha (dg l2 p2 L2)) = true → ¬ (l1 = l2 ∧ p1 = p2 ∧ L1 = L2) → Box (dsha (dg l1 p1 L1) = dsha (dg l1 p1 L1) ∧ dsha (dg l2 p2 L2) = dsha (dg l1 p1 L1) ∧ (!decide (dg l1 p1 L1 = dg l2 p2 L2)) = true) := fun hb hn => ⟨rfl, (of_decide_eq_true hb).symm, by
        rw [decide_eq_false (fun h => hn (dg_inj l1 l2 p1 p2 L1 L2 k1 k2 q1 q2 h))]; rfl⟩
      by_cases d1 : l1 = l2
      · subst d1
        by_cases d2 : p1 = p2
        · subst d2
          by_cases d3 : L1 = L2
          · subst d3
            exact apart_4y l1 p1 a1 a2 n1 c1 n2 c2 L1 _ w k1 q1 m1 m2 HX HA C0 (C1 true (by simp)) HB HY
          · cases hb : decide (dsha (dg l1 p1 L1) = dsha (dg l1 p1 L2))
            · exact apart_3n l1 p1 a1 a2 n1 c1 n2 c2 L1 L2 _ w (decide_eq_false d3) k1 q1 m1 m2 HX HA C0 (C1 _ hb) HB HY
            · exact apart_3y l1 p1 a1 a2 n1 c1 n2 c2 L1 L2 _ w (decide_eq_false d3) k1 q1 m1 m2 HX HA C0 (C1 _ hb) HB HY (HO hb (fun h => d3 h.2.2))
        · have d2' : (p1 == p2) = false := by simpa using d2
          cases hb : decide (dsha (dg l1 p1 L1) = dsha (dg l1 p2 L2))
          · exact apart_2n l1 p1 p2 a1 a2 n1 c1 n2 c2 L1 L2 _ w d2' k1 q1 q2 m1 m2 HX HA C0 (C1 _ hb) HB HY
          · exact apart_2y l1 p1 p2 a1 a2 n1 c1 n2 c2 L1 L2 _ w d2' k1 q1 q2 m1 m2 HX HA C0 (C1 _ hb) HB HY (HO hb (fun h => d2 h.2.1))
      · have d1' : (l1 == l2) = false := by simpa using d1
        cases hb : decide (dsha (dg l1 p1 L1) = dsha (dg l2 p2 L2))
        · exact apart_1n l1 l2 p1 p2 a1 a2 n1 c1 n2 c2 L1 L2 _ w d1' k1 k2 q1 q2 m1 m2 HX HA C0 (C1 _ hb) HB HY
        · exact apart_1y l1 l2 p1 p2 a1 a2 n1 c1 n2 c2 L1 L2 _ w d1' k1 k2 q1 q2 m1 m2 HX HA C0 (C1 _ hb) HB HY (HO hb (fun h => d1 h.1))
    · exact apart_long2 l1 l2 p1 p2 a1 a2 n1 c1 n2 c2 w hT m1 (by omega) e2
  · exact apart_long1 l1 l2 p1 p2 a1 a2 n1 c1 n2 c2 w hT (by omega) e1
end Go.Proofs.YtlbapcpcabieaaaDoor
