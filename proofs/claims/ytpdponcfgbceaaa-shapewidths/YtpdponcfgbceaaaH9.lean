/-
  A shape in its box; the document's examples of layer 9.
-/
import Derived.Test.YtpdponcfgbceaaaH8
import Derived.ProofKit
import Derived.OpenShut
import Derived.ShutString
import Derived.ChangeOld
import Derived.Below
namespace Go.Proofs.Ytpdponcfgbceaaa
set_option linter.unusedVariables false
open Go.RowKit Plain

theorem own : ownKnob Try.prog.godebug = none := by kernel_rfl
theorem below_drew {w x y : World} (h : Below w.heap.size w x) (hm : ∃ m, y = x.drewN m) : Below w.heap.size w y := by
  obtain ⟨m, rfl⟩ := hm
  exact below_drewN h m
/-- A shape in block S: a slice whose numbers are L. -/
def Holds (w : World) (S : Nat) (a : Option Addr) (n cap : Nat) (L : List Int) : Prop := w.heap[S]? = some (.cells #[.slice a n cap] 25 (0, 0)) ∧ Ints w a n L
theorem Holds.below {w w' : World} {S : Nat} {a : Option Addr} {n cap : Nat} {L : List Int} (h : Holds w S a n cap L) (hb : Below w.heap.size w w') : Holds w' S a n cap L :=
  ⟨(hb.block S (lt_of_row h.1)).trans h.1, h.2.below hb⟩
theorem Holds.cell {w : World} {S : Nat} {a : Option Addr} {n cap : Nat} {L : List Int} (h : Holds w S a n cap L) : w.cell? ⟨S, 0, none⟩ = some (.slice a n cap) := by rw [cell_of_row _ _ _ _ _ _ h.1]; rfl
/-- A shape stored into a box that has just been made. -/
theorem wpList_newS {ops : Array Oper} {rest : List Oper} {o : Oper} {act : Act} {v : World} {Q : Exit → Act → World → Prop} (w : World) (a : Option Addr) (n cap : Nat) (hgd : o.guard = none) (x y : Operand) (ho : o.op = .store 25 x y)
    (hx : act.eval x = .pointer (some ⟨w.heap.size, 0, none⟩)) (hy : act.eval y = .agg #[.slice a n cap]) (hv : v = w.alloc (.cells #[.slice none 0 0] 25))
    (h : ∀ z, z.heap[w.heap.size]? = some (.cells #[.slice a n cap] 25 (0, 0)) → Below w.heap.size w z → wpList Try.prog ops Q rest (act.put o.dst undef) z) : wpList Try.prog ops Q (o :: rest) act v := by
  subst hv
  exact wpList_stS hgd x y ho w.heap.size a n cap _ hx hy (al_at rfl) (h _ (setRow_heap _ _ _ _ _ _ (al_at rfl)) (below_setRow' (box_below _ _) (Nat.le_refl _) _))

theorem shp5 : Shp [5, 2, 1] := shp_wid 5 (by omega) (by omega)
theorem new_five (w : World) : Calls Try.prog 9 #[.int .i64 5] w fun e w' => ∃ a cap, e = .returned (.tuple #[.agg #[.slice a 3 cap], .int .i64 0]) ∧ Ints w' a 3 [5, 2, 1] ∧ Below w.heap.size w w' :=
  (new_ok 5 w (by omega) (by omega)).mono fun e w' ⟨a, cap, he, hI, _, hb⟩ => ⟨a, cap, he, hI, hb⟩
theorem pth5 : pth [5, 2, 1] 4 3 = [4, 6, 7] := by decide
theorem path_four (a : Option Addr) (cap : Nat) (w : World) (hI : Ints w a 3 [5, 2, 1]) :
    Calls Try.prog 18 #[.agg #[.slice a 3 cap], .int .i64 4] w fun e w' => ∃ b o cap', e = .returned (.tuple #[.slice (some ⟨b, o, none⟩) 3 cap', .int .i64 0]) ∧ Ints w' (some ⟨b, o, none⟩) 3 [4, 6, 7] ∧ Below w.heap.size w w' :=
  (path_ok a 3 cap 4 [5, 2, 1] w hI shp5 (by decide)).mono fun e w' ⟨a', cap', he, hI', hb⟩ => by
    rw [pth5] at hI'
    obtain ⟨b, o, rfl, _⟩ := hI'.2 (by omega)
    exact ⟨b, o, cap', he, hI', hb⟩

set_option maxHeartbeats 2000000 in
theorem awake_any (w : World) : Calls Try.prog 8 #[] w fun e w' => e = .returned (.bool true) ∧ Below w.heap.size w w' := by
  have CI : Box (∀ (x : World) a cap, Ints x a 3 [5, 2, 1] → Calls Try.prog 20 #[.agg #[.slice a 3 cap]] x fun e w' => e = .returned (.int .i64 8) ∧ Below x.heap.size x w') := ⟨fun x a cap h => items_any a 3 cap [5, 2, 1] x h shp5⟩
  have CT : Box (∀ (x : World) a cap, Calls Try.prog 22 #[.agg #[.slice a 3 cap]] x fun e w' => e = .returned (.int .i64 2) ∧ Below x.heap.size x w') := ⟨fun x a cap => top_any a 3 cap x (by omega) (by omega)⟩
  go_enter Try.func8, Try.ntmps8
  go_upto_region 2 with (first
    | (refine wpList_newS w1 a 3 cap rfl _ _ rfl rfl rfl rfl ?_; intro z1 hz hb2; have H1 : Box (Holds z1 w1.heap.size a 3 cap [5, 2, 1] ∧ Below w.heap.size w z1) := ⟨⟨hz, hI.below hb2⟩, below_to hb hb2⟩; clear hz hb2 hI hb)
    | (go_at_call 9; refine Calls.mono (new_five w) ?_; rintro e w1 ⟨a, cap, rfl, hI, hb⟩))
  generalize w1.heap.size = S at H1 ⊢
  have hr1 := H1.out.1.1
  go_upto_region 3 with (first
    | (go_at_call 18; refine Calls.mono (path_four a cap z1 H1.out.1.2) ?_; rintro e w2 ⟨pb, po, pc, rfl, hI, hb⟩; have H2 : Box (Holds w2 S a 3 cap [5, 2, 1] ∧ Ints w2 (some ⟨pb, po, none⟩) 3 [4, 6, 7] ∧ Below w.heap.size w w2) := ⟨H1.out.1.below hb, hI, below_to H1.out.2 hb⟩; clear hI hb)
    | (refine wpList_ldS rfl _ rfl _ _ rfl hr1 ?_))
  clear hr1 H1
  go_upto_region 4 with (first
    | (refine wpList_newS w3 none 0 0 rfl _ _ rfl rfl rfl rfl ?_; intro z3 hz hb3; have H3 : Box (Holds z3 S a 3 cap [5, 2, 1] ∧ Ints z3 (some ⟨pb, po, none⟩) 3 [4, 6, 7] ∧ Below w.heap.size w z3) := ⟨(H2.out.1.below hb).below hb3, (H2.out.2.1.below hb).below hb3, below_to (below_to H2.out.2.2 hb) hb3⟩; clear hz hb3 hb)
    | (go_at_call 9; refine Calls.mono (new_no 0 w2 (by omega)) ?_; rintro e w3 ⟨rfl, hb⟩; unfold sv))
  clear H2
  have hr3 := H3.out.1.1
  have hc3 := H3.out.1.cell
  obtain ⟨b1, o1, e1, _, c1⟩ := H3.out.1.2.2 (by omega)
  subst e1
  have d3 : z3.cell? ⟨b1, o1 + 1, none⟩ = some (.int .i64 2) := c1 1 (by omega)
  clear c1
  go_wp2_with (first
    | (go_at_call 20; refine Calls.mono (CI.out w5 _ cap H5.out.1.2) ?_; rintro e w6 ⟨rfl, hb⟩; have H6 : Box (Below w.heap.size w w6) := ⟨below_to H5.out.2.2 hb⟩; have d6 : w6.cell? ⟨pb, po + 1, none⟩ = some (.int .i64 6) := (H5.out.2.1.below hb).cell 1 (by omega); have d7 : w6.cell? ⟨pb, po + 2, none⟩ = some (.int .i64 7) := (H5.out.2.1.below hb).cell 2 (by omega); clear hb)
    | (refine wpList_ldSw _ rfl _ _ rfl hr5 rfl ?_)
    | (go_at_call 22; refine Calls.mono (CT.out z3 _ cap) ?_; rintro e w5 ⟨rfl, hb⟩; have H5 : Box (Holds w5 S (some ⟨b1, o1, none⟩) 3 cap [5, 2, 1] ∧ Ints w5 (some ⟨pb, po, none⟩) 3 [4, 6, 7] ∧ Below w.heap.size w w5) := ⟨H3.out.1.below hb, H3.out.2.1.below hb, below_to H3.out.2.2 hb⟩; have hr5 := H5.out.1.1; clear hb hr3 hc3 d3)
    | (refine wpList_ldSw _ rfl _ _ rfl hr3 rfl ?_))
  go_ret
  exact ⟨rfl, H6.out⟩
end Go.Proofs.Ytpdponcfgbceaaa
