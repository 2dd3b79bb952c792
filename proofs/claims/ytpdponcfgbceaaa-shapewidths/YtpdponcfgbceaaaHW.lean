/-
  The walk of ShapeWidths: the widths of a tree of any number of leaves are the document's: the law returns true.
-/
import Derived.Test.YtpdponcfgbceaaaH9
namespace Go.Proofs.Ytpdponcfgbceaaa
set_option linter.unusedVariables false
open Go.RowKit Plain

set_option maxHeartbeats 1000000 in
theorem widths_in (leaves : Int) (k m : Nat) (w : World) (hl : 0 ≤ leaves ∧ leaves ≤ 65535) (hk : leaves % 1030 = (k : Int)) (hm : (k : Int) - 2 = (m : Int)) (h1 : 1 ≤ m) (h2 : m ≤ 1024) :
    Calls Try.prog 6 #[.int .u16 leaves] w fun e w' => e = .returned (.bool true) ∧ Below w.heap.size w w' := by
  have CA : Box (∀ x, Calls Try.prog 8 #[] x fun e w' => e = .returned (.bool true) ∧ Below x.heap.size x w') := ⟨awake_any⟩
  obtain ⟨W, n, HW⟩ : ∃ W n, Box (wid m = W ∧ W.length = n ∧ n ≤ 6) := ⟨_, _, ⟨rfl, rfl, (shp_wid m h1 h2).hi⟩⟩
  have CN : Box (∀ x, Calls Try.prog 9 #[.int .i64 m] x fun e w' => ∃ a cap, e = .returned (.tuple #[.agg #[.slice a n cap], .int .i64 0]) ∧ Ints w' a n W ∧ n ≤ cap ∧ Below x.heap.size x w') := ⟨fun x => by have h := new_ok m x h1 h2; rw [HW.out.1, HW.out.2.1] at h; exact h⟩
  have CR : Box (∀ x, Calls Try.prog 10 #[.int .i64 m] x fun e w' => ∃ a cap, e = .returned (.tuple #[.slice a n cap, .int .i64 0]) ∧ Ints w' a n W ∧ n ≤ cap ∧ Below x.heap.size x w') := ⟨fun x => by have h := rnew_ok m x h1 h2; rw [HW.out.1, HW.out.2.1] at h; exact h⟩
  have CS : Box (∀ x a b ca cb, Ints x a n W → Ints x b n W → Calls Try.prog 11 #[.slice a n ca, .slice b n cb] x fun e w' => e = .returned (.bool true) ∧ ∃ m, w' = x.drewN m) := ⟨fun x a b ca cb hA hB => same_ok a b n ca cb W x hA hB (by have := HW.out.2.2; omega)⟩
  clear HW
  go_enter Try.func6, Try.ntmps6
  go_upto_region 6 with (first
    | (refine wpList_newS w2 a n cap rfl _ _ rfl rfl rfl rfl ?_; intro z2 hz hb3; have H2 : Box (Holds z2 w2.heap.size a n cap W ∧ Below w.heap.size w z2) := ⟨⟨hz, hI.below hb3⟩, below_to (below_to H1.out hb2) hb3⟩; clear hz hb3 hI hb2 hcap)
    | (go_at_call 9; refine Calls.mono (CN.out w1) ?_; rintro e w2 ⟨a, cap, rfl, hI, hcap, hb2⟩)
    | (go_at_call 8; refine Calls.mono (CA.out w) ?_; rintro e w1 ⟨rfl, hb1⟩; have H1 : Box (Below w.heap.size w w1) := ⟨hb1⟩; clear hb1))
  generalize w2.heap.size = S at H2 ⊢
  go_wp2_with (first
    | (go_at_call 11; refine Calls.mono (CS.out w3 _ _ _ _ H3.out.1.2 H3.out.2.1) ?_; rintro e w4 ⟨rfl, hd⟩; have H4 : Box (Below w.heap.size w w4) := ⟨below_drew H3.out.2.2 hd⟩; clear hd)
    | (go_at_call 10; refine Calls.mono (CR.out z2) ?_; rintro e w3 ⟨b, cb, rfl, hI, hcb, hb3⟩; have H3 : Box (Holds w3 S a n cap W ∧ Ints w3 b n W ∧ Below w.heap.size w w3) := ⟨H2.out.1.below hb3, hI, below_to H2.out.2 hb3⟩; have hc3 := H3.out.1.cell; clear hI hcb hb3))
  go_ret
  exact ⟨rfl, H4.out⟩

set_option maxHeartbeats 1000000 in
theorem widths_out (leaves : Int) (k : Nat) (w : World) (hl : 0 ≤ leaves ∧ leaves ≤ 65535) (hk : leaves % 1030 = (k : Int)) (h1 : (k : Int) - 2 < 1 ∨ 1024 < (k : Int) - 2) :
    Calls Try.prog 6 #[.int .u16 leaves] w fun e w' => e = .returned (.bool true) ∧ Below w.heap.size w w' := by
  have CA : Box (∀ x, Calls Try.prog 8 #[] x fun e w' => e = .returned (.bool true) ∧ Below x.heap.size x w') := ⟨awake_any⟩
  have CN : Box (∀ x, Calls Try.prog 9 #[.int .i64 ((k : Int) - 2)] x fun e w' => e = .returned (.tuple #[.agg #[.slice none 0 0], .int .i64 1]) ∧ Below x.heap.size x w') := ⟨fun x => new_no _ x h1⟩
  have CR : Box (∀ x, Calls Try.prog 10 #[.int .i64 ((k : Int) - 2)] x fun e w' => e = .returned (.tuple #[.slice none 0 0, .int .i64 1]) ∧ x = w') := ⟨fun x => rnew_no _ x h1⟩
  have CS : Box (∀ x, Calls Try.prog 11 #[.slice none 0 0, .slice none 0 0] x fun e w' => e = .returned (.bool true) ∧ ∃ m, w' = x.drewN m) := ⟨fun x => same_ok none none 0 0 0 [] x (ints_none _) (ints_none _) (by omega)⟩
  have hk2 : k ≤ 1029 := by omega
  clear h1
  go_enter Try.func6, Try.ntmps6
  go_upto_region 6 with (first
    | (refine wpList_newS w2 none 0 0 rfl _ _ rfl rfl rfl rfl ?_; intro z2 hz hb3; have H2 : Box (z2.heap[w2.heap.size]? = some (.cells #[.slice none 0 0] 25 (0, 0)) ∧ Below w.heap.size w z2) := ⟨hz, below_to (below_to H1.out hb2) hb3⟩; clear hz hb3 hb2)
    | (go_at_call 9; refine Calls.mono (CN.out w1) ?_; rintro e w2 ⟨rfl, hb2⟩)
    | (go_at_call 8; refine Calls.mono (CA.out w) ?_; rintro e w1 ⟨rfl, hb1⟩; have H1 : Box (Below w.heap.size w w1) := ⟨hb1⟩; clear hb1))
  generalize w2.heap.size = S at H2 ⊢
  have hc3 : z2.cell? ⟨S, 0, none⟩ = some (.slice none 0 0) := by rw [cell_of_row _ _ _ _ _ _ H2.out.1]; rfl
  go_wp2_with (first
    | (go_at_call 11; refine Calls.mono (CS.out z2) ?_; rintro e w4 ⟨rfl, hd⟩; have H4 : Box (Below w.heap.size w w4) := ⟨below_drew H2.out.2 hd⟩; clear hd)
    | (go_at_call 10; refine Calls.mono (CR.out z2) ?_; rintro e w3 ⟨rfl, rfl⟩))
  go_ret
  exact ⟨rfl, H4.out⟩

theorem shapeWidths_walk (leaves : Int) (w : World) (hw : (Lit.int .u16 leaves).wf = true) :
    Calls Try.prog 6 #[.int .u16 leaves] w fun e w' => e = .returned (.bool true) ∧ Below w.heap.size w w' := by
  have b := bounds_u16 hw
  have hk : leaves % 1030 = ((leaves % 1030).toNat : Int) := by omega
  by_cases h : ((leaves % 1030).toNat : Int) - 2 < 1 ∨ 1024 < ((leaves % 1030).toNat : Int) - 2
  · exact widths_out leaves _ w ⟨by omega, by omega⟩ hk h
  · exact widths_in leaves _ ((leaves % 1030).toNat - 2) w ⟨by omega, by omega⟩ hk (by omega) (by omega) (by omega)
end Go.Proofs.Ytpdponcfgbceaaa
