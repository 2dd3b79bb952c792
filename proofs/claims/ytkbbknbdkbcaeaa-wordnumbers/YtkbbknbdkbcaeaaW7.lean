/-
  The Go function awake answers true and changes nothing that was there.
-/
import Derived.Test.YtkbbknbdkbcaeaaW6
namespace Go.Proofs.Ytkbbknbdkbcaeaa
set_option linter.unusedVariables false
open Go.RowKit Plain

set_option maxHeartbeats 400000 in
theorem awake_any (w : World) :
    Calls Try.prog 9 #[] w fun e w' => e = .returned (.bool true) ∧ Below w.heap.size w w' := by
  go_enter Try.func9, Try.ntmps9
  go_wp2_with (first | (go_at_call 14; refine (put_lit _).mono ?_; rintro e w1 ⟨g, rfl, hg, hc0, hc1, hb1⟩) | (go_at_call 10; refine (get_lit _ _ rfl).mono ?_; rintro e w2 ⟨rfl, rfl⟩))
  refine (set_lit _ _ (by simp)).mono ?_
  rintro e w3 ⟨g3, rfl, hg3, hc3, hb3⟩
  have hz3 := hb3.size
  simp at hz3
  have hd0 : w3.cell? ⟨g, 0, none⟩ = some (.int .u8 2) := (hb3.cell (by simp; omega)).trans (by go_simp)
  have hd1 : w3.cell? ⟨g, 1, none⟩ = some (.int .u8 1) := (hb3.cell (by simp; omega)).trans (by go_simp)
  have hg' : g < w3.heap.size := by omega
  have hbl : Below w.heap.size w w3 := (((hb1.alloc hb1.size _).alloc (by have := hb1.size; simp; omega) _).trans (hb3.mono (by have := hb1.size; simp; omega)))
  clear hb3 hc0 hc1 hb1 hz3 hg
  go_wp2_with (first | (go_at_call 16; refine (add_lit _ _ rfl).mono ?_; rintro e w4 ⟨rfl, rfl⟩))
  refine (pad_lit _ _ (by simp)).mono ?_
  rintro e w5 ⟨g5, rfl, hb5⟩
  have hbl5 : Below w.heap.size w w5 := (((hbl.alloc hbl.size _).alloc (by have := hbl.size; simp; omega) _).trans (hb5.mono (by have := hbl.size; omega)))
  clear hb5 hbl hd0 hd1 hc3
  go_wp2
  go_ret
  exact ⟨rfl, hbl5⟩

end Go.Proofs.Ytkbbknbdkbcaeaa
