/-
  The document's example of layer 18.
-/
import Derived.Test.YtjfcliihgpkhdaaBMG
import Derived.Test.YtjfcliihgpkhdaaBME
namespace Go.Proofs.Ytjfcliihgpkhdaa
set_option linter.unusedVariables false
open Go.RowKit Plain

theorem byt_lits (w : World) (A : List Int) (hA : Byt A) : Bytes (w.alloc (.cells (u8s A) 5)) (some ⟨w.heap.size, 0, none⟩) A.length A := bytes_of_row hA (al_at rfl)
theorem byt2 (x y : Int) (hx : 0 ≤ x ∧ x ≤ 255) (hy : 0 ≤ y ∧ y ≤ 255) : Byt [x, y] := byt_cons _ _ hx (byt_cons _ _ hy byt_nil)
theorem byt1 (x : Int) (hx : 0 ≤ x ∧ x ≤ 255) : Byt [x] := byt_cons _ _ hx byt_nil
theorem ex1 : firstV [255, 254] 2 0 16 = .tuple #[.int .i64 8, .int .i64 0] := by kernel_rfl
theorem ex2 : put [0] 3 true = [8] := by decide +kernel
theorem ex3 : getV [8] 1 3 = .tuple #[.bool true, .int .i64 0] := by kernel_rfl
theorem ex4 : cntV [255, 1] 2 4 16 = .tuple #[.int .i64 5, .int .i64 0] := by kernel_rfl
theorem box_below (w : World) (o : Obj) : Below w.heap.size w (w.alloc o) := (Below.refl _ _).alloc (Nat.le_refl _) _
set_option maxRecDepth 20000 in
set_option maxHeartbeats 2000000 in
theorem awake_any (w : World) : Calls Try.prog 8 #[] w fun e w' => e = .returned (.bool true) ∧ Below w.heap.size w w' := by
  have H1 : Box (∀ x : World, Calls Try.prog 13 #[.slice (some ⟨x.heap.size, 0, none⟩) 2 2, .int .i64 0, .int .i64 16] (x.alloc (.cells #[.int .u8 255, .int .u8 254] 5)) fun e w' => e = .returned (.tuple #[.int .i64 8, .int .i64 0]) ∧ x.alloc (.cells #[.int .u8 255, .int .u8 254] 5) = w') := ⟨fun x => by
    have := first_any (some ⟨x.heap.size, 0, none⟩) 2 2 [255, 254] 0 16 _ (byt_lits x [255, 254] (byt2 _ _ (by omega) (by omega))) (by omega) (by omega) (by omega)
    rw [ex1] at this
    exact this⟩
  have H2 : Box (∀ x : World, Calls Try.prog 11 #[.slice (some ⟨x.heap.size, 0, none⟩) 1 1, .int .i64 3, .bool true] (x.alloc (.cells #[.int .u8 0] 5)) fun e w' => ∃ g c', e = .returned (.tuple #[.slice (some ⟨g, 0, none⟩) 1 c', .int .i64 0]) ∧ Bytes w' (some ⟨g, 0, none⟩) 1 [8] ∧ Below x.heap.size x w') := ⟨fun x => by
    have := set_ok (some ⟨x.heap.size, 0, none⟩) 1 1 [0] 3 true _ (byt_lits x [0] (byt1 _ (by omega))) (by omega) (by omega)
    rw [ex2] at this
    exact this.mono fun e w' ⟨g, c', h1, h2, h3, _⟩ => ⟨g, c', h1, h2, below_to (box_below x _) h3⟩⟩
  have H3 : Box (∀ (x : World) (g c' : Nat), Bytes x (some ⟨g, 0, none⟩) 1 [8] → Calls Try.prog 9 #[.slice (some ⟨g, 0, none⟩) 1 c', .int .i64 3] x fun e w' => e = .returned (.tuple #[.bool true, .int .i64 0]) ∧ Below x.heap.size x w') := ⟨fun x g c' h => by
    have := get_any (some ⟨g, 0, none⟩) 1 c' [8] 3 x h (by omega) (by omega)
    rw [ex3] at this
    exact this⟩
  have H4 : Box (∀ x : World, Calls Try.prog 15 #[.slice (some ⟨x.heap.size, 0, none⟩) 2 2, .int .i64 4, .int .i64 16] (x.alloc (.cells #[.int .u8 255, .int .u8 1] 5)) fun e w' => e = .returned (.tuple #[.int .i64 5, .int .i64 0]) ∧ Below x.heap.size x w') := ⟨fun x => by
    have := count_any (some ⟨x.heap.size, 0, none⟩) 2 2 [255, 1] 4 16 _ (byt_lits x [255, 1] (byt2 _ _ (by omega) (by omega))) (by omega) (by omega) (by unfold maxLen; omega) (by omega) (by omega)
    rw [ex4] at this
    exact this.mono fun e w' ⟨h1, h3⟩ => ⟨h1, below_to (box_below x _) h3⟩⟩
  have HB1 : Box (Below w.heap.size w (w.alloc (.cells #[.int .u8 255, .int .u8 254] 5))) := ⟨box_below _ _⟩
  go_enter Try.func8, Try.ntmps8
  go_upto_region 2 with (go_at_call 13; refine Calls.mono (H1.out _) ?_; rintro e w' ⟨rfl, rfl⟩)
  generalize w.alloc (.cells #[.int .u8 255, .int .u8 254] 5) = x1 at HB1 ⊢
  go_upto_region 3 with (go_at_call 11; refine Calls.mono (H2.out _) ?_; rintro e w2 ⟨g, c2, rfl, hB2, hb2⟩; have B2 : Box (Bytes w2 (some ⟨g, 0, none⟩) 1 [8] ∧ Below w.heap.size w w2) := ⟨hB2, below_to HB1.out hb2⟩; clear hB2 hb2 H2)
  go_upto_region 4 with (go_at_call 9; refine Calls.mono (H3.out _ _ _ B2.out.1) ?_; rintro e w3 ⟨rfl, hb3⟩; have B3 : Box (Bytes w3 (some ⟨g, 0, none⟩) 1 [8] ∧ Below w.heap.size w w3) := ⟨B2.out.1.below hb3, below_to B2.out.2 hb3⟩; clear hb3 H3)
  clear HB1 B2 H1
  go_upto_region 5 with (go_at_call 15; refine Calls.mono (H4.out _) ?_; rintro e w4 ⟨rfl, hb4⟩; have B4 : Box (Bytes w4 (some ⟨g, 0, none⟩) 1 [8] ∧ Below w.heap.size w w4) := ⟨B3.out.1.below hb4, below_to B3.out.2 hb4⟩; clear hb4 H4)
  have k0 : w4.cell? ⟨g, 0, none⟩ = some (.int .u8 8) := by
    obtain ⟨b, o, e, _, hc⟩ := B4.out.1.2.2 (by omega)
    simp only [Option.some.injEq, Addr.mk.injEq, and_true] at e
    obtain ⟨rfl, rfl⟩ := e
    exact hc 0 (by omega)
  go_wp2
  go_ret
  exact ⟨rfl, B4.out.2⟩
end Go.Proofs.Ytjfcliihgpkhdaa
