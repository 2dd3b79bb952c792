/-
  The document's example of layer 17 (awake), walked.
-/
import Derived.Test.YtniminalkjhfbaaLE
namespace Go.Proofs.Ytniminalkjhfbaa
set_option linter.unusedVariables false
open Go.RowKit Plain

theorem new_is (b i t d : Int) (w : World) (h : newV b i = .tuple #[.agg (lc b i t d), .int .i64 0]) : Calls Try.prog 9 #[.int .i64 b, .int .i64 i] w fun e w' => e = .returned (.tuple #[.agg (lc b i t d), .int .i64 0]) ∧ Below w.heap.size w w' := by
  have := new_any b i w
  rwa [h] at this
theorem new_isnt (b i : Int) (w : World) (h : newV b i = .tuple #[.agg (lc 0 0 0 0), .int .i64 1]) : Calls Try.prog 9 #[.int .i64 b, .int .i64 i] w fun e w' => e = .returned (.tuple #[.agg (lc 0 0 0 0), .int .i64 1]) ∧ Below w.heap.size w w' := by
  have := new_any b i w
  rwa [h] at this
theorem ino_is (b i d n x y e : Int) (w : World) (hi : i ≤ 500) (h : inoV i n = .tuple #[.int .i64 x, .int .i64 y, .int .i64 e]) : Calls Try.prog 12 #[.agg (lc b i 3 d), .int .i64 n] w fun r w' => r = .returned (.tuple #[.int .i64 x, .int .i64 y, .int .i64 e]) ∧ Below w.heap.size w w' := by
  have := inode_any b i d n w hi
  rwa [h] at this
theorem get_is (a : Option Addr) (n cap : Nat) (B : List Int) (b i t d e : Int) (w : World) (hB : Bytes w a n B) (h : getV B = .tuple #[.agg (lc b i t d), .int .i64 e]) : Calls Try.prog 16 #[.slice a n cap] w fun r w' => r = .returned (.tuple #[.agg (lc b i t d), .int .i64 e]) ∧ Below w.heap.size w w' := by
  have := lget_any a n cap B w hB
  rwa [h] at this
theorem at20 : newV 20 10 = .tuple #[.agg (lc 20 10 3 5), .int .i64 0] := newV_ok (by decide)
theorem at7 : newV 7 2 = .tuple #[.agg (lc 0 0 0 0), .int .i64 1] := newV_no (by decide)
theorem at6 : inoV 10 6 = .tuple #[.int .i64 4, .int .i64 32, .int .i64 0] := inoV_ok (by decide) (by decide)
theorem at20b : getV (lb 20 10) = .tuple #[.agg (lc 20 10 3 5), .int .i64 0] := getV_lb 20 10 (by decide)

set_option maxHeartbeats 4000000 in
theorem awake_any (w : World) : Calls Try.prog 8 #[] w fun e w' => e = .returned (.bool true) ∧ Below w.heap.size w w' := by
  go_enter Try.func8, Try.ntmps8
  go_upto_region 2 with (first
    | (refine wpList_newL w1 20 10 3 5 rfl _ _ rfl rfl rfl rfl ?_; intro z1 hz hb2; have H1 : Box (Lay z1 w1.heap.size 20 10 3 5 ∧ Below w.heap.size w z1) := ⟨hz, below_to hb hb2⟩; clear hz hb2 hb)
    | (go_at_call 9; refine Calls.mono (new_is 20 10 3 5 w at20) ?_; rintro e w1 ⟨rfl, hb⟩))
  generalize w1.heap.size = S at H1 ⊢
  go_upto_region 3 with (first
    | (refine wpList_ldL rfl _ rfl S 20 10 3 5 rfl H1.out.1 ?_)
    | (go_at_call 12; refine Calls.mono (ino_is 20 10 5 6 4 32 0 z1 (by omega) at6) ?_; rintro e w2 ⟨rfl, hb⟩; have H2 : Box (Lay w2 S 20 10 3 5 ∧ Below w.heap.size w w2) := ⟨H1.out.1.below hb, below_to H1.out.2 hb⟩; clear hb))
  clear H1
  go_upto_region 4 with (first
    | (refine wpList_ldL rfl _ rfl S 20 10 3 5 rfl H2.out.1 ?_)
    | (refine wpList_newL w4 20 10 3 5 rfl _ _ rfl rfl rfl rfl ?_; intro z4 hz hb2; have H4 : Box (Lay z4 S 20 10 3 5 ∧ Lay z4 w4.heap.size 20 10 3 5 ∧ Below w.heap.size w z4) := ⟨H9.out.1.below hb2, hz, below_to H9.out.2 hb2⟩; clear hz hb2 H9)
    | (go_at_call 14; refine Calls.mono (lput_any 20 10 3 5 w2 (by omega) (by omega)) ?_; rintro e w3 ⟨g, rfl, hO⟩; have H3 : Box (Lay w3 S 20 10 3 5 ∧ Below w.heap.size w w3 ∧ Bytes w3 (some ⟨g, 0, none⟩) 160 (lb 20 10)) := ⟨H2.out.1.below hO.2.2, below_to H2.out.2 hO.2.2, hO.bytes (byt_lb 20 10)⟩; clear hO)
    | (go_at_call 16; refine Calls.mono (get_is (some ⟨g, 0, none⟩) 160 160 (lb 20 10) 20 10 3 5 0 w3 H3.out.2.2 at20b) ?_; rintro e w4 ⟨rfl, hb⟩; have H9 : Box (Lay w4 S 20 10 3 5 ∧ Below w.heap.size w w4) := ⟨H3.out.1.below hb, below_to H3.out.2.1 hb⟩; clear hb H3 H2))
  generalize w4.heap.size = T at H4 ⊢
  go_upto_region 5 with (first
    | (refine wpList_newL w5 0 0 0 0 rfl _ _ rfl rfl rfl rfl ?_; intro z5 hz hb2; have H5 : Box (Lay z5 S 20 10 3 5 ∧ Lay z5 T 20 10 3 5 ∧ Below w.heap.size w z5) := ⟨H6.out.1.below hb2, H6.out.2.1.below hb2, below_to H6.out.2.2 hb2⟩; clear hz hb2 H6)
    | (go_at_call 9; refine Calls.mono (new_isnt 7 2 z4 at7) ?_; rintro e w5 ⟨rfl, hb⟩; have H6 : Box (Lay w5 S 20 10 3 5 ∧ Lay w5 T 20 10 3 5 ∧ Below w.heap.size w w5) := ⟨H4.out.1.below hb, H4.out.2.1.below hb, below_to H4.out.2.2 hb⟩; clear hb H4))
  obtain ⟨_, _, k2, k3⟩ := H5.out.1.cells
  go_wp2_with (first
    | (refine wpList_runG rfl _ _ (exec_ldL _ rfl T 20 10 3 5 rfl H5.out.2.1) ?_)
    | (refine wpList_runG rfl _ _ (exec_ldL _ rfl S 20 10 3 5 rfl H5.out.1) ?_)
    | (refine wpList_runG rfl _ _ (exec_eqL _ _ _ rfl 20 10 3 5 20 10 3 5 true rfl rfl rfl) ?_))
  go_ret
  exact ⟨rfl, H5.out.2.2⟩
end Go.Proofs.Ytniminalkjhfbaa
