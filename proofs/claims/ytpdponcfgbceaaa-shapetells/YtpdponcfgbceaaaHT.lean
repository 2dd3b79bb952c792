/-
  The walk of ShapeTells: the shape of any number of leaves, and all that it tells, are the reference's: the law returns true.
-/
import Derived.Test.YtpdponcfgbceaaaH9
namespace Go.Proofs.Ytpdponcfgbceaaa
set_option linter.unusedVariables false
open Go.RowKit Plain

/-- The code's shape in its box, and the reference's beside it. -/
def Two (w x : World) (S : Nat) (a b : Option Addr) (n cap : Nat) (W : List Int) : Prop := Holds x S a n cap W ∧ Ints x b n W ∧ Below w.heap.size w x
theorem Two.on {w x y : World} {S : Nat} {a b : Option Addr} {n cap : Nat} {W : List Int} (h : Two w x S a b n cap W) (hb : Below x.heap.size x y) : Two w y S a b n cap W := ⟨h.1.below hb, h.2.1.below hb, below_to h.2.2 hb⟩
theorem below_d {x y : World} (hm : ∃ m, y = x.drewN m) : Below x.heap.size x y := below_drew (Below.refl _ _) hm

set_option maxRecDepth 20000 in
set_option maxHeartbeats 2000000 in
theorem tells_core (leaves level i item side iv ie lx ly lz px py pt t T : Int) (m n c : Nat) (W P : List Int) (w : World) (hl : leaves = (m : Int)) (hn : n ≤ 6) (hc6 : c ≤ 6) (ht : (n : Int) - 1 = t) (hi : -9223372036854775808 ≤ i ∧ i ≤ 9223372036854775807)
    (CN : Box (∀ x, Calls Try.prog 9 #[.int .i64 m] x fun e w' => ∃ a cap, e = .returned (.tuple #[.agg #[.slice a n cap], .int .i64 0]) ∧ Ints w' a n W ∧ n ≤ cap ∧ Below x.heap.size x w'))
    (CR : Box (∀ x, Calls Try.prog 10 #[.int .i64 m] x fun e w' => ∃ a cap, e = .returned (.tuple #[.slice a n cap, .int .i64 0]) ∧ Ints w' a n W ∧ n ≤ cap ∧ Below x.heap.size x w'))
    (C1 : Box (∀ x a cap, Ints x a n W → Calls Try.prog 12 #[.agg #[.slice a n cap], .int .i64 level, .int .i64 i] x fun e w' => e = .returned (.tuple #[.int .i64 iv, .int .i64 ie]) ∧ Below x.heap.size x w'))
    (R1 : Box (∀ x a cap, Ints x a n W → n ≤ cap → Calls Try.prog 13 #[.slice a n cap, .int .i64 level, .int .i64 i] x fun e w' => e = .returned (.tuple #[.int .i64 iv, .int .i64 ie]) ∧ x = w'))
    (C2 : Box (∀ x a cap, Ints x a n W → Calls Try.prog 14 #[.agg #[.slice a n cap], .int .i64 item] x fun e w' => e = .returned (.tuple #[.int .i64 lx, .int .i64 ly, .int .i64 lz]) ∧ Below x.heap.size x w'))
    (R2 : Box (∀ x a cap, Ints x a n W → Calls Try.prog 15 #[.slice a n cap, .int .i64 item] x fun e w' => e = .returned (.tuple #[.int .i64 lx, .int .i64 ly, .int .i64 lz]) ∧ x = w'))
    (C3 : Box (∀ x a cap, Ints x a n W → Calls Try.prog 16 #[.agg #[.slice a n cap], .int .i64 item, .int .i64 side] x fun e w' => e = .returned (.tuple #[.int .i64 px, .int .i64 py]) ∧ Below x.heap.size x w'))
    (R3 : Box (∀ x a cap, Ints x a n W → Calls Try.prog 17 #[.slice a n cap, .int .i64 item, .int .i64 side] x fun e w' => e = .returned (.tuple #[.int .i64 px, .int .i64 py]) ∧ x = w'))
    (C4 : Box (∀ x a cap, Ints x a n W → Calls Try.prog 18 #[.agg #[.slice a n cap], .int .i64 i] x fun e w' => ∃ a' cap', e = .returned (.tuple #[.slice a' c cap', .int .i64 pt]) ∧ Ints w' a' c P ∧ Below x.heap.size x w'))
    (R4 : Box (∀ x a cap, Ints x a n W → Calls Try.prog 19 #[.slice a n cap, .int .i64 i] x fun e w' => ∃ a' cap', e = .returned (.tuple #[.slice a' c cap', .int .i64 pt]) ∧ Ints w' a' c P ∧ Below x.heap.size x w'))
    (CI : Box (∀ x a cap, Ints x a n W → Calls Try.prog 20 #[.agg #[.slice a n cap]] x fun e w' => e = .returned (.int .i64 T) ∧ Below x.heap.size x w'))
    (RI : Box (∀ x a cap, Ints x a n W → Calls Try.prog 21 #[.slice a n cap] x fun e w' => e = .returned (.int .i64 T) ∧ x = w'))
    (CT : Box (∀ x a cap, Calls Try.prog 22 #[.agg #[.slice a n cap]] x fun e w' => e = .returned (.int .i64 t) ∧ Below x.heap.size x w')) :
    Calls Try.prog 3 #[.int .i64 leaves, .int .i64 level, .int .i64 i, .int .i64 item, .int .i64 side] w fun e w' => e = .returned (.bool true) ∧ Below w.heap.size w w' := by
  subst hl
  have CA : Box (∀ x, Calls Try.prog 8 #[] x fun e w' => e = .returned (.bool true) ∧ Below x.heap.size x w') := ⟨awake_any⟩
  have CS : Box (∀ x a b ca cb, Ints x a n W → Ints x b n W → Calls Try.prog 11 #[.slice a n ca, .slice b n cb] x fun e w' => e = .returned (.bool true) ∧ ∃ m, w' = x.drewN m) := ⟨fun x a b ca cb hA hB => same_ok a b n ca cb W x hA hB (by omega)⟩
  have CS2 : Box (∀ x a b ca cb, Ints x a c P → Ints x b c P → Calls Try.prog 11 #[.slice a c ca, .slice b c cb] x fun e w' => e = .returned (.bool true) ∧ ∃ m, w' = x.drewN m) := ⟨fun x a b ca cb hA hB => same_ok a b c ca cb P x hA hB (by omega)⟩
  go_enter Try.func3, Try.ntmps3
  go_upto_region 5 with (first
    | (refine wpList_newS w2 a n cap rfl _ _ rfl rfl rfl rfl ?_; intro z2 hz hb3; have H2 : Box (Holds z2 w2.heap.size a n cap W ∧ Below w.heap.size w z2) := ⟨⟨hz, hI.below hb3⟩, below_to (below_to H1.out hb2) hb3⟩; clear hz hb3 hI hb2 hcap)
    | (go_at_call 9; refine Calls.mono (CN.out w1) ?_; rintro e w2 ⟨a, cap, rfl, hI, hcap, hb2⟩)
    | (go_at_call 8; refine Calls.mono (CA.out w) ?_; rintro e w1 ⟨rfl, hb1⟩; have H1 : Box (Below w.heap.size w w1) := ⟨hb1⟩; clear hb1))
  generalize w2.heap.size = S at H2 ⊢
  go_upto_region 6 with (go_at_call 10; refine Calls.mono (CR.out z2) ?_; rintro e w3 ⟨b, cb, rfl, hI, hcb, hb3⟩; have H3 : Box (Two w w3 S a b n cap W) := ⟨H2.out.1.below hb3, hI, below_to H2.out.2 hb3⟩; have HC : Box (n ≤ cb) := ⟨hcb⟩; clear hI hcb hb3)
  have hc3 := H3.out.1.cell
  clear CN CR CA H2
  go_upto_region 10 with (go_at_call 11; refine Calls.mono (CS.out w3 _ _ _ _ H3.out.1.2 H3.out.2.1) ?_; rintro e w4 ⟨rfl, hd⟩; have H4 : Box (Two w w4 S a b n cap W) := ⟨H3.out.on (below_d hd)⟩; clear hd)
  clear hc3 H3 CS
  go_upto_region 12 with (first
    | (go_at_call 13; refine Calls.mono (R1.out w5 b cb H5.out.2.1 HC.out) ?_; rintro e w' ⟨rfl, rfl⟩)
    | (go_at_call 12; refine Calls.mono (C1.out w4 a cap H4.out.1.2) ?_; rintro e w5 ⟨rfl, hb⟩; have H5 : Box (Two w w5 S a b n cap W) := ⟨H4.out.on hb⟩; clear hb)
    | (refine wpList_ldS rfl _ rfl _ _ rfl H4.out.1.1 ?_))
  clear C1 R1 H4
  go_upto_region 14 with (first
    | (go_at_call 15; refine Calls.mono (R2.out w6 b cb H6.out.2.1) ?_; rintro e w' ⟨rfl, rfl⟩)
    | (go_at_call 14; refine Calls.mono (C2.out w5 a cap H5.out.1.2) ?_; rintro e w6 ⟨rfl, hb⟩; have H6 : Box (Two w w6 S a b n cap W) := ⟨H5.out.on hb⟩; clear hb)
    | (refine wpList_ldS rfl _ rfl _ _ rfl H5.out.1.1 ?_))
  clear C2 R2 H5
  go_upto_region 16 with (first
    | (go_at_call 17; refine Calls.mono (R3.out w7 b cb H7.out.2.1) ?_; rintro e w' ⟨rfl, rfl⟩)
    | (go_at_call 16; refine Calls.mono (C3.out w6 a cap H6.out.1.2) ?_; rintro e w7 ⟨rfl, hb⟩; have H7 : Box (Two w w7 S a b n cap W) := ⟨H6.out.on hb⟩; clear hb)
    | (refine wpList_ldS rfl _ rfl _ _ rfl H6.out.1.1 ?_))
  clear C3 R3 H6
  go_upto_region 18 with (first
    | (go_at_call 19; refine Calls.mono (R4.out w8 b cb H8.out.1.2.1) ?_; rintro e w9 ⟨pa2, pc2, rfl, hI, hb⟩; have H9 : Box (Two w w9 S a b n cap W ∧ Ints w9 pa1 c P ∧ Ints w9 pa2 c P) := ⟨H8.out.1.on hb, H8.out.2.below hb, hI⟩; clear hb hI)
    | (go_at_call 18; refine Calls.mono (C4.out w7 a cap H7.out.1.2) ?_; rintro e w8 ⟨pa1, pc1, rfl, hI, hb⟩; have H8 : Box (Two w w8 S a b n cap W ∧ Ints w8 pa1 c P) := ⟨H7.out.on hb, hI⟩; clear hb hI)
    | (refine wpList_ldS rfl _ rfl _ _ rfl H7.out.1.1 ?_))
  clear C4 R4 H7 H8
  go_wp2_with (first
    | (go_at_call 11; refine Calls.mono (CS2.out w11 _ _ _ _ H11.out.2.1 H11.out.2.2) ?_; rintro e w12 ⟨rfl, hd⟩; have H12 : Box (Below w.heap.size w w12) := ⟨below_drew H11.out.1.2.2 hd⟩; clear hd)
    | (go_at_call 22; refine Calls.mono (CT.out w10 a cap) ?_; rintro e w11 ⟨rfl, hb⟩; have H11 : Box (Two w w11 S a b n cap W ∧ Ints w11 pa1 c P ∧ Ints w11 pa2 c P) := ⟨H10.out.1.on hb, H10.out.2.1.below hb, H10.out.2.2.below hb⟩; clear hb)
    | (refine wpList_ldSw _ rfl _ _ rfl H10.out.1.1.1 rfl ?_)
    | (go_at_call 21; refine Calls.mono (RI.out w10 b cb H10.out.1.2.1) ?_; rintro e w' ⟨rfl, rfl⟩)
    | (go_at_call 20; refine Calls.mono (CI.out w9 a cap H9.out.1.1.2) ?_; rintro e w10 ⟨rfl, hb⟩; have H10 : Box (Two w w10 S a b n cap W ∧ Ints w10 pa1 c P ∧ Ints w10 pa2 c P) := ⟨H9.out.1.on hb, H9.out.2.1.below hb, H9.out.2.2.below hb⟩; clear hb)
    | (refine wpList_ldS rfl _ rfl _ _ rfl H9.out.1.1.1 ?_))
  go_ret
  exact ⟨rfl, H12.out⟩

set_option maxRecDepth 20000 in
set_option maxHeartbeats 1000000 in
theorem tells_out (leaves level i item side : Int) (w : World) (h : leaves < 1 ∨ 1024 < leaves) :
    Calls Try.prog 3 #[.int .i64 leaves, .int .i64 level, .int .i64 i, .int .i64 item, .int .i64 side] w fun e w' => e = .returned (.bool true) ∧ Below w.heap.size w w' := by
  have CA : Box (∀ x, Calls Try.prog 8 #[] x fun e w' => e = .returned (.bool true) ∧ Below x.heap.size x w') := ⟨awake_any⟩
  have CN : Box (∀ x, Calls Try.prog 9 #[.int .i64 leaves] x fun e w' => e = .returned (.tuple #[.agg #[.slice none 0 0], .int .i64 1]) ∧ Below x.heap.size x w') := ⟨fun x => new_no _ x h⟩
  have CR : Box (∀ x, Calls Try.prog 10 #[.int .i64 leaves] x fun e w' => e = .returned (.tuple #[.slice none 0 0, .int .i64 1]) ∧ x = w') := ⟨fun x => rnew_no _ x h⟩
  have CS : Box (∀ x, Calls Try.prog 11 #[.slice none 0 0, .slice none 0 0] x fun e w' => e = .returned (.bool true) ∧ ∃ m, w' = x.drewN m) := ⟨fun x => same_ok none none 0 0 0 [] x (ints_none _) (ints_none _) (by omega)⟩
  clear h
  go_enter Try.func3, Try.ntmps3
  go_upto_region 5 with (first
    | (refine wpList_newS w2 none 0 0 rfl _ _ rfl rfl rfl rfl ?_; intro z2 hz hb3; have H2 : Box (z2.heap[w2.heap.size]? = some (.cells #[.slice none 0 0] 25 (0, 0)) ∧ Below w.heap.size w z2) := ⟨hz, below_to (below_to H1.out hb2) hb3⟩; clear hz hb3 hb2)
    | (go_at_call 9; refine Calls.mono (CN.out w1) ?_; rintro e w2 ⟨rfl, hb2⟩)
    | (go_at_call 8; refine Calls.mono (CA.out w) ?_; rintro e w1 ⟨rfl, hb1⟩; have H1 : Box (Below w.heap.size w w1) := ⟨hb1⟩; clear hb1))
  generalize w2.heap.size = S at H2 ⊢
  have hc3 : z2.cell? ⟨S, 0, none⟩ = some (.slice none 0 0) := by rw [cell_of_row _ _ _ _ _ _ H2.out.1]; rfl
  go_wp2_with (first
    | (go_at_call 11; refine Calls.mono (CS.out z2) ?_; rintro e w4 ⟨rfl, hd⟩; have H4 : Box (Below w.heap.size w w4) := ⟨below_drew H2.out.2 hd⟩; clear hd)
    | (go_at_call 10; refine Calls.mono (CR.out z2) ?_; rintro e w3 ⟨rfl, rfl⟩))
  go_ret
  exact ⟨rfl, H4.out⟩

theorem shapeTells_walk (leaves level i item side : Int) (w : World) (w1 : (Lit.int .i64 leaves).wf = true) (w2 : (Lit.int .i64 level).wf = true) (w3 : (Lit.int .i64 i).wf = true) (w4 : (Lit.int .i64 item).wf = true) (w5 : (Lit.int .i64 side).wf = true) :
    Calls Try.prog 3 #[.int .i64 leaves, .int .i64 level, .int .i64 i, .int .i64 item, .int .i64 side] w fun e w' => e = .returned (.bool true) ∧ Below w.heap.size w w' := by
  have b3 := bounds_i64 w3
  have b4 := bounds_i64 w4
  by_cases h : leaves < 1 ∨ 1024 < leaves
  · exact tells_out leaves level i item side w h
  · obtain ⟨m, rfl⟩ : ∃ m : Nat, leaves = (m : Int) := ⟨leaves.toNat, by omega⟩
    have hs := shp_wid m (by omega) (by omega)
    have h6 := hs.hi
    have h2 := hs.lo
    obtain ⟨iv, ie, h1⟩ := itm_any (wid m) (wid m).length level i
    obtain ⟨lx, ly, lz, h3⟩ := lvl_any (wid m) (wid m).length item
    obtain ⟨px, py, h4⟩ := plc_any (wid m) (wid m).length item side
    obtain ⟨c, P, pt, hc6, C4, R4⟩ : ∃ (c : Nat) (P : List Int) (pt : Int), c ≤ 6 ∧ (∀ x a cap, Ints x a (wid m).length (wid m) → Calls Try.prog 18 #[.agg #[.slice a (wid m).length cap], .int .i64 i] x fun e w' => ∃ a' cap', e = .returned (.tuple #[.slice a' c cap', .int .i64 pt]) ∧ Ints w' a' c P ∧ Below x.heap.size x w') ∧
        (∀ x a cap, Ints x a (wid m).length (wid m) → Calls Try.prog 19 #[.slice a (wid m).length cap, .int .i64 i] x fun e w' => ∃ a' cap', e = .returned (.tuple #[.slice a' c cap', .int .i64 pt]) ∧ Ints w' a' c P ∧ Below x.heap.size x w') := by
      by_cases hi : i < 0 ∨ (wid m).getD 0 0 ≤ i
      · exact ⟨0, [], 12, by omega, fun x a cap hI => (path_no a _ cap i _ x hI hs hi).mono fun e w' ⟨he, hb⟩ => ⟨none, 0, he, ints_none _, hb⟩, fun x a cap hI => (rpath_no a _ cap i _ x hI hs hi).mono fun e w' ⟨he, hb⟩ => ⟨none, 0, he, ints_none _, hb⟩⟩
      · obtain ⟨q, rfl⟩ : ∃ q : Nat, i = (q : Int) := ⟨i.toNat, by omega⟩
        exact ⟨_, pth (wid m) q (wid m).length, 0, h6, fun x a cap hI => path_ok a _ cap q _ x hI hs (by omega), fun x a cap hI => rpath_ok a _ cap q _ x hI hs (by omega)⟩
    exact tells_core m level i item side iv ie lx ly lz px py pt (((wid m).length - 1 : Nat) : Int) (sumTo (wid m) (wid m).length) m (wid m).length c (wid m) P w rfl h6 hc6 (by omega) ⟨by omega, by omega⟩
      ⟨fun x => new_ok m x (by omega) (by omega)⟩ ⟨fun x => rnew_ok m x (by omega) (by omega)⟩
      ⟨fun x a cap hI => item_any a _ cap level i iv ie _ x hI hs h1⟩ ⟨fun x a cap hI hc => ritem_any a _ cap level i iv ie _ x hI hs hc h1⟩
      ⟨fun x a cap hI => level_any a _ cap item lx ly lz _ x hI hs (by omega) h3⟩ ⟨fun x a cap hI => rlevel_any a _ cap item lx ly lz _ x hI hs h3⟩
      ⟨fun x a cap hI => place_any a _ cap item side px py _ x hI hs h4⟩ ⟨fun x a cap hI => rplace_any a _ cap item side px py _ x hI hs h4⟩
      ⟨C4⟩ ⟨R4⟩ ⟨fun x a cap hI => items_any a _ cap _ x hI hs⟩ ⟨fun x a cap hI => ritems_any a _ cap _ x hI hs.any hs.sum h6⟩ ⟨fun x a cap => top_any a _ cap x h2 h6⟩
end Go.Proofs.Ytpdponcfgbceaaa
