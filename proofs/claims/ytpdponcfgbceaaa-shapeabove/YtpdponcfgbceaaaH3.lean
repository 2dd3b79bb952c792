/-
  What Item, Level and Place of package shape answer, for every shape that may be.
-/
import Derived.Test.YtpdponcfgbceaaaH2
import Derived.BigFrame
import Derived.WalkMore
namespace Go.Proofs.Ytpdponcfgbceaaa
set_option linter.unusedVariables false
open Go.RowKit Plain

/-- A shape loaded whole out of its box, where it is asked for. -/
theorem wpList_ldSw {ops : Array Oper} {rest : List Oper} {o : Oper} {act : Act} {w : World} {Q : Exit → Act → World → Prop} (x : Operand) (ho : o.op = .load 25 x) (S : Nat) (v : Value) (hx : act.eval x = .pointer (some ⟨S, 0, none⟩)) (hB : w.heap[S]? = some (.cells #[v] 25 (0, 0))) (hw : Region.wanted o (yielded ops act.tmps) = true)
    (h : wpList Try.prog ops Q rest (act.put o.dst (.agg #[v])) w) : wpList Try.prog ops Q (o :: rest) act w :=
  BigFrame.wpList_want hw fun _ hK => wp_load_row 25 x ho S hx _ _ _ _ hB Try.underlying25 rfl infoS (hK _ _ h)

/-- What Item tells. -/
def Itm (L : List Int) (n : Nat) (level i x y : Int) : Prop :=
  (∃ l : Nat, level = (l : Int) ∧ l < n ∧ 0 ≤ i ∧ i < L.getD l 0 ∧ x = sumTo L l + i ∧ y = 0) ∨
  ((level < 0 ∨ (n : Int) ≤ level ∨ i < 0 ∨ ∃ l : Nat, level = (l : Int) ∧ l < n ∧ 0 ≤ i ∧ L.getD l 0 ≤ i) ∧ x = 0 ∧ y = 12)
theorem itm_any (L : List Int) (n : Nat) (level i : Int) : ∃ x y, Itm L n level i x y := by
  by_cases h : 0 ≤ level ∧ level < (n : Int) ∧ 0 ≤ i
  · obtain ⟨h1, h2, h3⟩ := h
    by_cases h4 : i < L.getD level.toNat 0
    · exact ⟨_, _, .inl ⟨level.toNat, by omega, by omega, h3, h4, rfl, rfl⟩⟩
    · exact ⟨_, _, .inr ⟨.inr (.inr (.inr ⟨level.toNat, by omega, by omega, h3, by omega⟩)), rfl, rfl⟩⟩
  · exact ⟨0, 12, .inr ⟨by omega, rfl, rfl⟩⟩

set_option maxHeartbeats 1000000 in
theorem item_ok (a : Option Addr) (n cap l : Nat) (i : Int) (L : List Int) (w : World) (hI : Ints w a n L) (hS : Shp L) (hl : l < n) (hi : 0 ≤ i) (hL : i < L.getD l 0) :
    Calls Try.prog 12 #[sv a n cap, .int .i64 l, .int .i64 i] w fun e w' => e = .returned (.tuple #[.int .i64 (sumTo L l + i), .int .i64 0]) ∧ Below w.heap.size w w' := by
  have hn : n ≤ 6 := by rw [← hI.1]; exact hS.hi
  have HC : Box (Calls Try.prog 24 #[sv a n cap, .int .i64 l] (w.alloc (.cells #[.slice a n cap] 25)) fun e w' => e = .returned (.int .i64 (sumTo L l)) ∧ Below (w.alloc (.cells #[.slice a n cap] 25)).heap.size (w.alloc (.cells #[.slice a n cap] 25)) w') := ⟨ahead_any a n cap l L _ (hI.below (box_below _ _)) hS (by omega)⟩
  have hc := box_cell w a n cap
  have hr : (w.alloc (.cells #[.slice a n cap] 25)).heap[w.heap.size]? = some (.cells #[.slice a n cap] 25 (0, 0)) := al_at rfl
  have HB : Box (Below w.heap.size w (w.alloc (.cells #[.slice a n cap] 25))) := ⟨box_below _ _⟩
  have hI2 := hI.below (box_below w (.cells #[.slice a n cap] 25))
  obtain ⟨b1, o1, e1, _, c1⟩ := hI2.2 (by omega)
  subst e1
  have d1 := c1 l hl
  have h3 := hS.sum l
  have h4 := hS.any l
  clear hI hI2 hS c1
  generalize L.getD l 0 = z at d1 hL h4
  generalize sumTo L l = s at HC h3 ⊢
  unfold sv at HC ⊢
  go_enter Try.func12, Try.ntmps12
  go_upto_region 1 with fail
  generalize w.alloc (.cells #[.slice (some ⟨b1, o1, none⟩) n cap] 25) = x at HC HB hc hr d1 ⊢
  go_wp2_with (first
    | (go_at_call 24; refine Calls.mono HC.out ?_; rintro e w' ⟨rfl, hb⟩)
    | (refine wpList_ldS rfl _ rfl _ _ rfl hr ?_))
  go_ret2
  exact ⟨rfl, below_to HB.out hb⟩

set_option maxHeartbeats 1000000 in
theorem item_no (a : Option Addr) (n cap : Nat) (level i : Int) (L : List Int) (w : World) (hI : Ints w a n L) (hS : Shp L)
    (h : level < 0 ∨ (n : Int) ≤ level ∨ i < 0 ∨ ∃ l : Nat, level = (l : Int) ∧ l < n ∧ 0 ≤ i ∧ L.getD l 0 ≤ i) :
    Calls Try.prog 12 #[sv a n cap, .int .i64 level, .int .i64 i] w fun e w' => e = .returned (.tuple #[.int .i64 0, .int .i64 12]) ∧ Below w.heap.size w w' := by
  have hc := box_cell w a n cap
  have HB : Box (Below w.heap.size w (w.alloc (.cells #[.slice a n cap] 25))) := ⟨box_below _ _⟩
  have hI2 := hI.below (box_below w (.cells #[.slice a n cap] 25))
  unfold sv
  by_cases h1 : level < 0
  · clear h hI hI2 hS
    go_enter Try.func12, Try.ntmps12
    go_upto_region 1 with fail
    generalize w.alloc (.cells #[.slice a n cap] 25) = x at HB hc ⊢
    go_wp2
    go_ret2
    exact ⟨rfl, HB.out⟩
  by_cases h2 : (n : Int) ≤ level
  · clear h hI hI2 hS
    go_enter Try.func12, Try.ntmps12
    go_upto_region 1 with fail
    generalize w.alloc (.cells #[.slice a n cap] 25) = x at HB hc ⊢
    go_wp2
    go_ret2
    exact ⟨rfl, HB.out⟩
  by_cases h3 : i < 0
  · clear h hI hI2 hS
    go_enter Try.func12, Try.ntmps12
    go_upto_region 1 with fail
    generalize w.alloc (.cells #[.slice a n cap] 25) = x at HB hc ⊢
    go_wp2
    go_ret2
    exact ⟨rfl, HB.out⟩
  obtain ⟨l, rfl, hl, _, hz⟩ : ∃ l : Nat, level = (l : Int) ∧ l < n ∧ 0 ≤ i ∧ L.getD l 0 ≤ i := by
    rcases h with h | h | h | h
    · omega
    · omega
    · omega
    · exact h
  obtain ⟨b1, o1, e1, _, c1⟩ := hI2.2 (by omega)
  subst e1
  have d1 := c1 l hl
  clear h hI hI2 hS c1 h1
  generalize L.getD l 0 = z at d1 hz
  go_enter Try.func12, Try.ntmps12
  go_upto_region 1 with fail
  generalize w.alloc (.cells #[.slice (some ⟨b1, o1, none⟩) n cap] 25) = x at HB hc d1 ⊢
  go_wp2
  go_ret2
  exact ⟨rfl, HB.out⟩
theorem item_any (a : Option Addr) (n cap : Nat) (level i x y : Int) (L : List Int) (w : World) (hI : Ints w a n L) (hS : Shp L) (h : Itm L n level i x y) :
    Calls Try.prog 12 #[sv a n cap, .int .i64 level, .int .i64 i] w fun e w' => e = .returned (.tuple #[.int .i64 x, .int .i64 y]) ∧ Below w.heap.size w w' := by
  rcases h with ⟨l, rfl, hl, hi, hL, rfl, rfl⟩ | ⟨h, rfl, rfl⟩
  · exact item_ok a n cap l i L w hI hS hl hi hL
  · exact item_no a n cap level i L w hI hS h

/-- What Place tells. -/
def Plc (L : List Int) (n : Nat) (item side x y : Int) : Prop :=
  (0 ≤ item ∧ item < sumTo L n ∧ 0 ≤ side ∧ side ≤ 1 ∧ x = 2 * item + side ∧ y = 0) ∨ ((item < 0 ∨ sumTo L n ≤ item ∨ side < 0 ∨ 1 < side) ∧ x = 0 ∧ y = 12)
theorem plc_any (L : List Int) (n : Nat) (item side : Int) : ∃ x y, Plc L n item side x y := by
  by_cases h : 0 ≤ item ∧ item < sumTo L n ∧ 0 ≤ side ∧ side ≤ 1
  · exact ⟨_, _, .inl ⟨h.1, h.2.1, h.2.2.1, h.2.2.2, rfl, rfl⟩⟩
  · exact ⟨_, _, .inr ⟨by omega, rfl, rfl⟩⟩

set_option maxHeartbeats 1000000 in
theorem place_any (a : Option Addr) (n cap : Nat) (item side x y : Int) (L : List Int) (w : World) (hI : Ints w a n L) (hS : Shp L) (h : Plc L n item side x y) :
    Calls Try.prog 16 #[sv a n cap, .int .i64 item, .int .i64 side] w fun e w' => e = .returned (.tuple #[.int .i64 x, .int .i64 y]) ∧ Below w.heap.size w w' := by
  have hn : n ≤ 6 := by rw [← hI.1]; exact hS.hi
  have HC : Box (Calls Try.prog 20 #[sv a n cap] (w.alloc (.cells #[.slice a n cap] 25)) fun e w' => e = .returned (.int .i64 (sumTo L n)) ∧ Below (w.alloc (.cells #[.slice a n cap] 25)).heap.size (w.alloc (.cells #[.slice a n cap] 25)) w') := ⟨items_any a n cap L _ (hI.below (box_below _ _)) hS⟩
  have hc := box_cell w a n cap
  have hr : (w.alloc (.cells #[.slice a n cap] 25)).heap[w.heap.size]? = some (.cells #[.slice a n cap] 25 (0, 0)) := al_at rfl
  have HB : Box (Below w.heap.size w (w.alloc (.cells #[.slice a n cap] 25))) := ⟨box_below _ _⟩
  have h3 := hS.sum n
  unfold Plc at h
  clear hI hS
  generalize sumTo L n = s at HC h3 h
  unfold sv at HC ⊢
  by_cases h1 : item < 0
  · obtain ⟨rfl, rfl⟩ : x = 0 ∧ y = 12 := by omega
    clear h
    go_enter Try.func16, Try.ntmps16
    go_wp2
    go_ret2
    exact ⟨rfl, HB.out⟩
  by_cases h2 : s ≤ item
  · obtain ⟨rfl, rfl⟩ : x = 0 ∧ y = 12 := by omega
    clear h
    go_enter Try.func16, Try.ntmps16
    go_upto_region 1 with fail
    generalize w.alloc (.cells #[.slice a n cap] 25) = x at HC HB hc hr ⊢
    go_wp2_with (first
      | (go_at_call 20; refine Calls.mono HC.out ?_; rintro e w' ⟨rfl, hb⟩)
      | (refine wpList_ldSw _ rfl _ _ rfl hr rfl ?_))
    go_ret2
    exact ⟨rfl, below_to HB.out hb⟩
  by_cases h4 : side < 0
  · obtain ⟨rfl, rfl⟩ : x = 0 ∧ y = 12 := by omega
    clear h
    go_enter Try.func16, Try.ntmps16
    go_upto_region 1 with fail
    generalize w.alloc (.cells #[.slice a n cap] 25) = x at HC HB hc hr ⊢
    go_wp2_with (first
      | (go_at_call 20; refine Calls.mono HC.out ?_; rintro e w' ⟨rfl, hb⟩)
      | (refine wpList_ldSw _ rfl _ _ rfl hr rfl ?_))
    go_ret2
    exact ⟨rfl, below_to HB.out hb⟩
  by_cases h5 : 1 < side
  · obtain ⟨rfl, rfl⟩ : x = 0 ∧ y = 12 := by omega
    clear h
    go_enter Try.func16, Try.ntmps16
    go_upto_region 1 with fail
    generalize w.alloc (.cells #[.slice a n cap] 25) = x at HC HB hc hr ⊢
    go_wp2_with (first
      | (go_at_call 20; refine Calls.mono HC.out ?_; rintro e w' ⟨rfl, hb⟩)
      | (refine wpList_ldSw _ rfl _ _ rfl hr rfl ?_))
    go_ret2
    exact ⟨rfl, below_to HB.out hb⟩
  obtain ⟨rfl, rfl⟩ : x = 2 * item + side ∧ y = 0 := by omega
  clear h
  go_enter Try.func16, Try.ntmps16
  go_upto_region 1 with fail
  generalize w.alloc (.cells #[.slice a n cap] 25) = x at HC HB hc hr ⊢
  go_wp2_with (first
    | (go_at_call 20; refine Calls.mono HC.out ?_; rintro e w' ⟨rfl, hb⟩)
    | (refine wpList_ldSw _ rfl _ _ rfl hr rfl ?_))
  go_ret2
  exact ⟨rfl, below_to HB.out hb⟩

/-- What Level tells. -/
def Lvl (L : List Int) (n : Nat) (item x y z : Int) : Prop :=
  (∃ l : Nat, l < n ∧ sumTo L l ≤ item ∧ item < sumTo L (l + 1) ∧ x = (l : Int) ∧ y = item - sumTo L l ∧ z = 0) ∨ ((item < 0 ∨ sumTo L n ≤ item) ∧ x = 0 ∧ y = 0 ∧ z = 12)
theorem lvl_any (L : List Int) (n : Nat) (item : Int) : ∃ x y z, Lvl L n item x y z := by
  by_cases h : item < 0 ∨ sumTo L n ≤ item
  · exact ⟨_, _, _, .inr ⟨h, rfl, rfl, rfl⟩⟩
  · obtain ⟨l, h1, h2, h3⟩ := find_level L n item (by omega) (by omega)
    exact ⟨_, _, _, .inl ⟨l, h1, h2, h3, rfl, rfl, rfl⟩⟩

set_option maxHeartbeats 1000000 in
theorem level_ok (a : Option Addr) (n cap l : Nat) (item : Int) (L : List Int) (w : World) (hI : Ints w a n L) (hS : Shp L) (hl : l < n) (h1 : sumTo L l ≤ item) (h2 : item < sumTo L (l + 1)) :
    Calls Try.prog 14 #[sv a n cap, .int .i64 item] w fun e w' => e = .returned (.tuple #[.int .i64 l, .int .i64 (item - sumTo L l), .int .i64 0]) ∧ Below w.heap.size w w' := by
  have hn : n ≤ 6 := by rw [← hI.1]; exact hS.hi
  have hc := box_cell w a n cap
  have HB : Box (Below w.heap.size w (w.alloc (.cells #[.slice a n cap] 25))) := ⟨box_below _ _⟩
  have hI2 := hI.below (box_below w (.cells #[.slice a n cap] 25))
  obtain ⟨b1, o1, e1, _, c1⟩ := hI2.2 (by omega)
  subst e1
  have HI : Box (Ints (w.alloc (.cells #[.slice (some ⟨b1, o1, none⟩) n cap] 25)) (some ⟨b1, o1, none⟩) n L) := ⟨hI2⟩
  have HS : Box (Shp L) := ⟨hS⟩
  have HE : Box (sumTo L l ≤ item ∧ item < sumTo L (l + 1)) := ⟨h1, h2⟩
  clear hI hI2 hS c1 h1 h2
  unfold sv
  go_enter Try.func14, Try.ntmps14
  go_wp2
  go_step3
  go_upto_region 1 with fail
  generalize w.alloc (.cells #[.slice (some ⟨b1, o1, none⟩) n cap] 25) = x at HI HB hc ⊢
  go_wp2
  go_step3
  go_wp2
  go_loop [7, 14] (fun i t => ∃ k : Nat, k ≤ l ∧ t = .int .i64 k ∧ i = .int .i64 (item - sumTo L k)) (fun _ t => l - (intOf t).toNat)
  case atStart => exact ⟨0, Nat.zero_le _, rfl, by simp [sumTo]⟩
  case round =>
    obtain ⟨k, hk, rfl, rfl⟩ := hrel
    have hm := HS.out.mono k l hk
    have hs0 := HS.out.sum k
    have hs1 := HS.out.sum (l + 1)
    have d1 := HI.out.cell k (by omega)
    have hz := HS.out.any k
    obtain ⟨HE1, HE2⟩ := HE.out
    by_cases hlt : k < l
    · have hm2 := HS.out.mono (k + 1) l hlt
      have hs : Box (item - sumTo L k - L.getD k 0 = item - sumTo L (k + 1)) := ⟨by rw [sumTo]; omega⟩
      rw [sumTo] at hm2
      have g1 : ¬ item - sumTo L k < 0 := by omega
      have g2 : ¬ item - sumTo L k < L.getD k 0 := by omega
      have g3 : 0 ≤ item - sumTo L k ∧ item - sumTo L k ≤ 10000 := by omega
      clear hm hs0 hs1 hm2 HE1 HE2
      generalize item - sumTo L k = s at hs g1 g2 g3
      generalize L.getD k 0 = z at d1 hs hz g2
      go_wp2
      go_round
      case rel => exact ⟨k + 1, by omega, by go_num, by rw [hs.out]⟩
      case measure => simp [intOf]; omega
    · obtain rfl : k = l := by omega
      rw [sumTo] at HE2
      have g1 : ¬ item - sumTo L k < 0 := by omega
      have g2 : item - sumTo L k < L.getD k 0 := by omega
      clear hm hs0 hs1 HE1 HE2 HE
      generalize hq : item - sumTo L k = s at g1 g2
      have HQ : Box (item - sumTo L k = s) := ⟨hq⟩
      clear hq
      generalize L.getD k 0 = z at d1 hz g2
      go_wp2
      go_ret3
      exact ⟨by rw [HQ.out]; rfl, HB.out⟩

set_option maxHeartbeats 1000000 in
theorem level_low (a : Option Addr) (n cap : Nat) (item : Int) (L : List Int) (w : World) (hI : Ints w a n L) (hS : Shp L) (h : item < 0) :
    Calls Try.prog 14 #[sv a n cap, .int .i64 item] w fun e w' => e = .returned (.tuple #[.int .i64 0, .int .i64 0, .int .i64 12]) ∧ Below w.heap.size w w' := by
  have hn : n ≤ 6 := by rw [← hI.1]; exact hS.hi
  have hn2 : 2 ≤ n := by rw [← hI.1]; exact hS.lo
  have hc := box_cell w a n cap
  have HB : Box (Below w.heap.size w (w.alloc (.cells #[.slice a n cap] 25))) := ⟨box_below _ _⟩
  have hI2 := hI.below (box_below w (.cells #[.slice a n cap] 25))
  obtain ⟨b1, o1, e1, _, c1⟩ := hI2.2 (by omega)
  subst e1
  have HI : Box (Ints (w.alloc (.cells #[.slice (some ⟨b1, o1, none⟩) n cap] 25)) (some ⟨b1, o1, none⟩) n L) := ⟨hI2⟩
  clear hI hI2 hS c1
  unfold sv
  go_enter Try.func14, Try.ntmps14
  go_wp2
  go_step3
  go_upto_region 1 with fail
  generalize w.alloc (.cells #[.slice (some ⟨b1, o1, none⟩) n cap] 25) = x at HI HB hc ⊢
  go_wp2
  go_step3
  go_wp2
  go_loop [7, 14] (fun i t => i = .int .i64 item ∧ t = .int .i64 0) (fun _ _ => 0)
  case atStart => exact ⟨rfl, rfl⟩
  case round =>
    obtain ⟨rfl, rfl⟩ := hrel
    have d1 := HI.out.cell 0 (by omega)
    rw [Nat.add_zero] at d1
    generalize L.getD 0 0 = z at d1
    go_wp2
    go_ret3
    exact ⟨rfl, HB.out⟩

set_option maxHeartbeats 1000000 in
theorem level_high (a : Option Addr) (n cap : Nat) (item : Int) (L : List Int) (w : World) (hI : Ints w a n L) (hS : Shp L) (h : sumTo L n ≤ item) (hi : item ≤ 9223372036854775807) :
    Calls Try.prog 14 #[sv a n cap, .int .i64 item] w fun e w' => e = .returned (.tuple #[.int .i64 0, .int .i64 0, .int .i64 12]) ∧ Below w.heap.size w w' := by
  have hn : n ≤ 6 := by rw [← hI.1]; exact hS.hi
  have hn2 : 2 ≤ n := by rw [← hI.1]; exact hS.lo
  have hc := box_cell w a n cap
  have HB : Box (Below w.heap.size w (w.alloc (.cells #[.slice a n cap] 25))) := ⟨box_below _ _⟩
  have hI2 := hI.below (box_below w (.cells #[.slice a n cap] 25))
  obtain ⟨b1, o1, e1, _, c1⟩ := hI2.2 (by omega)
  subst e1
  have HI : Box (Ints (w.alloc (.cells #[.slice (some ⟨b1, o1, none⟩) n cap] 25)) (some ⟨b1, o1, none⟩) n L) := ⟨hI2⟩
  have HS : Box (Shp L) := ⟨hS⟩
  have HE : Box (sumTo L n ≤ item) := ⟨h⟩
  clear hI hI2 hS c1 h
  unfold sv
  go_enter Try.func14, Try.ntmps14
  go_wp2
  go_step3
  go_upto_region 1 with fail
  generalize w.alloc (.cells #[.slice (some ⟨b1, o1, none⟩) n cap] 25) = x at HI HB hc ⊢
  go_wp2
  go_step3
  go_wp2
  go_loop [7, 14] (fun i t => ∃ k : Nat, k ≤ n ∧ t = .int .i64 k ∧ i = .int .i64 (item - sumTo L k)) (fun _ t => n - (intOf t).toNat)
  case atStart => exact ⟨0, Nat.zero_le _, rfl, by simp [sumTo]⟩
  case round =>
    obtain ⟨k, hk, rfl, rfl⟩ := hrel
    by_cases hlt : k < n
    · have hs0 := HS.out.sum k
      have d1 := HI.out.cell k (by omega)
      have hz := HS.out.any k
      have HE1 := HE.out
      have hm2 := HS.out.mono (k + 1) n hlt
      have hs : Box (item - sumTo L k - L.getD k 0 = item - sumTo L (k + 1)) := ⟨by rw [sumTo]; omega⟩
      rw [sumTo] at hm2
      have g1 : ¬ item - sumTo L k < 0 := by omega
      have g2 : ¬ item - sumTo L k < L.getD k 0 := by omega
      have g3 : 0 ≤ item - sumTo L k ∧ item - sumTo L k ≤ 9223372036854775807 := by omega
      clear hs0 hm2 HE1
      generalize item - sumTo L k = s at hs g1 g2 g3
      generalize L.getD k 0 = z at d1 hs hz g2
      go_wp2
      go_round
      case rel => exact ⟨k + 1, by omega, by go_num, by rw [hs.out]⟩
      case measure => simp [intOf]; omega
    · obtain rfl : k = n := by omega
      go_wp2
      go_ret3
      exact ⟨rfl, HB.out⟩
theorem level_any (a : Option Addr) (n cap : Nat) (item x y z : Int) (L : List Int) (w : World) (hI : Ints w a n L) (hS : Shp L) (hi : item ≤ 9223372036854775807) (h : Lvl L n item x y z) :
    Calls Try.prog 14 #[sv a n cap, .int .i64 item] w fun e w' => e = .returned (.tuple #[.int .i64 x, .int .i64 y, .int .i64 z]) ∧ Below w.heap.size w w' := by
  rcases h with ⟨l, hl, h1, h2, rfl, rfl, rfl⟩ | ⟨h | h, rfl, rfl, rfl⟩
  · exact level_ok a n cap l item L w hI hS hl h1 h2
  · exact level_low a n cap item L w hI hS h
  · exact level_high a n cap item L w hI hS h hi
end Go.Proofs.Ytpdponcfgbceaaa
