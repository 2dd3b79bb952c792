/-
  What Path of package shape answers, for every shape that may be; rows of numbers that are the same.
-/
import Derived.Test.YtpdponcfgbceaaaH4
import Derived.Deep.QuietTactic
import Derived.BigQuiet
import Derived.WalkSmall
namespace Go.Proofs.Ytpdponcfgbceaaa
set_option linter.unusedVariables false
open Go.RowKit Plain

theorem drewN_on {w x : World} (h : ∃ m, x = w.drewN m) (n : Nat) : ∃ m, x.drewN n = w.drewN m := by
  obtain ⟨m, rfl⟩ := h
  exact ⟨m + n, World.drewN_drewN _ _ _⟩

set_option maxHeartbeats 1000000 in
theorem path_no (a : Option Addr) (n cap : Nat) (leaf : Int) (L : List Int) (w : World) (hI : Ints w a n L) (hS : Shp L) (h : leaf < 0 ∨ L.getD 0 0 ≤ leaf) :
    Calls Try.prog 18 #[sv a n cap, .int .i64 leaf] w fun e w' => e = .returned (.tuple #[.slice none 0 0, .int .i64 12]) ∧ Below w.heap.size w w' := by
  have hn : 2 ≤ n := by rw [← hI.1]; exact hS.lo
  have HC : Box (Calls Try.prog 12 #[sv a n cap, .int .i64 0, .int .i64 leaf] (w.alloc (.cells #[.slice a n cap] 25)) fun e w' => e = .returned (.tuple #[.int .i64 0, .int .i64 12]) ∧ Below (w.alloc (.cells #[.slice a n cap] 25)).heap.size (w.alloc (.cells #[.slice a n cap] 25)) w') :=
    ⟨item_no a n cap 0 leaf L _ (hI.below (box_below _ _)) hS (by
      rcases h with h | h
      · omega
      · by_cases h0 : leaf < 0
        · omega
        · exact .inr (.inr (.inr ⟨0, rfl, by omega, by omega, h⟩)))⟩
  have hr : (w.alloc (.cells #[.slice a n cap] 25)).heap[w.heap.size]? = some (.cells #[.slice a n cap] 25 (0, 0)) := al_at rfl
  have HB : Box (Below w.heap.size w (w.alloc (.cells #[.slice a n cap] 25))) := ⟨box_below _ _⟩
  clear hI hS h
  unfold sv at HC ⊢
  go_enter Try.func18, Try.ntmps18
  go_upto_region 1 with fail
  generalize w.alloc (.cells #[.slice a n cap] 25) = x at HC HB hr ⊢
  go_wp2_with (first
    | (go_at_call 12; refine Calls.mono HC.out ?_; rintro e w' ⟨rfl, hb⟩)
    | (refine wpList_ldS rfl _ rfl _ _ rfl hr ?_))
  go_ret2
  exact ⟨rfl, below_to HB.out hb⟩

theorem quart_tdiv (q : Nat) : ((q : Int)).tdiv 4 = ((q / 4 : Nat) : Int) := by
  rw [Int.tdiv_eq_ediv_of_nonneg (by omega)]
  omega
/-- Where Path's loop stands. -/
def Walks (x wr : World) (L : List Int) (q k : Nat) (v : Value) : Prop :=
  wr.ownsRow x.heap.size 3 1 v k ((pth L q k).map (Value.int .i64)) ∧ Below x.heap.size x wr

set_option maxHeartbeats 2000000 in
theorem path_ok (a : Option Addr) (n cap q : Nat) (L : List Int) (w : World) (hI : Ints w a n L) (hS : Shp L) (hq : (q : Int) < L.getD 0 0) :
    Calls Try.prog 18 #[sv a n cap, .int .i64 q] w fun e w' => ∃ a' cap', e = .returned (.tuple #[.slice a' n cap', .int .i64 0]) ∧ Ints w' a' n (pth L q n) ∧ Below w.heap.size w w' := by
  have hn : 2 ≤ n := by rw [← hI.1]; exact hS.lo
  have hn6 : n ≤ 6 := by rw [← hI.1]; exact hS.hi
  have hq2 : (q : Int) ≤ 1024 := by have := hS.any 0; omega
  have HC : Box (Calls Try.prog 12 #[sv a n cap, .int .i64 0, .int .i64 q] (w.alloc (.cells #[.slice a n cap] 25)) fun e w' => e = .returned (.tuple #[.int .i64 (0 + q), .int .i64 0]) ∧ Below (w.alloc (.cells #[.slice a n cap] 25)).heap.size (w.alloc (.cells #[.slice a n cap] 25)) w') :=
    ⟨item_ok a n cap 0 q L _ (hI.below (box_below _ _)) hS (by omega) (by omega) hq⟩
  have hr : (w.alloc (.cells #[.slice a n cap] 25)).heap[w.heap.size]? = some (.cells #[.slice a n cap] 25 (0, 0)) := al_at rfl
  have HB : Box (Below w.heap.size w (w.alloc (.cells #[.slice a n cap] 25))) := ⟨box_below _ _⟩
  have HI : Box (Ints (w.alloc (.cells #[.slice a n cap] 25)) a n L) := ⟨hI.below (box_below _ _)⟩
  have HS : Box (Shp L) := ⟨hS⟩
  have HQ : Box (∀ k, k < n → ((q / 4 ^ k : Nat) : Int) ≤ 1024) := ⟨fun k hk => by
    have h1 := hS.quart_lt q hq k (by rw [hI.1]; exact hk)
    have h2 := hS.any k
    omega⟩
  obtain ⟨i0, hi, hz0, hz1, hz2⟩ := info_parts infoI
  have HM : Box (i0.bytes * n ≤ 281474976710656) := ⟨by rw [hz2]; omega⟩
  clear hI hS hq
  unfold sv at HC ⊢
  go_enter Try.func18, Try.ntmps18
  go_upto_region 1 with fail
  generalize w.alloc (.cells #[.slice a n cap] 25) = x at HC HB HI hr ⊢
  go_upto_region 4 with (first
    | (go_at_call 12; refine Calls.mono HC.out ?_; rintro e x1 ⟨rfl, hb⟩; have H1 : Box (Below x.heap.size x x1) := ⟨hb⟩; clear hb)
    | (refine wpList_ldS rfl _ rfl _ _ rfl hr ?_))
  have hc1 : x1.cell? ⟨w.heap.size, 0, none⟩ = some (.slice a n cap) := by rw [cell_of_row _ _ _ _ _ _ ((H1.out.block _ (lt_of_row hr)).trans hr)]; rfl
  go_wp2_with (at_make; refine wpList_make_own _ rfl _ _ 23 rfl x1.heap.size 3 i0 (.int .i64 0) 1 Try.underlying23 hi hz0 hz1 .i64 .i64 _ n rfl rfl rfl HM.out (by unfold maxLen; omega) (Nat.le_refl _) ?_; intro x2 hown hgr; have hb2 : Below x1.heap.size x1 x2 := (Below.refl _ _).grown hgr (Nat.le_refl _) (fun k hk => by simp at hk); have H2 : Box (Walks x1 x2 L q 0 (.slice (some ⟨x1.heap.size, 0, none⟩) 0 n)) := ⟨hown, hb2⟩; have hc2 : x2.cell? ⟨w.heap.size, 0, none⟩ = some (.slice a n cap) := (hb2.cell (Nat.lt_of_lt_of_le (lt_of_row hr) H1.out.size)).trans hc1; clear hown hgr hb2)
  clear hc1 hr HC HM
  go_loopw [8, 9, 10, 30] (fun v f i t wr => ∃ k : Nat, k ≤ n ∧ t = .int .i64 k ∧ f = .int .i64 (sumTo L k) ∧ i = .int .i64 ((q / 4 ^ k : Nat) : Int) ∧ Box (Walks x1 wr L q k v)) (fun _ _ _ t _ => n - (intOf t).toNat)
  case atStart => exact ⟨0, Nat.zero_le _, rfl, rfl, by simp, H2⟩
  case round =>
    obtain ⟨k, hk, rfl, rfl, rfl, HW⟩ := hrel
    clear H2 hc2
    by_cases hlt : k < n
    · obtain ⟨b1, o1, e1, _, c1⟩ := ((HI.out.below H1.out).below HW.out.2).2 (by omega)
      subst e1
      have d1 := c1 k hlt
      clear c1
      have hb := HS.out.any k
      have hs0 := HS.out.sum k
      have hq0 := HQ.out k hlt
      have hs : Box (sumTo L k + L.getD k 0 = sumTo L (k + 1)) := ⟨rfl⟩
      have ht := quart_tdiv (q / 4 ^ k)
      rw [← quart] at ht
      have hq3 : q / 4 ^ (k + 1) ≤ 1024 := by rw [quart]; omega
      have hp : Box (pth L q k ++ [sumTo L k + ((q / 4 ^ k : Nat) : Int)] = pth L q (k + 1)) := ⟨rfl⟩
      generalize sumTo L k = s at hs hs0 hp
      generalize L.getD k 0 = z at d1 hs hb
      generalize q / 4 ^ k = p at hq0 ht hp
      generalize hp1 : q / 4 ^ (k + 1) = p1 at ht hq3
      have HP : Box (q / 4 ^ (k + 1) = p1) := ⟨hp1⟩
      clear hp1
      go_wp2_with (at_builtin; refine wpList_iapp rfl (.tmp 34) (.tmp 38) rfl x1.heap.size k 1 1 _ (pth L q k) [s + (p : Int)] ⟨wr.heap.size, 0, none⟩ x1 rfl rfl (iown_later HW.out.1 (box_below _ _)) (ints_of_row (X := [s + (p : Int)]) (al_at rfl)) (by omega) (HW.out.2.alloc HW.out.2.size _) (Nat.le_trans HW.out.2.size (by simp)) ?_; intro v' w' H3; rw [hp.out] at H3; have H4 : Box (Walks x1 w' L q (k + 1) v') := ⟨H3.out.1, H3.out.2.1⟩; clear H3)
      go_roundw
      case rel => exact ⟨k + 1, by omega, by go_num, by rw [hs.out], by rw [HP.out], H4⟩
      case measure => simp [intOf]; omega
    · obtain rfl : k = n := by omega
      obtain ⟨a', cap', rfl⟩ := iown_form HW.out.1
      go_wp2
      go_ret2
      exact ⟨a', cap', rfl, iown_ints HW.out.1, below_to HB.out (below_to H1.out HW.out.2)⟩

set_option maxHeartbeats 400000 in
theorem same_other (a b : Option Addr) (la ca lb cb : Nat) (w : World) (h : la ≠ lb) (hla : la ≤ 9223372036854775807) (hlb : lb ≤ 9223372036854775807) :
    Calls Try.prog 11 #[.slice a la ca, .slice b lb cb] w fun e w' => e = .returned (.bool false) ∧ Below w.heap.size w w' := by
  have hd : ¬ (la : Int) = (lb : Int) := by omega
  go_enter Try.func11, Try.ntmps11
  go_wp2
  go_ret
  exact ⟨rfl, Below.refl _ _⟩

set_option maxHeartbeats 400000 in
theorem same_ok (a b : Option Addr) (n ca cb : Nat) (L : List Int) (w : World) (hA : Ints w a n L) (hB : Ints w b n L) (hn : n ≤ 1000000) :
    Calls Try.prog 11 #[.slice a n ca, .slice b n cb] w fun e w' => e = .returned (.bool true) ∧ ∃ m, w' = w.drewN m := by
  have HA : Box (∀ x, Below w.heap.size w x → Ints x a n L ∧ Ints x b n L) := ⟨fun x hx => ⟨hA.below hx, hB.below hx⟩⟩
  clear hA hB
  go_enter Try.func11, Try.ntmps11
  go_wp2
  go_loopw [5] (fun i wr => ∃ k : Nat, k ≤ n ∧ i = .int .i64 k ∧ Box (∃ m, wr = w.drewN m)) (fun i _ => n - (intOf i).toNat)
  case atStart => exact ⟨0, Nat.zero_le _, rfl, ⟨0, rfl⟩⟩
  case round =>
    obtain ⟨k, hk, rfl, HI⟩ := hrel
    by_cases hlt : k < n
    · obtain ⟨hx, hy⟩ := HA.out wr (by obtain ⟨m, rfl⟩ := HI.out; exact below_drewN (Below.refl _ _) m)
      obtain ⟨b1, o1, e1, _, c1⟩ := hx.2 (by omega)
      obtain ⟨b2, o2, e2, _, c2⟩ := hy.2 (by omega)
      subst e1 e2
      have d1 := c1 k hlt
      have d2 := c2 k hlt
      clear c1 c2 hx hy
      generalize L.getD k 0 = z at d1 d2
      go_wp2
      go_quiet (fail)
      go_wp2
      go_roundw
      case rel => exact ⟨k + 1, by omega, by go_num, ⟨drewN_on HI.out nq⟩⟩
      case measure => simp [intOf]; omega
    · obtain rfl : k = n := by omega
      go_wp2
      go_ret
      exact ⟨rfl, HI.out⟩
end Go.Proofs.Ytpdponcfgbceaaa
