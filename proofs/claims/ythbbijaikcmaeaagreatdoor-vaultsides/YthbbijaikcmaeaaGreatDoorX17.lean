/-
  What Path of package shape answers, for every shape that may be; rows of numbers that are the same.
-/
import Derived.Deep.QuietTactic
import Derived.BigQuiet
import Derived.WalkSmall
import Derived.Test.YthbbijaikcmaeaaGreatDoorX16
namespace Go.Proofs.YthbbijaikcmaeaaGreatDoor.Shap.Plain
set_option maxRecDepth 100000
end Go.Proofs.YthbbijaikcmaeaaGreatDoor.Shap.Plain
namespace Go.Proofs.YthbbijaikcmaeaaGreatDoor.Shap
set_option maxRecDepth 100000
set_option linter.unusedVariables false
set_option maxRecDepth 100000
open Go.RowKit Go.Proofs.YthbbijaikcmaeaaGreatDoor.Plain Go.Proofs.YthbbijaikcmaeaaGreatDoor.Shap.Plain
theorem quart_tdiv (q : Nat) : ((q : Int)).tdiv 4 = ((q / 4 : Nat) : Int) := by
  rw [Int.tdiv_eq_ediv_of_nonneg (by omega)]
  omega
def Walks (x wr : World) (L : List Int) (q k : Nat) (v : Value) : Prop :=
  wr.ownsRow x.heap.size 3 1 v k ((pth L q k).map (Value.int .i64)) ∧ Below x.heap.size x wr
set_option maxHeartbeats 2000000 in
set_option maxRecDepth 100000 in
theorem path_ok (a : Option Addr) (n cap q : Nat) (L : List Int) (w : World) (hI : Ints w a n L) (hS : Shp L) (hq : (q : Int) < L.getD 0 0) :
    Calls Tryz.prog 60 #[sv a n cap, .int .i64 q] w fun e w' => ∃ a' cap', e = .returned (.tuple #[.slice a' n cap', .int .i64 0]) ∧ Ints w' a' n (pth L q n) ∧ Below w.heap.size w w' ∧ n ≤ cap' ∧ cap' ≤ maxLen ∧ ∀ ad, a' = some ad → w.heap.size ≤ ad.block := by
  have hn : 2 ≤ n := by rw [← hI.1]; exact hS.lo
  have hn6 : n ≤ 6 := by rw [← hI.1]; exact hS.hi
  have hq2 : (q : Int) ≤ 1024 := by have := hS.any 0; omega
  have HC : Box (Calls Tryz.prog 84 #[sv a n cap, .int .i64 0, .int .i64 q] (w.alloc (.cells #[.slice a n cap] 74)) fun e w' => e = .returned (.tuple #[.int .i64 (0 + q), .int .i64 0]) ∧ Below (w.alloc (.cells #[.slice a n cap] 74)).heap.size (w.alloc (.cells #[.slice a n cap] 74)) w') :=
    ⟨item_ok a n cap 0 q L _ (hI.below (box_below _ _)) hS (by omega) (by omega) hq⟩
  have hr : (w.alloc (.cells #[.slice a n cap] 74)).heap[w.heap.size]? = some (.cells #[.slice a n cap] 74 (0, 0)) := al_at rfl
  have HB : Box (Below w.heap.size w (w.alloc (.cells #[.slice a n cap] 74))) := ⟨box_below _ _⟩
  have HI : Box (Ints (w.alloc (.cells #[.slice a n cap] 74)) a n L) := ⟨hI.below (box_below _ _)⟩
  have HS : Box (Shp L) := ⟨hS⟩
  have HQ : Box (∀ k, k < n → ((q / 4 ^ k : Nat) : Int) ≤ 1024) := ⟨fun k hk => by
    have h1 := hS.quart_lt q hq k (by rw [hI.1]; exact hk)
    have h2 := hS.any k
    omega⟩
  obtain ⟨i0, hi, hz0, hz1, hz2⟩ := info_parts infoI
  have HM : Box (i0.bytes * n ≤ 281474976710656) := ⟨by rw [hz2]; omega⟩
  clear hI hS hq
  unfold sv at HC ⊢
  go_enter Tryz.func60, Tryz.ntmps60
  go_upto_region 1 with fail
  generalize w.alloc (.cells #[.slice a n cap] 74) = x at HC HB HI hr ⊢
  go_upto_region 4 with (first
    | (go_at_call 84; refine Calls.mono HC.out ?_; rintro e x1 ⟨rfl, hb⟩; have H1 : Box (Below x.heap.size x x1) := ⟨hb⟩; clear hb)
    | (refine wpList_ldS rfl _ rfl _ _ rfl hr ?_))
  have hc1 : x1.cell? ⟨w.heap.size, 0, none⟩ = some (.slice a n cap) := by rw [cell_of_row _ _ _ _ _ _ ((H1.out.block _ (lt_of_row hr)).trans hr)]; rfl
  go_wp2_with (at_make; refine wpList_make_own _ rfl _ _ 50 rfl x1.heap.size 3 i0 (.int .i64 0) 1 Tryz.underlying50 hi hz0 hz1 .i64 .i64 _ n rfl rfl rfl HM.out (by unfold maxLen; omega) (Nat.le_refl _) ?_; intro x2 hown hgr; have hb2 : Below x1.heap.size x1 x2 := (Below.refl _ _).grown hgr (Nat.le_refl _) (fun k hk => by simp at hk); have H2 : Box (Walks x1 x2 L q 0 (.slice (some ⟨x1.heap.size, 0, none⟩) 0 n)) := ⟨hown, hb2⟩; have hc2 : x2.cell? ⟨w.heap.size, 0, none⟩ = some (.slice a n cap) := (hb2.cell (Nat.lt_of_lt_of_le (lt_of_row hr) H1.out.size)).trans hc1; clear hown hgr hb2)
  clear hc1 hr HC HM
  go_loopw [8, 9, 10, 30] (fun v f i t wr => ∃ k : Nat, k ≤ n ∧ t = .int .i64 k ∧ f = .int .i64 (sumTo L k) ∧ i = .int .i64 ((q / 4 ^ k : Nat) : Int) ∧ Box (Walks x1 wr L q k v)) (fun _ _ _ t _ => n - (intOf t).toNat)
  case atStart => exact ⟨0, Nat.zero_le _, rfl, rfl, by simp, H2⟩
  case round =>
    obtain ⟨k, hk, rfl, rfl, rfl, HW⟩ := hrel
    clear H2 hc2
    by_cases hlt : k < n
    · obtain ⟨b1, o1, e1, _, c1⟩ := ((HI.out.below H1.out).below HW.out.2).2 (by omega)
      subst e1
      have d1 := c1 k hlt
      clear c1
      have hb := HS.out.any k
      have hs0 := HS.out.sum k
      have hq0 := HQ.out k hlt
      have hs : Box (sumTo L k + L.getD k 0 = sumTo L (k + 1)) := ⟨rfl⟩
      have ht := quart_tdiv (q / 4 ^ k)
      rw [← quart] at ht
      have hq3 : q / 4 ^ (k + 1) ≤ 1024 := by rw [quart]; omega
      have hp : Box (pth L q k ++ [sumTo L k + ((q / 4 ^ k : Nat) : Int)] = pth L q (k + 1)) := ⟨rfl⟩
      generalize sumTo L k = s at hs hs0 hp
      generalize L.getD k 0 = z at d1 hs hb
      generalize q / 4 ^ k = p at hq0 ht hp
      generalize hp1 : q / 4 ^ (k + 1) = p1 at ht hq3
      have HP : Box (q / 4 ^ (k + 1) = p1) := ⟨hp1⟩
      clear hp1
      go_wp2_with (at_builtin; refine wpList_iapp rfl (.tmp 34) (.tmp 38) rfl x1.heap.size k 1 1 _ (pth L q k) [s + (p : Int)] ⟨wr.heap.size, 0, none⟩ x1 rfl rfl (iown_later HW.out.1 (box_below _ _)) (ints_of_row (X := [s + (p : Int)]) (al_at rfl)) (by omega) (HW.out.2.alloc HW.out.2.size _) (Nat.le_trans HW.out.2.size (by simp)) ?_; intro v' w' H3; rw [hp.out] at H3; have H4 : Box (Walks x1 w' L q (k + 1) v') := ⟨H3.out.1, H3.out.2.1⟩; clear H3)
      go_roundw
      case rel => exact ⟨k + 1, by omega, by go_num, by rw [hs.out], by rw [HP.out], H4⟩
      case measure => simp [intOf]; omega
    · obtain rfl : k = n := by omega
      obtain ⟨a', cap', rfl⟩ := iown_form HW.out.1
      go_wp2
      go_ret2
      have hcp := iown_cap HW.out.1
      have hsx := (below_to HB.out H1.out).size
      have how := HW.out.1
      refine ⟨a', cap', rfl, iown_ints HW.out.1, below_to HB.out (below_to H1.out HW.out.2), hcp.1, hcp.2, fun ad e => ?_⟩
      subst e
      exact Nat.le_trans hsx (how.lt ad.block rfl).1
end Go.Proofs.YthbbijaikcmaeaaGreatDoor.Shap
