/-
  What above, ahead, Top, Items, Item, Level and Place of package shape answer, for every shape that may be.
-/
import Derived.Test.YtpdponcfgbceaaaH1
import Derived.Test.YtpdponcfgbceaaaI1
import Derived.Test.YtpdponcfgbceaaaRows
import Derived.WalkKit
namespace Go.Proofs.Ytpdponcfgbceaaa
set_option linter.unusedVariables false
open Go.RowKit Plain

/-- A shape's value: its one slice. -/
def sv (a : Option Addr) (n cap : Nat) : Value := .agg #[.slice a n cap]

set_option maxHeartbeats 400000 in
theorem above_any (m : Nat) (w : World) (h : m ≤ 1024) : Calls Try.prog 23 #[.int .i64 m] w fun e w' => e = .returned (.int .i64 (up m : Nat)) ∧ w = w' := by
  have hd : ((m : Int) + 4 - 1).tdiv 4 = ((up m : Nat) : Int) := by
    rw [Int.tdiv_eq_ediv_of_nonneg (by omega)]
    unfold up; omega
  have hu : up m ≤ 1024 := by unfold up; omega
  generalize up m = u at hd hu ⊢
  go_enter Try.func23, Try.ntmps23
  go_wp2
  go_ret
  exact ⟨rfl, rfl⟩

set_option maxHeartbeats 400000 in
theorem ahead_any (a : Option Addr) (n cap k : Nat) (L : List Int) (w : World) (hI : Ints w a n L) (hS : Shp L) (hk : k ≤ n) :
    Calls Try.prog 24 #[sv a n cap, .int .i64 k] w fun e w' => e = .returned (.int .i64 (sumTo L k)) ∧ Below w.heap.size w w' := by
  have hn : n ≤ 6 := by rw [← hI.1]; exact hS.hi
  have HI : Box (Ints (w.alloc (.cells #[.slice a n cap] 25)) a n L) := ⟨hI.below ((Below.refl _ _).alloc (Nat.le_refl _) _)⟩
  have HS : Box (Shp L) := ⟨hS⟩
  have HB : Box (Below w.heap.size w (w.alloc (.cells #[.slice a n cap] 25))) := ⟨(Below.refl _ _).alloc (Nat.le_refl _) _⟩
  have hc : (w.alloc (.cells #[.slice a n cap] 25)).cell? ⟨w.heap.size, 0, none⟩ = some (.slice a n cap) := by rw [cell_of_row _ _ _ _ _ _ (al_at rfl)]; rfl
  clear hI hS
  unfold sv
  go_enter Try.func24, Try.ntmps24
  go_upto_region 1 with fail
  generalize w.alloc (.cells #[.slice a n cap] 25) = x at HI HB hc ⊢
  go_wp2
  go_loop [5, 8] (fun s i => ∃ j : Nat, j ≤ k ∧ i = .int .i64 j ∧ s = .int .i64 (sumTo L j)) (fun _ i => k - (intOf i).toNat)
  case atStart => exact ⟨0, Nat.zero_le _, rfl, rfl⟩
  case round =>
    obtain ⟨j, hj, rfl, rfl⟩ := hrel
    by_cases hlt : j < k
    · obtain ⟨b1, o1, e1, _, c1⟩ := HI.out.2 (by omega)
      subst e1
      have d1 := c1 j (by omega)
      clear c1
      have hb := HS.out.any j
      have hs0 := HS.out.sum j
      have hs : Box (sumTo L j + L.getD j 0 = sumTo L (j + 1)) := ⟨rfl⟩
      generalize sumTo L j = s at hs hs0
      generalize L.getD j 0 = z at d1 hs hb
      go_wp2
      go_round
      case rel => exact ⟨j + 1, by omega, by go_num, by rw [hs.out]⟩
      case measure => simp [intOf]; omega
    · obtain rfl : j = k := by omega
      go_wp2
      go_ret
      exact ⟨rfl, HB.out⟩

theorem box_cell (w : World) (a : Option Addr) (n cap : Nat) : (w.alloc (.cells #[.slice a n cap] 25)).cell? ⟨w.heap.size, 0, none⟩ = some (.slice a n cap) := by rw [cell_of_row _ _ _ _ _ _ (al_at rfl)]; rfl
theorem box_below (w : World) (o : Obj) : Below w.heap.size w (w.alloc o) := (Below.refl _ _).alloc (Nat.le_refl _) _
theorem infoS : (Try.prog.info? 25).map (·.size) = some 1 := by kernel_rfl
/-- A shape loaded whole out of its box. -/
theorem wpList_ldS {ops : Array Oper} {rest : List Oper} {o : Oper} {act : Act} {w : World} {Q : Exit → Act → World → Prop} (hgd : o.guard = none) (x : Operand) (ho : o.op = .load 25 x) (S : Nat) (v : Value) (hx : act.eval x = .pointer (some ⟨S, 0, none⟩)) (hB : w.heap[S]? = some (.cells #[v] 25 (0, 0)))
    (h : wpList Try.prog ops Q rest (act.put o.dst (.agg #[v])) w) : wpList Try.prog ops Q (o :: rest) act w :=
  wpList_load_row hgd 25 x ho S hx _ _ _ _ hB Try.underlying25 rfl infoS h

set_option maxHeartbeats 400000 in
theorem top_any (a : Option Addr) (n cap : Nat) (w : World) (h1 : 2 ≤ n) (h2 : n ≤ 6) :
    Calls Try.prog 22 #[sv a n cap] w fun e w' => e = .returned (.int .i64 ((n - 1 : Nat) : Int)) ∧ Below w.heap.size w w' := by
  obtain ⟨m, rfl⟩ : ∃ m, n = m + 1 := ⟨n - 1, by omega⟩
  unfold sv
  go_enter Try.func22, Try.ntmps22
  go_wp2
  go_ret
  exact ⟨rfl, box_below _ _⟩

set_option maxHeartbeats 400000 in
theorem items_any (a : Option Addr) (n cap : Nat) (L : List Int) (w : World) (hI : Ints w a n L) (hS : Shp L) :
    Calls Try.prog 20 #[sv a n cap] w fun e w' => e = .returned (.int .i64 (sumTo L n)) ∧ Below w.heap.size w w' := by
  have HC : Box (Calls Try.prog 24 #[sv a n cap, .int .i64 n] (w.alloc (.cells #[.slice a n cap] 25)) fun e w' => e = .returned (.int .i64 (sumTo L n)) ∧ Below (w.alloc (.cells #[.slice a n cap] 25)).heap.size (w.alloc (.cells #[.slice a n cap] 25)) w') := ⟨ahead_any a n cap n L _ (hI.below (box_below _ _)) hS (Nat.le_refl _)⟩
  have hc := box_cell w a n cap
  have hr : (w.alloc (.cells #[.slice a n cap] 25)).heap[w.heap.size]? = some (.cells #[.slice a n cap] 25 (0, 0)) := al_at rfl
  have HB : Box (Below w.heap.size w (w.alloc (.cells #[.slice a n cap] 25))) := ⟨box_below _ _⟩
  clear hI hS
  unfold sv at HC ⊢
  go_enter Try.func20, Try.ntmps20
  go_upto_region 1 with fail
  generalize w.alloc (.cells #[.slice a n cap] 25) = x at HC HB hc hr ⊢
  go_wp2_with (first
    | (go_at_call 24; refine Calls.mono HC.out ?_; rintro e w' ⟨rfl, hb⟩)
    | (refine wpList_ldS rfl _ rfl _ _ rfl hr ?_))
  go_ret
  exact ⟨rfl, below_to HB.out hb⟩
end Go.Proofs.Ytpdponcfgbceaaa
