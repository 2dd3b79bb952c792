/-
  Shapes of trees in plain numbers: widths, sums of widths, paths; nothing of the program is said here. And what follows it.
-/
import Derived.Test.YthbbijaikcmaeaaGreatDoorX00
import Derived.Test.YthbbijaikcmaeaaGreatDoorProg
import Derived.WalkSpells
import Derived.WalkLawsBesides
import Derived.Laws.AppendOwn
import Derived.OwnWalk
import Derived.Maps.AppendAt
import Derived.Deep.Cut
import Derived.Test.YthbbijaikcmaeaaGreatDoorRows
import Derived.WalkKit
import Derived.BigFrame
import Derived.WalkMore
import Derived.Laws.ResultCell
import Derived.Laws.Tables
import Derived.Deep.OwnRows
namespace Go.Proofs.YthbbijaikcmaeaaGreatDoor.Shap.Plain
set_option maxRecDepth 100000
end Go.Proofs.YthbbijaikcmaeaaGreatDoor.Shap.Plain
namespace Go.Proofs.YthbbijaikcmaeaaGreatDoor.Shap.Plain
set_option maxRecDepth 100000
open Go.Proofs.YthbbijaikcmaeaaGreatDoor.Plain
set_option linter.unusedVariables false
set_option maxRecDepth 100000
open Go.RowKit
def up (n : Nat) : Nat := (n + 3) / 4
def ups : Nat → Nat → List Int
  | 0, _ => []
  | f + 1, n => if n ≤ 1 then [] else ((up n : Nat) : Int) :: ups f (up n)
def wid (n : Nat) : List Int := (n : Int) :: ((up n : Nat) : Int) :: ups 4 (up n)
theorem ups_end (f n : Nat) (h : n ≤ 1) : ups f n = [] := by
  cases f with
  | zero => rfl
  | succ f => simp [ups, h]
theorem ups_step (f n : Nat) (h : 1 < n) (hf : n ≤ 4 ^ f) : ∃ g, ups f n = ((up n : Nat) : Int) :: ups g (up n) ∧ up n ≤ 4 ^ g := by
  cases f with
  | zero => simp at hf; omega
  | succ f =>
    refine ⟨f, by simp [ups]; omega, ?_⟩
    rw [Nat.pow_succ] at hf
    unfold up
    omega
structure Shp (L : List Int) : Prop where
  lo : 2 ≤ L.length
  hi : L.length ≤ 6
  bd : ∀ i, i < L.length → 1 ≤ L.getD i 0 ∧ L.getD i 0 ≤ 1024
  st : ∀ i, i + 1 < L.length → L.getD (i + 1) 0 = (L.getD i 0 + 3) / 4
  one : ∀ i, 0 < i → i + 1 < L.length → L.getD i 0 ≠ 1
  top : L.getD (L.length - 1) 0 = 1
def shpB (L : List Int) : Bool :=
  decide (2 ≤ L.length) && decide (L.length ≤ 6) && (List.range L.length).all (fun i => decide (1 ≤ L.getD i 0) && decide (L.getD i 0 ≤ 1024)) &&
    (List.range L.length).all (fun i => !decide (i + 1 < L.length) || decide (L.getD (i + 1) 0 = (L.getD i 0 + 3) / 4)) &&
    (List.range L.length).all (fun i => !decide (0 < i) || !decide (i + 1 < L.length) || !decide (L.getD i 0 = 1)) && decide (L.getD (L.length - 1) 0 = 1)
theorem shp_of (L : List Int) (h : shpB L = true) : Shp L := by
  simp only [shpB, Bool.and_eq_true, Bool.or_eq_true, Bool.not_eq_true', List.all_eq_true, List.mem_range, decide_eq_true_eq, decide_eq_false_iff_not] at h
  obtain ⟨⟨⟨⟨⟨h1, h2⟩, h3⟩, h4⟩, h5⟩, h6⟩ := h
  refine ⟨h1, h2, h3, fun i hi => ?_, fun i h0 hi => ?_, h6⟩
  · rcases h4 i (by omega) with h | h
    · omega
    · exact h
  · rcases h5 i (by omega) with (h | h) | h
    · omega
    · omega
    · exact h
theorem all_shp : (List.range 1024).all (fun n => shpB (wid (n + 1))) = true := by decide +kernel
theorem shp_wid (n : Nat) (h1 : 1 ≤ n) (h2 : n ≤ 1024) : Shp (wid n) := by
  have h := List.all_eq_true.1 all_shp (n - 1) (List.mem_range.2 (by omega))
  rw [show n - 1 + 1 = n by omega] at h
  exact shp_of _ h
theorem wid_zero (n : Nat) : (wid n).getD 0 0 = (n : Int) := rfl
theorem Shp.any {L : List Int} (h : Shp L) (i : Nat) : 0 ≤ L.getD i 0 ∧ L.getD i 0 ≤ 1024 := by
  by_cases hi : i < L.length
  · have := h.bd i hi; omega
  · rw [getD_high0 L i (by omega)]; omega
theorem Shp.sum {L : List Int} (h : Shp L) (k : Nat) : 0 ≤ sumTo L k ∧ sumTo L k ≤ 1024 * (k : Int) := by
  induction k with
  | zero => simp [sumTo]
  | succ k ih =>
    have := h.any k
    rw [sumTo]
    omega
theorem Shp.mono {L : List Int} (h : Shp L) (j k : Nat) (hk : j ≤ k) : sumTo L j ≤ sumTo L k := by
  induction k with
  | zero => rw [Nat.le_zero.1 hk]; exact Int.le_refl _
  | succ k ih =>
    by_cases e : j = k + 1
    · rw [e]; exact Int.le_refl _
    · have := ih (by omega)
      have := h.any k
      rw [sumTo]; omega
def pth (L : List Int) (q : Nat) : Nat → List Int
  | 0 => []
  | k + 1 => pth L q k ++ [sumTo L k + ((q / 4 ^ k : Nat) : Int)]
theorem length_pth (L : List Int) (q k : Nat) : (pth L q k).length = k := by
  induction k with
  | zero => rfl
  | succ k ih => simp [pth, ih]
theorem pth_get (L : List Int) (q n k : Nat) (h : k < n) : (pth L q n).getD k 0 = sumTo L k + ((q / 4 ^ k : Nat) : Int) := by
  induction n with
  | zero => omega
  | succ n ih =>
    rw [pth, getD_app, length_pth]
    by_cases e : k < n
    · rw [if_pos e, ih e]
    · obtain rfl : k = n := by omega
      rw [if_neg e]
      simp
theorem quart (q k : Nat) : q / 4 ^ (k + 1) = q / 4 ^ k / 4 := by rw [Nat.pow_succ, Nat.div_div_eq_div_mul]
theorem Shp.quart_lt {L : List Int} (h : Shp L) (q : Nat) (hq : (q : Int) < L.getD 0 0) (k : Nat) (hk : k < L.length) : ((q / 4 ^ k : Nat) : Int) < L.getD k 0 := by
  induction k with
  | zero => simpa using hq
  | succ k ih =>
    have := ih (by omega)
    have := h.st k hk
    rw [quart]
    omega
theorem Shp.quart_top {L : List Int} (h : Shp L) (q : Nat) (hq : (q : Int) < L.getD 0 0) : q / 4 ^ (L.length - 1) = 0 := by
  have := h.quart_lt q hq (L.length - 1) (by have := h.lo; omega)
  rw [h.top] at this
  generalize q / 4 ^ (L.length - 1) = z at this ⊢
  omega
end Go.Proofs.YthbbijaikcmaeaaGreatDoor.Shap.Plain
namespace Go.Proofs.YthbbijaikcmaeaaGreatDoor.Shap.Plain
set_option maxRecDepth 100000
end Go.Proofs.YthbbijaikcmaeaaGreatDoor.Shap.Plain
namespace Go.Proofs.YthbbijaikcmaeaaGreatDoor.Shap
set_option maxRecDepth 100000
set_option linter.unusedVariables false
open Go.RowKit Go.Proofs.YthbbijaikcmaeaaGreatDoor.Plain Go.Proofs.YthbbijaikcmaeaaGreatDoor.Shap.Plain
def Ints (w : World) (a : Option Addr) (len : Nat) (L : List Int) : Prop :=
  L.length = len ∧ (0 < len → ∃ b off, a = some ⟨b, off, none⟩ ∧ b < w.heap.size ∧ ∀ i, i < len → w.cell? ⟨b, off + i, none⟩ = some (.int .i64 (L.getD i 0)))
theorem Ints.below {w w' : World} {a : Option Addr} {len : Nat} {L : List Int} (h : Ints w a len L) (hb : Below w.heap.size w w') : Ints w' a len L := by
  refine ⟨h.1, fun hp => ?_⟩
  obtain ⟨b, off, e, hlt, hc⟩ := h.2 hp
  exact ⟨b, off, e, Nat.lt_of_lt_of_le hlt hb.size, fun i hi => (hb.cell hlt).trans (hc i hi)⟩
theorem Ints.cell {w : World} {b off len : Nat} {L : List Int} (h : Ints w (some ⟨b, off, none⟩) len L) (i : Nat) (hi : i < len) : w.cell? ⟨b, off + i, none⟩ = some (.int .i64 (L.getD i 0)) := by
  obtain ⟨b', off', he, _, hc⟩ := h.2 (by omega)
  simp only [Option.some.injEq, Addr.mk.injEq, and_true] at he
  obtain ⟨rfl, rfl⟩ := he
  exact hc i hi
theorem ints_of_row {w : World} {g : Nat} {X : List Int} {t : TypeId} {fr : Nat × Nat} (hg : w.heap[g]? = some (.cells (i64s X) t fr)) : Ints w (some ⟨g, 0, none⟩) X.length X :=
  ⟨rfl, fun _ => ⟨g, 0, rfl, (Array.getElem?_eq_some_iff.1 hg).1, fun i hi => by rw [Nat.zero_add]; exact i64_cell w g i X t fr hg hi⟩⟩
theorem iown_later {w w' : World} {base n : Nat} {v : Value} {xs : List Value} (h : w.ownsRow base 3 1 v n xs) (hb : Below w.heap.size w w') : w'.ownsRow base 3 1 v n xs := by
  refine ⟨h.1, ?_⟩
  rcases h.2 with h3 | ⟨g, cap', cur, h3, hb', hh, r⟩
  · exact .inl h3
  · exact .inr ⟨g, cap', cur, h3, hb', by rw [hb.block g (Array.getElem?_eq_some_iff.1 hh).1]; exact hh, r⟩
theorem iown_form {w : World} {base n : Nat} {v : Value} {xs : List Value} (h : w.ownsRow base 3 1 v n xs) : ∃ a cap, v = .slice a n cap := by
  rcases h.2 with ⟨rfl, rfl⟩ | ⟨g, cap', cur, rfl, _⟩
  · exact ⟨_, _, rfl⟩
  · exact ⟨_, _, rfl⟩
theorem iown_cap {w : World} {base n cap : Nat} {a : Option Addr} {xs : List Value} (h : w.ownsRow base 3 1 (.slice a n cap) n xs) : n ≤ cap ∧ cap ≤ maxLen := by
  rcases h.2 with ⟨h1, h2⟩ | ⟨g, cap', cur, h1, _, _, h2, h3, _⟩
  · simp only [Value.slice.injEq] at h1
    obtain ⟨_, rfl, rfl⟩ := h1
    exact ⟨Nat.le_refl _, Nat.zero_le _⟩
  · simp only [Value.slice.injEq, true_and] at h1
    obtain ⟨_, rfl⟩ := h1
    exact ⟨h2, h3⟩
theorem iown_ints {w : World} {base n cap : Nat} {a : Option Addr} {L : List Int} (h : w.ownsRow base 3 1 (.slice a n cap) n (L.map (Value.int .i64))) : Ints w a n L := by
  have hn : L.length = n := by simpa using h.1
  refine ⟨hn, fun hp => ?_⟩
  rcases h.2 with ⟨_, h3⟩ | ⟨g, cap', cur, h3, _, hh, _, _, _, _⟩
  · omega
  · simp only [Value.slice.injEq, true_and] at h3
    obtain ⟨rfl, rfl⟩ := h3
    refine ⟨g, 0, rfl, (Array.getElem?_eq_some_iff.1 hh).1, fun i hi => ?_⟩
    rw [Nat.zero_add, h.cellAt i (by omega)]
    have hi' : i < L.length := by rw [hn]; exact hi
    simp [hi']
theorem Ints.news {w : World} {ad : Addr} {len : Nat} {L : List Int} (h : Ints w (some ad) len L) : ∀ j u, (L.map (Value.int .i64))[j]? = some u → w.cell? (ad.add j) = some u := by
  intro j u hj
  have hlt : j < L.length := by simpa using (List.getElem?_eq_some_iff.1 hj).1
  obtain ⟨b, off, he, _, hc⟩ := h.2 (by rw [← h.1]; omega)
  simp only [Option.some.injEq] at he
  subst he
  rw [Addr.add_lit, hc j (by rw [← h.1]; exact hlt), ← hj]
  simp [hlt]
theorem infoI : (Tryz.prog.info? 3).map (fun i => (i.zero, i.size, i.bytes)) = some (some (.int .i64 0), 1, 8) := by kernel_rfl
theorem wpList_iapp {ops : Array Oper} {rest : List Oper} {o : Oper} {act : Act} {w : World} {Q : Exit → Act → World → Prop} (hgd : o.guard = none) (s x : Operand)
    (ho : o.op = .call { callee := .builtin .append, args := #[s, x], argTypes := #[50, 50] }) (base n m c : Nat) (v : Value) (A L : List Int) (ad : Addr) (w0 : World)
    (hs : act.eval s = v) (hx : act.eval x = .slice (some ad) m c) (hown : w.ownsRow base 3 1 v n (A.map (Value.int .i64))) (hb : Ints w (some ad) m L) (hl : n + m ≤ 17592186044416) (hbel : Below base w0 w) (hbase : base ≤ w.heap.size)
    (h : ∀ v' w', Box (w'.ownsRow base 3 1 v' (n + m) ((A ++ L).map (Value.int .i64)) ∧ Below base w0 w' ∧ base ≤ w'.heap.size) → wpList Tryz.prog ops Q rest (act.put o.dst v') w') : wpList Tryz.prog ops Q (o :: rest) act w := by
  obtain ⟨i0, hi, hz0, hz1, hz2⟩ := info_parts infoI
  refine wpList_append_own w hgd s x 50 ho base 3 i0 (.int .i64 0) 1 8 Tryz.underlying50 hi hz0 hz1 hz2 rfl (by decide) v n _ hs hown ad m c (L.map (Value.int .i64)) hx (by simp [hb.1]) hb.news (ints_oneCell _ _) (by unfold maxLen; omega) (by omega) hbase ?_
  intro v' w' h1 h2 _
  have := h2.size
  exact h v' w' ⟨by rw [List.map_append]; exact h1, hbel.grown h2 hbase (fun k hk => (hown.lt k hk).1), by omega⟩
theorem iown_new {w : World} {X : List Int} {n : Nat} (hX : X.length = n) (hn : n ≤ maxLen) (base : Nat) (hb : base ≤ w.heap.size) : (w.alloc (.cells (i64s X) 3)).ownsRow base 3 1 (.slice (some ⟨w.heap.size, 0, none⟩) n n) n (X.map (Value.int .i64)) :=
  ⟨by simp [hX], .inr ⟨w.heap.size, n, _, rfl, hb, al_at rfl, Nat.le_refl _, hn, by simp [i64s, hX], by simp [i64s]; exact List.take_of_length_le (by simp [hX])⟩⟩
end Go.Proofs.YthbbijaikcmaeaaGreatDoor.Shap
namespace Go.Proofs.YthbbijaikcmaeaaGreatDoor.Shap.Plain
set_option maxRecDepth 100000
end Go.Proofs.YthbbijaikcmaeaaGreatDoor.Shap.Plain
namespace Go.Proofs.YthbbijaikcmaeaaGreatDoor.Shap
set_option maxRecDepth 100000
set_option linter.unusedVariables false
open Go.RowKit Go.Proofs.YthbbijaikcmaeaaGreatDoor.Plain Go.Proofs.YthbbijaikcmaeaaGreatDoor.Shap.Plain
def sv (a : Option Addr) (n cap : Nat) : Value := .agg #[.slice a n cap]
set_option maxHeartbeats 400000 in
theorem above_any (m : Nat) (w : World) (h : m ≤ 1024) : Calls Tryz.prog 45 #[.int .i64 m] w fun e w' => e = .returned (.int .i64 (up m : Nat)) ∧ w = w' := by
  have hd : ((m : Int) + 4 - 1).tdiv 4 = ((up m : Nat) : Int) := by
    rw [Int.tdiv_eq_ediv_of_nonneg (by omega)]
    unfold up; omega
  have hu : up m ≤ 1024 := by unfold up; omega
  generalize up m = u at hd hu ⊢
  go_enter Tryz.func45, Tryz.ntmps45
  go_wp2
  go_ret
  exact ⟨rfl, rfl⟩
set_option maxHeartbeats 400000 in
theorem ahead_any (a : Option Addr) (n cap k : Nat) (L : List Int) (w : World) (hI : Ints w a n L) (hS : Shp L) (hk : k ≤ n) :
    Calls Tryz.prog 71 #[sv a n cap, .int .i64 k] w fun e w' => e = .returned (.int .i64 (sumTo L k)) ∧ Below w.heap.size w w' := by
  have hn : n ≤ 6 := by rw [← hI.1]; exact hS.hi
  have HI : Box (Ints (w.alloc (.cells #[.slice a n cap] 74)) a n L) := ⟨hI.below ((Below.refl _ _).alloc (Nat.le_refl _) _)⟩
  have HS : Box (Shp L) := ⟨hS⟩
  have HB : Box (Below w.heap.size w (w.alloc (.cells #[.slice a n cap] 74))) := ⟨(Below.refl _ _).alloc (Nat.le_refl _) _⟩
  have hc : (w.alloc (.cells #[.slice a n cap] 74)).cell? ⟨w.heap.size, 0, none⟩ = some (.slice a n cap) := by rw [cell_of_row _ _ _ _ _ _ (al_at rfl)]; rfl
  clear hI hS
  unfold sv
  go_enter Tryz.func71, Tryz.ntmps71
  go_upto_region 1 with fail
  generalize w.alloc (.cells #[.slice a n cap] 74) = x at HI HB hc ⊢
  go_wp2
  go_loop [5, 8] (fun s i => ∃ j : Nat, j ≤ k ∧ i = .int .i64 j ∧ s = .int .i64 (sumTo L j)) (fun _ i => k - (intOf i).toNat)
  case atStart => exact ⟨0, Nat.zero_le _, rfl, rfl⟩
  case round =>
    obtain ⟨j, hj, rfl, rfl⟩ := hrel
    by_cases hlt : j < k
    · obtain ⟨b1, o1, e1, _, c1⟩ := HI.out.2 (by omega)
      subst e1
      have d1 := c1 j (by omega)
      clear c1
      have hb := HS.out.any j
      have hs0 := HS.out.sum j
      have hs : Box (sumTo L j + L.getD j 0 = sumTo L (j + 1)) := ⟨rfl⟩
      generalize sumTo L j = s at hs hs0
      generalize L.getD j 0 = z at d1 hs hb
      go_wp2
      go_round
      case rel => exact ⟨j + 1, by omega, by go_num, by rw [hs.out]⟩
      case measure => simp [intOf]; omega
    · obtain rfl : j = k := by omega
      go_wp2
      go_ret
      exact ⟨rfl, HB.out⟩
theorem box_cell (w : World) (a : Option Addr) (n cap : Nat) : (w.alloc (.cells #[.slice a n cap] 74)).cell? ⟨w.heap.size, 0, none⟩ = some (.slice a n cap) := by rw [cell_of_row _ _ _ _ _ _ (al_at rfl)]; rfl
theorem box_below (w : World) (o : Obj) : Below w.heap.size w (w.alloc o) := (Below.refl _ _).alloc (Nat.le_refl _) _
theorem infoS : (Tryz.prog.info? 74).map (·.size) = some 1 := by kernel_rfl
theorem wpList_ldS {ops : Array Oper} {rest : List Oper} {o : Oper} {act : Act} {w : World} {Q : Exit → Act → World → Prop} (hgd : o.guard = none) (x : Operand) (ho : o.op = .load 74 x) (S : Nat) (v : Value) (hx : act.eval x = .pointer (some ⟨S, 0, none⟩)) (hB : w.heap[S]? = some (.cells #[v] 74 (0, 0)))
    (h : wpList Tryz.prog ops Q rest (act.put o.dst (.agg #[v])) w) : wpList Tryz.prog ops Q (o :: rest) act w :=
  wpList_load_row hgd 74 x ho S hx _ _ _ _ hB Tryz.underlying74 rfl infoS h
set_option maxHeartbeats 400000 in
theorem top_any (a : Option Addr) (n cap : Nat) (w : World) (h1 : 2 ≤ n) (h2 : n ≤ 6) :
    Calls Tryz.prog 75 #[sv a n cap] w fun e w' => e = .returned (.int .i64 ((n - 1 : Nat) : Int)) ∧ Below w.heap.size w w' := by
  obtain ⟨m, rfl⟩ : ∃ m, n = m + 1 := ⟨n - 1, by omega⟩
  unfold sv
  go_enter Tryz.func75, Tryz.ntmps75
  go_wp2
  go_ret
  exact ⟨rfl, box_below _ _⟩
set_option maxHeartbeats 400000 in
theorem items_any (a : Option Addr) (n cap : Nat) (L : List Int) (w : World) (hI : Ints w a n L) (hS : Shp L) :
    Calls Tryz.prog 46 #[sv a n cap] w fun e w' => e = .returned (.int .i64 (sumTo L n)) ∧ Below w.heap.size w w' := by
  have HC : Box (Calls Tryz.prog 71 #[sv a n cap, .int .i64 n] (w.alloc (.cells #[.slice a n cap] 74)) fun e w' => e = .returned (.int .i64 (sumTo L n)) ∧ Below (w.alloc (.cells #[.slice a n cap] 74)).heap.size (w.alloc (.cells #[.slice a n cap] 74)) w') := ⟨ahead_any a n cap n L _ (hI.below (box_below _ _)) hS (Nat.le_refl _)⟩
  have hc := box_cell w a n cap
  have hr : (w.alloc (.cells #[.slice a n cap] 74)).heap[w.heap.size]? = some (.cells #[.slice a n cap] 74 (0, 0)) := al_at rfl
  have HB : Box (Below w.heap.size w (w.alloc (.cells #[.slice a n cap] 74))) := ⟨box_below _ _⟩
  clear hI hS
  unfold sv at HC ⊢
  go_enter Tryz.func46, Tryz.ntmps46
  go_upto_region 1 with fail
  generalize w.alloc (.cells #[.slice a n cap] 74) = x at HC HB hc hr ⊢
  go_wp2_with (first
    | (go_at_call 71; refine Calls.mono HC.out ?_; rintro e w' ⟨rfl, hb⟩)
    | (refine wpList_ldS rfl _ rfl _ _ rfl hr ?_))
  go_ret
  exact ⟨rfl, below_to HB.out hb⟩
end Go.Proofs.YthbbijaikcmaeaaGreatDoor.Shap
namespace Go.Proofs.YthbbijaikcmaeaaGreatDoor.Shap.Plain
set_option maxRecDepth 100000
end Go.Proofs.YthbbijaikcmaeaaGreatDoor.Shap.Plain
namespace Go.Proofs.YthbbijaikcmaeaaGreatDoor.Shap
set_option maxRecDepth 100000
set_option linter.unusedVariables false
open Go.RowKit Go.Proofs.YthbbijaikcmaeaaGreatDoor.Plain Go.Proofs.YthbbijaikcmaeaaGreatDoor.Shap.Plain
theorem wpList_ldSw {ops : Array Oper} {rest : List Oper} {o : Oper} {act : Act} {w : World} {Q : Exit → Act → World → Prop} (x : Operand) (ho : o.op = .load 74 x) (S : Nat) (v : Value) (hx : act.eval x = .pointer (some ⟨S, 0, none⟩)) (hB : w.heap[S]? = some (.cells #[v] 74 (0, 0))) (hw : Region.wanted o (yielded ops act.tmps) = true)
    (h : wpList Tryz.prog ops Q rest (act.put o.dst (.agg #[v])) w) : wpList Tryz.prog ops Q (o :: rest) act w :=
  BigFrame.wpList_want hw fun _ hK => wp_load_row 74 x ho S hx _ _ _ _ hB Tryz.underlying74 rfl infoS (hK _ _ h)
def Itm (L : List Int) (n : Nat) (level i x y : Int) : Prop :=
  (∃ l : Nat, level = (l : Int) ∧ l < n ∧ 0 ≤ i ∧ i < L.getD l 0 ∧ x = sumTo L l + i ∧ y = 0) ∨
  ((level < 0 ∨ (n : Int) ≤ level ∨ i < 0 ∨ ∃ l : Nat, level = (l : Int) ∧ l < n ∧ 0 ≤ i ∧ L.getD l 0 ≤ i) ∧ x = 0 ∧ y = 12)
set_option maxHeartbeats 1000000 in
theorem item_ok (a : Option Addr) (n cap l : Nat) (i : Int) (L : List Int) (w : World) (hI : Ints w a n L) (hS : Shp L) (hl : l < n) (hi : 0 ≤ i) (hL : i < L.getD l 0) :
    Calls Tryz.prog 84 #[sv a n cap, .int .i64 l, .int .i64 i] w fun e w' => e = .returned (.tuple #[.int .i64 (sumTo L l + i), .int .i64 0]) ∧ Below w.heap.size w w' := by
  have hn : n ≤ 6 := by rw [← hI.1]; exact hS.hi
  have HC : Box (Calls Tryz.prog 71 #[sv a n cap, .int .i64 l] (w.alloc (.cells #[.slice a n cap] 74)) fun e w' => e = .returned (.int .i64 (sumTo L l)) ∧ Below (w.alloc (.cells #[.slice a n cap] 74)).heap.size (w.alloc (.cells #[.slice a n cap] 74)) w') := ⟨ahead_any a n cap l L _ (hI.below (box_below _ _)) hS (by omega)⟩
  have hc := box_cell w a n cap
  have hr : (w.alloc (.cells #[.slice a n cap] 74)).heap[w.heap.size]? = some (.cells #[.slice a n cap] 74 (0, 0)) := al_at rfl
  have HB : Box (Below w.heap.size w (w.alloc (.cells #[.slice a n cap] 74))) := ⟨box_below _ _⟩
  have hI2 := hI.below (box_below w (.cells #[.slice a n cap] 74))
  obtain ⟨b1, o1, e1, _, c1⟩ := hI2.2 (by omega)
  subst e1
  have d1 := c1 l hl
  have h3 := hS.sum l
  have h4 := hS.any l
  clear hI hI2 hS c1
  generalize L.getD l 0 = z at d1 hL h4
  generalize sumTo L l = s at HC h3 ⊢
  unfold sv at HC ⊢
  go_enter Tryz.func84, Tryz.ntmps84
  go_upto_region 1 with fail
  generalize w.alloc (.cells #[.slice (some ⟨b1, o1, none⟩) n cap] 74) = x at HC HB hc hr d1 ⊢
  go_wp2_with (first
    | (go_at_call 71; refine Calls.mono HC.out ?_; rintro e w' ⟨rfl, hb⟩)
    | (refine wpList_ldS rfl _ rfl _ _ rfl hr ?_))
  go_ret2
  exact ⟨rfl, below_to HB.out hb⟩
set_option maxHeartbeats 1000000 in
theorem item_no (a : Option Addr) (n cap : Nat) (level i : Int) (L : List Int) (w : World) (hI : Ints w a n L) (hS : Shp L)
    (h : level < 0 ∨ (n : Int) ≤ level ∨ i < 0 ∨ ∃ l : Nat, level = (l : Int) ∧ l < n ∧ 0 ≤ i ∧ L.getD l 0 ≤ i) :
    Calls Tryz.prog 84 #[sv a n cap, .int .i64 level, .int .i64 i] w fun e w' => e = .returned (.tuple #[.int .i64 0, .int .i64 12]) ∧ Below w.heap.size w w' := by
  have hc := box_cell w a n cap
  have HB : Box (Below w.heap.size w (w.alloc (.cells #[.slice a n cap] 74))) := ⟨box_below _ _⟩
  have hI2 := hI.below (box_below w (.cells #[.slice a n cap] 74))
  unfold sv
  by_cases h1 : level < 0
  · clear h hI hI2 hS
    go_enter Tryz.func84, Tryz.ntmps84
    go_upto_region 1 with fail
    generalize w.alloc (.cells #[.slice a n cap] 74) = x at HB hc ⊢
    go_wp2
    go_ret2
    exact ⟨rfl, HB.out⟩
  by_cases h2 : (n : Int) ≤ level
  · clear h hI hI2 hS
    go_enter Tryz.func84, Tryz.ntmps84
    go_upto_region 1 with fail
    generalize w.alloc (.cells #[.slice a n cap] 74) = x at HB hc ⊢
    go_wp2
    go_ret2
    exact ⟨rfl, HB.out⟩
  by_cases h3 : i < 0
  · clear h hI hI2 hS
    go_enter Tryz.func84, Tryz.ntmps84
    go_upto_region 1 with fail
    generalize w.alloc (.cells #[.slice a n cap] 74) = x at HB hc ⊢
    go_wp2
    go_ret2
    exact ⟨rfl, HB.out⟩
  obtain ⟨l, rfl, hl, _, hz⟩ : ∃ l : Nat, level = (l : Int) ∧ l < n ∧ 0 ≤ i ∧ L.getD l 0 ≤ i := by
    rcases h with h | h | h | h
    · omega
    · omega
    · omega
    · exact h
  obtain ⟨b1, o1, e1, _, c1⟩ := hI2.2 (by omega)
  subst e1
  have d1 := c1 l hl
  clear h hI hI2 hS c1 h1
  generalize L.getD l 0 = z at d1 hz
  go_enter Tryz.func84, Tryz.ntmps84
  go_upto_region 1 with fail
  generalize w.alloc (.cells #[.slice (some ⟨b1, o1, none⟩) n cap] 74) = x at HB hc d1 ⊢
  go_wp2
  go_ret2
  exact ⟨rfl, HB.out⟩
theorem item_any (a : Option Addr) (n cap : Nat) (level i x y : Int) (L : List Int) (w : World) (hI : Ints w a n L) (hS : Shp L) (h : Itm L n level i x y) :
    Calls Tryz.prog 84 #[sv a n cap, .int .i64 level, .int .i64 i] w fun e w' => e = .returned (.tuple #[.int .i64 x, .int .i64 y]) ∧ Below w.heap.size w w' := by
  rcases h with ⟨l, rfl, hl, hi, hL, rfl, rfl⟩ | ⟨h, rfl, rfl⟩
  · exact item_ok a n cap l i L w hI hS hl hi hL
  · exact item_no a n cap level i L w hI hS h
def Plc (L : List Int) (n : Nat) (item side x y : Int) : Prop :=
  (0 ≤ item ∧ item < sumTo L n ∧ 0 ≤ side ∧ side ≤ 1 ∧ x = 2 * item + side ∧ y = 0) ∨ ((item < 0 ∨ sumTo L n ≤ item ∨ side < 0 ∨ 1 < side) ∧ x = 0 ∧ y = 12)
set_option maxHeartbeats 1000000 in
theorem place_any (a : Option Addr) (n cap : Nat) (item side x y : Int) (L : List Int) (w : World) (hI : Ints w a n L) (hS : Shp L) (h : Plc L n item side x y) :
    Calls Tryz.prog 76 #[sv a n cap, .int .i64 item, .int .i64 side] w fun e w' => e = .returned (.tuple #[.int .i64 x, .int .i64 y]) ∧ Below w.heap.size w w' := by
  have hn : n ≤ 6 := by rw [← hI.1]; exact hS.hi
  have HC : Box (Calls Tryz.prog 46 #[sv a n cap] (w.alloc (.cells #[.slice a n cap] 74)) fun e w' => e = .returned (.int .i64 (sumTo L n)) ∧ Below (w.alloc (.cells #[.slice a n cap] 74)).heap.size (w.alloc (.cells #[.slice a n cap] 74)) w') := ⟨items_any a n cap L _ (hI.below (box_below _ _)) hS⟩
  have hc := box_cell w a n cap
  have hr : (w.alloc (.cells #[.slice a n cap] 74)).heap[w.heap.size]? = some (.cells #[.slice a n cap] 74 (0, 0)) := al_at rfl
  have HB : Box (Below w.heap.size w (w.alloc (.cells #[.slice a n cap] 74))) := ⟨box_below _ _⟩
  have h3 := hS.sum n
  unfold Plc at h
  clear hI hS
  generalize sumTo L n = s at HC h3 h
  unfold sv at HC ⊢
  by_cases h1 : item < 0
  · obtain ⟨rfl, rfl⟩ : x = 0 ∧ y = 12 := by omega
    clear h
    go_enter Tryz.func76, Tryz.ntmps76
    go_wp2
    go_ret2
    exact ⟨rfl, HB.out⟩
  by_cases h2 : s ≤ item
  · obtain ⟨rfl, rfl⟩ : x = 0 ∧ y = 12 := by omega
    clear h
    go_enter Tryz.func76, Tryz.ntmps76
    go_upto_region 1 with fail
    generalize w.alloc (.cells #[.slice a n cap] 74) = x at HC HB hc hr ⊢
    go_wp2_with (first
      | (go_at_call 46; refine Calls.mono HC.out ?_; rintro e w' ⟨rfl, hb⟩)
      | (refine wpList_ldSw _ rfl _ _ rfl hr rfl ?_))
    go_ret2
    exact ⟨rfl, below_to HB.out hb⟩
  by_cases h4 : side < 0
  · obtain ⟨rfl, rfl⟩ : x = 0 ∧ y = 12 := by omega
    clear h
    go_enter Tryz.func76, Tryz.ntmps76
    go_upto_region 1 with fail
    generalize w.alloc (.cells #[.slice a n cap] 74) = x at HC HB hc hr ⊢
    go_wp2_with (first
      | (go_at_call 46; refine Calls.mono HC.out ?_; rintro e w' ⟨rfl, hb⟩)
      | (refine wpList_ldSw _ rfl _ _ rfl hr rfl ?_))
    go_ret2
    exact ⟨rfl, below_to HB.out hb⟩
  by_cases h5 : 1 < side
  · obtain ⟨rfl, rfl⟩ : x = 0 ∧ y = 12 := by omega
    clear h
    go_enter Tryz.func76, Tryz.ntmps76
    go_upto_region 1 with fail
    generalize w.alloc (.cells #[.slice a n cap] 74) = x at HC HB hc hr ⊢
    go_wp2_with (first
      | (go_at_call 46; refine Calls.mono HC.out ?_; rintro e w' ⟨rfl, hb⟩)
      | (refine wpList_ldSw _ rfl _ _ rfl hr rfl ?_))
    go_ret2
    exact ⟨rfl, below_to HB.out hb⟩
  obtain ⟨rfl, rfl⟩ : x = 2 * item + side ∧ y = 0 := by omega
  clear h
  go_enter Tryz.func76, Tryz.ntmps76
  go_upto_region 1 with fail
  generalize w.alloc (.cells #[.slice a n cap] 74) = x at HC HB hc hr ⊢
  go_wp2_with (first
    | (go_at_call 46; refine Calls.mono HC.out ?_; rintro e w' ⟨rfl, hb⟩)
    | (refine wpList_ldSw _ rfl _ _ rfl hr rfl ?_))
  go_ret2
  exact ⟨rfl, below_to HB.out hb⟩
def Lvl (L : List Int) (n : Nat) (item x y z : Int) : Prop :=
  (∃ l : Nat, l < n ∧ sumTo L l ≤ item ∧ item < sumTo L (l + 1) ∧ x = (l : Int) ∧ y = item - sumTo L l ∧ z = 0) ∨ ((item < 0 ∨ sumTo L n ≤ item) ∧ x = 0 ∧ y = 0 ∧ z = 12)
set_option maxHeartbeats 1000000 in
theorem level_ok (a : Option Addr) (n cap l : Nat) (item : Int) (L : List Int) (w : World) (hI : Ints w a n L) (hS : Shp L) (hl : l < n) (h1 : sumTo L l ≤ item) (h2 : item < sumTo L (l + 1)) :
    Calls Tryz.prog 83 #[sv a n cap, .int .i64 item] w fun e w' => e = .returned (.tuple #[.int .i64 l, .int .i64 (item - sumTo L l), .int .i64 0]) ∧ Below w.heap.size w w' := by
  have hn : n ≤ 6 := by rw [← hI.1]; exact hS.hi
  have hc := box_cell w a n cap
  have HB : Box (Below w.heap.size w (w.alloc (.cells #[.slice a n cap] 74))) := ⟨box_below _ _⟩
  have hI2 := hI.below (box_below w (.cells #[.slice a n cap] 74))
  obtain ⟨b1, o1, e1, _, c1⟩ := hI2.2 (by omega)
  subst e1
  have HI : Box (Ints (w.alloc (.cells #[.slice (some ⟨b1, o1, none⟩) n cap] 74)) (some ⟨b1, o1, none⟩) n L) := ⟨hI2⟩
  have HS : Box (Shp L) := ⟨hS⟩
  have HE : Box (sumTo L l ≤ item ∧ item < sumTo L (l + 1)) := ⟨h1, h2⟩
  clear hI hI2 hS c1 h1 h2
  unfold sv
  go_enter Tryz.func83, Tryz.ntmps83
  go_wp2
  go_step3
  go_upto_region 1 with fail
  generalize w.alloc (.cells #[.slice (some ⟨b1, o1, none⟩) n cap] 74) = x at HI HB hc ⊢
  go_wp2
  go_step3
  go_wp2
  go_loop [7, 14] (fun i t => ∃ k : Nat, k ≤ l ∧ t = .int .i64 k ∧ i = .int .i64 (item - sumTo L k)) (fun _ t => l - (intOf t).toNat)
  case atStart => exact ⟨0, Nat.zero_le _, rfl, by simp [sumTo]⟩
  case round =>
    obtain ⟨k, hk, rfl, rfl⟩ := hrel
    have hm := HS.out.mono k l hk
    have hs0 := HS.out.sum k
    have hs1 := HS.out.sum (l + 1)
    have d1 := HI.out.cell k (by omega)
    have hz := HS.out.any k
    obtain ⟨HE1, HE2⟩ := HE.out
    by_cases hlt : k < l
    · have hm2 := HS.out.mono (k + 1) l hlt
      have hs : Box (item - sumTo L k - L.getD k 0 = item - sumTo L (k + 1)) := ⟨by rw [sumTo]; omega⟩
      rw [sumTo] at hm2
      have g1 : ¬ item - sumTo L k < 0 := by omega
      have g2 : ¬ item - sumTo L k < L.getD k 0 := by omega
      have g3 : 0 ≤ item - sumTo L k ∧ item - sumTo L k ≤ 10000 := by omega
      clear hm hs0 hs1 hm2 HE1 HE2
      generalize item - sumTo L k = s at hs g1 g2 g3
      generalize L.getD k 0 = z at d1 hs hz g2
      go_wp2
      go_round
      case rel => exact ⟨k + 1, by omega, by go_num, by rw [hs.out]⟩
      case measure => simp [intOf]; omega
    · obtain rfl : k = l := by omega
      rw [sumTo] at HE2
      have g1 : ¬ item - sumTo L k < 0 := by omega
      have g2 : item - sumTo L k < L.getD k 0 := by omega
      clear hm hs0 hs1 HE1 HE2 HE
      generalize hq : item - sumTo L k = s at g1 g2
      have HQ : Box (item - sumTo L k = s) := ⟨hq⟩
      clear hq
      generalize L.getD k 0 = z at d1 hz g2
      go_wp2
      go_ret3
      exact ⟨by rw [HQ.out]; rfl, HB.out⟩
set_option maxHeartbeats 1000000 in
theorem level_low (a : Option Addr) (n cap : Nat) (item : Int) (L : List Int) (w : World) (hI : Ints w a n L) (hS : Shp L) (h : item < 0) :
    Calls Tryz.prog 83 #[sv a n cap, .int .i64 item] w fun e w' => e = .returned (.tuple #[.int .i64 0, .int .i64 0, .int .i64 12]) ∧ Below w.heap.size w w' := by
  have hn : n ≤ 6 := by rw [← hI.1]; exact hS.hi
  have hn2 : 2 ≤ n := by rw [← hI.1]; exact hS.lo
  have hc := box_cell w a n cap
  have HB : Box (Below w.heap.size w (w.alloc (.cells #[.slice a n cap] 74))) := ⟨box_below _ _⟩
  have hI2 := hI.below (box_below w (.cells #[.slice a n cap] 74))
  obtain ⟨b1, o1, e1, _, c1⟩ := hI2.2 (by omega)
  subst e1
  have HI : Box (Ints (w.alloc (.cells #[.slice (some ⟨b1, o1, none⟩) n cap] 74)) (some ⟨b1, o1, none⟩) n L) := ⟨hI2⟩
  clear hI hI2 hS c1
  unfold sv
  go_enter Tryz.func83, Tryz.ntmps83
  go_wp2
  go_step3
  go_upto_region 1 with fail
  generalize w.alloc (.cells #[.slice (some ⟨b1, o1, none⟩) n cap] 74) = x at HI HB hc ⊢
  go_wp2
  go_step3
  go_wp2
  go_loop [7, 14] (fun i t => i = .int .i64 item ∧ t = .int .i64 0) (fun _ _ => 0)
  case atStart => exact ⟨rfl, rfl⟩
  case round =>
    obtain ⟨rfl, rfl⟩ := hrel
    have d1 := HI.out.cell 0 (by omega)
    rw [Nat.add_zero] at d1
    generalize L.getD 0 0 = z at d1
    go_wp2
    go_ret3
    exact ⟨rfl, HB.out⟩
set_option maxHeartbeats 1000000 in
theorem level_high (a : Option Addr) (n cap : Nat) (item : Int) (L : List Int) (w : World) (hI : Ints w a n L) (hS : Shp L) (h : sumTo L n ≤ item) (hi : item ≤ 9223372036854775807) :
    Calls Tryz.prog 83 #[sv a n cap, .int .i64 item] w fun e w' => e = .returned (.tuple #[.int .i64 0, .int .i64 0, .int .i64 12]) ∧ Below w.heap.size w w' := by
  have hn : n ≤ 6 := by rw [← hI.1]; exact hS.hi
  have hn2 : 2 ≤ n := by rw [← hI.1]; exact hS.lo
  have hc := box_cell w a n cap
  have HB : Box (Below w.heap.size w (w.alloc (.cells #[.slice a n cap] 74))) := ⟨box_below _ _⟩
  have hI2 := hI.below (box_below w (.cells #[.slice a n cap] 74))
  obtain ⟨b1, o1, e1, _, c1⟩ := hI2.2 (by omega)
  subst e1
  have HI : Box (Ints (w.alloc (.cells #[.slice (some ⟨b1, o1, none⟩) n cap] 74)) (some ⟨b1, o1, none⟩) n L) := ⟨hI2⟩
  have HS : Box (Shp L) := ⟨hS⟩
  have HE : Box (sumTo L n ≤ item) := ⟨h⟩
  clear hI hI2 hS c1 h
  unfold sv
  go_enter Tryz.func83, Tryz.ntmps83
  go_wp2
  go_step3
  go_upto_region 1 with fail
  generalize w.alloc (.cells #[.slice (some ⟨b1, o1, none⟩) n cap] 74) = x at HI HB hc ⊢
  go_wp2
  go_step3
  go_wp2
  go_loop [7, 14] (fun i t => ∃ k : Nat, k ≤ n ∧ t = .int .i64 k ∧ i = .int .i64 (item - sumTo L k)) (fun _ t => n - (intOf t).toNat)
  case atStart => exact ⟨0, Nat.zero_le _, rfl, by simp [sumTo]⟩
  case round =>
    obtain ⟨k, hk, rfl, rfl⟩ := hrel
    by_cases hlt : k < n
    · have hs0 := HS.out.sum k
      have d1 := HI.out.cell k (by omega)
      have hz := HS.out.any k
      have HE1 := HE.out
      have hm2 := HS.out.mono (k + 1) n hlt
      have hs : Box (item - sumTo L k - L.getD k 0 = item - sumTo L (k + 1)) := ⟨by rw [sumTo]; omega⟩
      rw [sumTo] at hm2
      have g1 : ¬ item - sumTo L k < 0 := by omega
      have g2 : ¬ item - sumTo L k < L.getD k 0 := by omega
      have g3 : 0 ≤ item - sumTo L k ∧ item - sumTo L k ≤ 9223372036854775807 := by omega
      clear hs0 hm2 HE1
      generalize item - sumTo L k = s at hs g1 g2 g3
      generalize L.getD k 0 = z at d1 hs hz g2
      go_wp2
      go_round
      case rel => exact ⟨k + 1, by omega, by go_num, by rw [hs.out]⟩
      case measure => simp [intOf]; omega
    · obtain rfl : k = n := by omega
      go_wp2
      go_ret3
      exact ⟨rfl, HB.out⟩
theorem level_any (a : Option Addr) (n cap : Nat) (item x y z : Int) (L : List Int) (w : World) (hI : Ints w a n L) (hS : Shp L) (hi : item ≤ 9223372036854775807) (h : Lvl L n item x y z) :
    Calls Tryz.prog 83 #[sv a n cap, .int .i64 item] w fun e w' => e = .returned (.tuple #[.int .i64 x, .int .i64 y, .int .i64 z]) ∧ Below w.heap.size w w' := by
  rcases h with ⟨l, hl, h1, h2, rfl, rfl, rfl⟩ | ⟨h | h, rfl, rfl, rfl⟩
  · exact level_ok a n cap l item L w hI hS hl h1 h2
  · exact level_low a n cap item L w hI hS h
  · exact level_high a n cap item L w hI hS h hi
end Go.Proofs.YthbbijaikcmaeaaGreatDoor.Shap
namespace Go.Proofs.YthbbijaikcmaeaaGreatDoor.Shap.Plain
set_option maxRecDepth 100000
end Go.Proofs.YthbbijaikcmaeaaGreatDoor.Shap.Plain
namespace Go.Proofs.YthbbijaikcmaeaaGreatDoor.Shap
set_option maxRecDepth 100000
set_option linter.unusedVariables false
open Go.RowKit Go.Proofs.YthbbijaikcmaeaaGreatDoor.Plain Go.Proofs.YthbbijaikcmaeaaGreatDoor.Shap.Plain
theorem results_S2 {fn : Func} {t u : Tmp} (h : fn.results = #[.cell t 74, .tmp u]) (tmps : Array Value) (w : World) (b : Nat) (v : Value) (ht : tmps.getD t undef = .pointer (some ⟨b, 0, none⟩)) (hg : w.heap[b]? = some (.cells #[v] 74 (0, 0))) :
    (results fn tmps).run Tryz.prog w = .ok (.tuple #[.agg #[v], tmps.getD u undef]) w := by
  have hl := run_loadVar_row (P := Tryz.prog) w b _ 74 _ _ _ hg Tryz.underlying74 rfl infoS
  rw [results_cell_tmp h, ht]
  simp [asAddr, hl]
theorem below_setRow' {S : Nat} {w w' : World} (h : Below S w w') (hg : S ≤ S) (cs : Array Value) : Below S w (w'.setRow S cs) :=
  ⟨h.os, h.tape, h.output, by simpa using h.size, fun k hk => by rw [setRow_other w' S k _ (by omega)]; exact h.block k hk⟩
theorem wpList_run {ops : Array Oper} {rest : List Oper} {o : Oper} {a : Act} {w : World} {Q : Exit → Act → World → Prop} (hg : o.guard = none) (v : Value) (w' : World) (hr : (execOp a.eval o).run Tryz.prog w = .ok (.value v) w') (h : wpList Tryz.prog ops Q rest (a.put o.dst v) w') : wpList Tryz.prog ops Q (o :: rest) a w :=
  wpList_plain hg fun _ hK => by unfold Oper.wp; rw [hr]; exact hK _ _ h
theorem exec_built {o : Oper} {ρ : Operand → Value} {w : World} (t : TypeId) (parts : List (Nat × Operand)) (ho : o.op = .build t parts.toArray) (ps : List (Nat × Value)) (hp : parts.map (fun x => (x.1, ρ x.2)) = ps) (cells : Array Value) (h : Tryz.prog.built t ps = some cells) :
    (execOp ρ o).run Tryz.prog w = .ok (.value (.agg cells)) w := by
  have h' : Tryz.prog.built t (parts.toArray.map fun (i, x) => (i, ρ x)).toList = some cells := by
    rw [← h, ← hp]; simp
  unfold execOp
  simp only [ho, Sem.run_bind, run_build w t _ cells h', Result.andThen_ok]
  rfl
theorem one_S (a : Option Addr) (n c : Nat) : (#[Value.slice a n c].all (·.oneCell')) = true := by simp [Value.oneCell']
theorem wpList_stS {ops : Array Oper} {rest : List Oper} {o : Oper} {act : Act} {w : World} {Q : Exit → Act → World → Prop} (hgd : o.guard = none) (x y : Operand) (ho : o.op = .store 74 x y) (S : Nat) (a : Option Addr) (n c : Nat) (old : Value) (hx : act.eval x = .pointer (some ⟨S, 0, none⟩)) (hy : act.eval y = .agg #[.slice a n c])
    (hg : w.heap[S]? = some (.cells #[old] 74 (0, 0))) (h : wpList Tryz.prog ops Q rest (act.put o.dst undef) (w.setRow S #[.slice a n c])) : wpList Tryz.prog ops Q (o :: rest) act w :=
  wpList_store_row hgd 74 x y ho S _ hx hy 74 _ hg infoS rfl (one_S a n c) h
theorem built_S (a : Option Addr) (n c : Nat) : Tryz.prog.built 74 [(0, .slice a n c)] = some #[.slice a n c] := by kernel_rfl
def Grows (w0 wr : World) (m k : Nat) (v : Value) : Prop :=
  ∃ (f : Nat) (A : List Int), wr.ownsRow w0.heap.size 3 1 v A.length (A.map (Value.int .i64)) ∧ A ++ ups f k = wid m ∧ k ≤ 4 ^ f ∧ Below w0.heap.size w0 wr
theorem Grows.start (w0 : World) (m : Nat) (h2 : m ≤ 1024) : Grows w0 (w0.alloc (.cells #[.int .i64 m, .int .i64 (up m : Nat)] 3)) m (up m) (.slice (some ⟨w0.heap.size, 0, none⟩) 2 2) :=
  ⟨4, [(m : Int), ((up m : Nat) : Int)], iown_new (X := [(m : Int), ((up m : Nat) : Int)]) rfl (by simp [maxLen]) _ (Nat.le_refl _), rfl, by unfold up; omega, box_below _ _⟩
theorem grows_short {m k f : Nat} {A : List Int} (h1 : 1 ≤ m) (h2 : m ≤ 1024) (h : A ++ ups f k = wid m) : A.length ≤ 6 := by
  have := (shp_wid m h1 h2).hi
  rw [← h, List.length_append] at this
  omega
theorem Grows.finish {w0 wr : World} {m k : Nat} {v : Value} (h : Grows w0 wr m k v) (hk : k ≤ 1) : ∃ a n cap, v = .slice a n cap ∧ Box (n = (wid m).length) ∧ Box (wr.ownsRow w0.heap.size 3 1 (.slice a n cap) n ((wid m).map (Value.int .i64)) ∧ n ≤ cap ∧ Below w0.heap.size w0 wr) := by
  obtain ⟨f, A, o1, o2, o3, o4⟩ := h
  rw [ups_end f k hk, List.append_nil] at o2
  subst o2
  obtain ⟨a, cap, rfl⟩ := iown_form o1
  exact ⟨a, _, cap, rfl, ⟨rfl⟩, ⟨o1, (iown_cap o1).1, o4⟩⟩
theorem Grows.step {w0 wr w' : World} {m k f : Nat} {v v' : Value} {A : List Int} (hA : A ++ ups f k = wid m) (hf : k ≤ 4 ^ f) (hlt : 1 < k) (h : w'.ownsRow w0.heap.size 3 1 v' (A.length + 1) ((A ++ [((up k : Nat) : Int)]).map (Value.int .i64)) ∧ Below w0.heap.size w0 w' ∧ w0.heap.size ≤ w'.heap.size) : Grows w0 w' m (up k) v' := by
  obtain ⟨g, e, hg⟩ := ups_step f k hlt hf
  refine ⟨g, A ++ [((up k : Nat) : Int)], by rw [List.length_append]; exact h.1, ?_, hg, h.2.1⟩
  rw [← hA, e, List.append_assoc]
  rfl
theorem lt_of_row {w : World} {g : Nat} {o : Obj} (h : w.heap[g]? = some o) : g < w.heap.size := (Array.getElem?_eq_some_iff.1 h).1
theorem iown_apart {w w' : World} {base n G : Nat} {v : Value} {xs : List Value} (h : w.ownsRow base 3 1 v n xs) (hG : G < base) (cs : Array Value) (e : w' = w.setRow G cs) : w'.ownsRow base 3 1 v n xs := by
  subst e
  refine ⟨h.1, ?_⟩
  rcases h.2 with h3 | ⟨g, cap', cur, h3, hb', hh, r⟩
  · exact .inl h3
  · exact .inr ⟨g, cap', cur, h3, hb', by rw [setRow_other w G g _ (by omega)]; exact hh, r⟩
theorem new_end {w w0 wr : World} {a : Option Addr} {n cap : Nat} {L : List Int} {cs : Array Value} {o : Obj} (hB : Below w.heap.size w w0) (hR : w0.heap[w.heap.size]? = some o) (hF : wr.ownsRow w0.heap.size 3 1 (.slice a n cap) n (L.map (Value.int .i64)) ∧ n ≤ cap ∧ Below w0.heap.size w0 wr) :
    Ints (wr.setRow w.heap.size cs) a n L ∧ n ≤ cap ∧ Below w.heap.size w (wr.setRow w.heap.size cs) :=
  ⟨iown_ints (iown_apart hF.1 (lt_of_row hR) cs rfl), hF.2.1, below_setRow' (below_to hB hF.2.2) (Nat.le_refl _) _⟩
end Go.Proofs.YthbbijaikcmaeaaGreatDoor.Shap
