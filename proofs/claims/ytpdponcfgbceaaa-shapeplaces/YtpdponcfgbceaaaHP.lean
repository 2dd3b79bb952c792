/-
  The walk of ShapePlaces: no two sides of items stand at one place; all places below twice the items are used: the law returns true.
-/
import Derived.Test.YtpdponcfgbceaaaH9
import Derived.Test.YtpdponcfgbceaaaSeq
namespace Go.Proofs.Ytpdponcfgbceaaa
set_option linter.unusedVariables false
open Go.RowKit Plain

theorem exec_ldS {o : Oper} {a : Act} {w' : World} (x : Operand) (ho : o.op = .load 25 x) (g : Nat) (v : Value) (hx : a.eval x = .pointer (some ⟨g, 0, none⟩)) (hg : w'.heap[g]? = some (.cells #[v] 25 (0, 0))) :
    (execOp a.eval o).run Try.prog w' = .ok (.value (.agg #[v])) w' := by
  unfold execOp
  simp only [ho, hx, Instr.loadAt, Instr.sureAddr, Sem.run_bind, Sem.run_pure, Result.andThen_ok, run_loadVar_row w' g 25 25 #[v] (0, 0) _ hg Try.underlying25 rfl infoS]

set_option maxRecDepth 20000 in
set_option maxHeartbeats 2000000 in
theorem places_core (leaves x y : Int) (m n T N p q ph pr qh qr : Nat) (W : List Int) (w : World) (hl : leaves + 1 = (m : Int)) (hm : m ≤ 256) (hx : 0 ≤ x ∧ x ≤ 65535) (hy : 0 ≤ y ∧ y ≤ 65535) (hN : 2 * (T : Int) = (N : Int)) (hN2 : 0 < N ∧ N ≤ 20000)
    (hp : x % (N : Int) = (p : Int)) (hq : y % (N : Int) = (q : Int)) (hpN : p < N)
    (hp1 : (p : Int) / 2 = (ph : Int)) (hp2 : (p : Int) % 2 = (pr : Int)) (hq1 : (q : Int) / 2 = (qh : Int)) (hq2 : (q : Int) % 2 = (qr : Int))
    (CN : Box (∀ x, Calls Try.prog 9 #[.int .i64 m] x fun e w' => ∃ a cap, e = .returned (.tuple #[.agg #[.slice a n cap], .int .i64 0]) ∧ Ints w' a n W ∧ n ≤ cap ∧ Below x.heap.size x w'))
    (CI : Box (∀ x a cap, Ints x a n W → Calls Try.prog 20 #[.agg #[.slice a n cap]] x fun e w' => e = .returned (.int .i64 (T : Int)) ∧ Below x.heap.size x w'))
    (C1 : Box (∀ x a cap, Ints x a n W → Calls Try.prog 16 #[.agg #[.slice a n cap], .int .i64 ph, .int .i64 pr] x fun e w' => e = .returned (.tuple #[.int .i64 p, .int .i64 0]) ∧ Below x.heap.size x w'))
    (C2 : Box (∀ x a cap, Ints x a n W → Calls Try.prog 16 #[.agg #[.slice a n cap], .int .i64 qh, .int .i64 qr] x fun e w' => e = .returned (.tuple #[.int .i64 q, .int .i64 0]) ∧ Below x.heap.size x w'))
    (C3 : Box (∀ x a cap, Ints x a n W → Calls Try.prog 16 #[.agg #[.slice a n cap], .int .i64 T, .int .i64 0] x fun e w' => e = .returned (.tuple #[.int .i64 0, .int .i64 12]) ∧ Below x.heap.size x w'))
    (C4 : Box (∀ x a cap, Ints x a n W → Calls Try.prog 16 #[.agg #[.slice a n cap], .int .i64 0, .int .i64 2] x fun e w' => e = .returned (.tuple #[.int .i64 0, .int .i64 12]) ∧ Below x.heap.size x w')) :
    Calls Try.prog 5 #[.int .u8 leaves, .int .u16 x, .int .u16 y] w fun e w' => e = .returned (.bool true) ∧ Below w.heap.size w w' := by
  have CA : Box (∀ x, Calls Try.prog 8 #[] x fun e w' => e = .returned (.bool true) ∧ Below x.heap.size x w') := ⟨awake_any⟩
  have tp : x.tmod (N : Int) = (p : Int) := by rw [Int.tmod_eq_emod_of_nonneg hx.1]; exact hp
  have tq : y.tmod (N : Int) = (q : Int) := by rw [Int.tmod_eq_emod_of_nonneg hy.1]; exact hq
  have tp1 : (p : Int).tdiv 2 = (ph : Int) := by rw [Int.tdiv_eq_ediv_of_nonneg (by omega)]; exact hp1
  have tp2 : (p : Int).tmod 2 = (pr : Int) := by rw [Int.tmod_eq_emod_of_nonneg (by omega)]; exact hp2
  have tq1 : (q : Int).tdiv 2 = (qh : Int) := by rw [Int.tdiv_eq_ediv_of_nonneg (by omega)]; exact hq1
  have tq2 : (q : Int).tmod 2 = (qr : Int) := by rw [Int.tmod_eq_emod_of_nonneg (by omega)]; exact hq2
  have hN0 : ((N : Int) == 0) = false := by simp; omega
  have hqN : q < N := by have := Int.emod_lt_of_pos y (show (0 : Int) < N by omega); omega
  go_enter Try.func5, Try.ntmps5
  go_upto_region 5 with (first
    | (refine wpList_newS w2 a n cap rfl _ _ rfl rfl rfl rfl ?_; intro z2 hz hb3; have H2 : Box (Holds z2 w2.heap.size a n cap W ∧ Below w.heap.size w z2) := ⟨⟨hz, hI.below hb3⟩, below_to (below_to H1.out hb2) hb3⟩; clear hz hb3 hI hb2 hcap)
    | (go_at_call 9; refine Calls.mono (CN.out w1) ?_; rintro e w2 ⟨a, cap, rfl, hI, hcap, hb2⟩)
    | (go_at_call 8; refine Calls.mono (CA.out w) ?_; rintro e w1 ⟨rfl, hb1⟩; have H1 : Box (Below w.heap.size w w1) := ⟨hb1⟩; clear hb1))
  generalize w2.heap.size = S at H2 ⊢
  go_upto_region 10 with (first
    | (go_at_call 20; refine Calls.mono (CI.out z2 a cap H2.out.1.2) ?_; rintro e w3 ⟨rfl, hb⟩; have H3 : Box (Holds w3 S a n cap W ∧ Below w.heap.size w w3) := ⟨H2.out.1.below hb, below_to H2.out.2 hb⟩; clear hb)
    | (refine wpList_ldS rfl _ rfl _ _ rfl H2.out.1.1 ?_))
  go_upto_region 11 with (first
    | (go_at_call 16; refine Calls.mono (C1.out w3 a cap H3.out.1.2) ?_; rintro e w4 ⟨rfl, hb⟩; have H4 : Box (Holds w4 S a n cap W ∧ Below w.heap.size w w4) := ⟨H3.out.1.below hb, below_to H3.out.2 hb⟩; clear hb)
    | (refine wpList_ldS rfl _ rfl _ _ rfl H3.out.1.1 ?_))
  go_upto_region 12 with (first
    | (go_at_call 16; refine Calls.mono (C2.out w4 a cap H4.out.1.2) ?_; rintro e w5 ⟨rfl, hb⟩; have H5 : Box (Holds w5 S a n cap W ∧ Below w.heap.size w w5) := ⟨H4.out.1.below hb, below_to H4.out.2 hb⟩; clear hb)
    | (refine wpList_ldS rfl _ rfl _ _ rfl H4.out.1.1 ?_))
  refine Seq.begin_any (by kernel_rfl) (fun wd hd => ?_)
  refine Seq.take_lat (i := 0) (v := .agg #[.slice a n cap]) rfl (by kernel_rfl) (by kernel_rfl) (by kernel_rfl) (fun _ _ _ h => h) (by rfl) (fun w' hLat => exec_ldS _ rfl S _ rfl (((H5.out.1.below hd).below hLat).1)) ?_
  try simp only [Act.put, List.setIfInBounds_toArray, List.set_cons_zero, List.set_cons_succ, List.getElem_toArray, List.getElem_cons_zero]
  refine Seq.take_lat (i := 1) (v := .agg #[.slice a n cap]) rfl (by kernel_rfl) (by kernel_rfl) (by kernel_rfl) (fun _ _ _ h => h) (by rfl) (fun w' hLat => exec_ldS _ rfl S _ rfl (((H5.out.1.below hd).below hLat).1)) ?_
  try simp only [Act.put, List.setIfInBounds_toArray, List.set_cons_zero, List.set_cons_succ, List.getElem_toArray, List.getElem_cons_zero, List.getElem_cons_succ]
  refine Seq.only_lat (i := 2) rfl (by kernel_rfl) (fun KK hK => ?_)
  rw [if_pos (by rfl)]
  go_simp
  refine Calls.mono (CI.out wd a cap (H5.out.1.below hd).2) ?_
  rintro e w6 ⟨rfl, hb⟩
  have H6 : Box (Holds w6 S a n cap W ∧ Below w.heap.size w w6) := ⟨(H5.out.1.below hd).below hb, below_to (below_to H5.out.2 hd) hb⟩
  refine hK.out _ _ hb ?_
  clear hb
  clear hK KK
  try simp only [Act.put, List.setIfInBounds_toArray, List.set_cons_zero, List.set_cons_succ, List.getElem_toArray, List.getElem_cons_zero, List.getElem_cons_succ]
  refine Seq.only_lat (i := 3) rfl (by kernel_rfl) (fun KK hK => ?_)
  rw [if_pos (by rfl)]
  go_simp
  refine Calls.mono (C3.out w6 a cap H6.out.1.2) ?_
  rintro e w7 ⟨rfl, hb⟩
  have H7 : Box (Holds w7 S a n cap W ∧ Below w.heap.size w w7) := ⟨H6.out.1.below hb, below_to H6.out.2 hb⟩
  refine hK.out _ _ hb ?_
  clear hb
  clear hK KK
  try simp only [Act.put, List.setIfInBounds_toArray, List.set_cons_zero, List.set_cons_succ, List.getElem_toArray, List.getElem_cons_zero, List.getElem_cons_succ]
  refine Seq.take_lat (i := 4) (v := ?_) rfl (by kernel_rfl) (by kernel_rfl) (by kernel_rfl) (fun _ _ _ h => h) (by rfl) ?_ ?_
  rotate_left
  · intro w' hLat; change Below _ _ _ at hLat; go_simp <;> with_reducible rfl
  try simp only [Act.put, List.setIfInBounds_toArray, List.set_cons_zero, List.set_cons_succ, List.getElem_toArray, List.getElem_cons_zero, List.getElem_cons_succ]
  refine Seq.take_lat (i := 5) (v := ?_) rfl (by kernel_rfl) (by kernel_rfl) (by kernel_rfl) (fun _ _ _ h => h) (by rfl) ?_ ?_
  rotate_left
  · intro w' hLat; change Below _ _ _ at hLat; go_simp <;> with_reducible rfl
  try simp only [Act.put, List.setIfInBounds_toArray, List.set_cons_zero, List.set_cons_succ, List.getElem_toArray, List.getElem_cons_zero, List.getElem_cons_succ]
  refine Seq.take_lat (i := 6) (v := ?_) rfl (by kernel_rfl) (by kernel_rfl) (by kernel_rfl) (fun _ _ _ h => h) (by rfl) ?_ ?_
  rotate_left
  · intro w' hLat; change Below _ _ _ at hLat; go_simp <;> with_reducible rfl
  try simp only [Act.put, List.setIfInBounds_toArray, List.set_cons_zero, List.set_cons_succ, List.getElem_toArray, List.getElem_cons_zero, List.getElem_cons_succ]
  refine Seq.take_lat (i := 7) (v := ?_) rfl (by kernel_rfl) (by kernel_rfl) (by kernel_rfl) (fun _ _ _ h => h) (by rfl) ?_ ?_
  rotate_left
  · intro w' hLat; change Below _ _ _ at hLat; go_simp <;> with_reducible rfl
  try simp only [Act.put, List.setIfInBounds_toArray, List.set_cons_zero, List.set_cons_succ, List.getElem_toArray, List.getElem_cons_zero, List.getElem_cons_succ]
  refine Seq.take_lat (i := 8) (v := ?_) rfl (by kernel_rfl) (by kernel_rfl) (by kernel_rfl) (fun _ _ _ h => h) (by rfl) ?_ ?_
  rotate_left
  · intro w' hLat; change Below _ _ _ at hLat; go_simp <;> with_reducible rfl
  try simp only [Act.put, List.setIfInBounds_toArray, List.set_cons_zero, List.set_cons_succ, List.getElem_toArray, List.getElem_cons_zero, List.getElem_cons_succ]
  refine wpAnyH_done (by kernel_rfl) ?_ _
  go_upto_region 14 with (first
    | (go_at_call 16; refine Calls.mono (C4.out w7 a cap H7.out.1.2) ?_; rintro e w8 ⟨rfl, hb⟩; have H8 : Box (Holds w8 S a n cap W ∧ Below w.heap.size w w8) := ⟨H7.out.1.below hb, below_to H7.out.2 hb⟩; clear hb)
    | (refine wpList_ldS rfl _ rfl _ _ rfl H7.out.1.1 ?_))
  have hpN2 : (p : Int) < (N : Int) := by omega
  clear CA CN CI C1 C2 C3 C4 H2 H3 H4 H5 H6 H7 hp hq tp tq tp1 tp2 tq1 tq2 hp1 hp2 hq1 hq2 hx hy
  go_wp2
  go_ret
  exact ⟨rfl, H8.out.2⟩

theorem shapePlaces_walk (leaves x y : Int) (w : World) (w1 : (Lit.int .u8 leaves).wf = true) (w2 : (Lit.int .u16 x).wf = true) (w3 : (Lit.int .u16 y).wf = true) :
    Calls Try.prog 5 #[.int .u8 leaves, .int .u16 x, .int .u16 y] w fun e w' => e = .returned (.bool true) ∧ Below w.heap.size w w' := by
  have b1 := bounds_u8 w1
  have b2 := bounds_u16 w2
  have b3 := bounds_u16 w3
  obtain ⟨m, hm⟩ : ∃ m : Nat, leaves + 1 = (m : Int) := ⟨(leaves + 1).toNat, by omega⟩
  have hs := shp_wid m (by omega) (by omega)
  have hs6 := hs.hi
  have hs2 := hs.lo
  have hb := hs.sum (wid m).length
  obtain ⟨T, hT⟩ : ∃ T : Nat, sumTo (wid m) (wid m).length = (T : Int) := ⟨(sumTo (wid m) (wid m).length).toNat, by omega⟩
  have hT1 : 1 ≤ T := by
    have h1 := hs.mono 1 (wid m).length (by omega)
    have h2 := hs.bd 0 (by omega)
    simp only [sumTo] at h1
    omega
  have hN0 : (0 : Int) < ((2 * T : Nat) : Int) := by omega
  have e1 := Int.emod_nonneg x (Int.ne_of_gt hN0)
  have e2 := Int.emod_lt_of_pos x hN0
  have e3 := Int.emod_nonneg y (Int.ne_of_gt hN0)
  have e4 := Int.emod_lt_of_pos y hN0
  obtain ⟨p, hp⟩ : ∃ p : Nat, x % ((2 * T : Nat) : Int) = (p : Int) := ⟨(x % ((2 * T : Nat) : Int)).toNat, by omega⟩
  obtain ⟨q, hq⟩ : ∃ q : Nat, y % ((2 * T : Nat) : Int) = (q : Int) := ⟨(y % ((2 * T : Nat) : Int)).toNat, by omega⟩
  rw [hp] at e2
  rw [hq] at e4
  refine places_core leaves x y m (wid m).length T (2 * T) p q (p / 2) (p % 2) (q / 2) (q % 2) (wid m) w hm (by omega) ⟨by omega, by omega⟩ ⟨by omega, by omega⟩ (by omega) ⟨by omega, by omega⟩ hp hq (by omega) (by omega) (by omega) (by omega) (by omega)
    ⟨fun x => new_ok m x (by omega) (by omega)⟩ ⟨fun x a cap h => by have := items_any a _ cap _ x h hs; rw [hT] at this; exact this⟩ ⟨fun x a cap h => ?_⟩ ⟨fun x a cap h => ?_⟩ ⟨fun x a cap h => ?_⟩ ⟨fun x a cap h => ?_⟩
  · exact place_any a _ cap _ _ _ _ _ x h hs (.inl ⟨by omega, by rw [hT]; omega, by omega, by omega, by omega, rfl⟩)
  · exact place_any a _ cap _ _ _ _ _ x h hs (.inl ⟨by omega, by rw [hT]; omega, by omega, by omega, by omega, rfl⟩)
  · exact place_any a _ cap _ _ _ _ _ x h hs (.inr ⟨by rw [hT]; omega, rfl, rfl⟩)
  · exact place_any a _ cap _ _ _ _ _ x h hs (.inr ⟨by omega, rfl, rfl⟩)
end Go.Proofs.Ytpdponcfgbceaaa
