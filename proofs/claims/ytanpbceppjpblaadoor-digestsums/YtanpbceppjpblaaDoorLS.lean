/-
  The walk of DigestSums: the digest of any bytes, and its digits, are the reference's: the law returns true for all bytes, in every memory that holds the package's two tables.
-/
import Derived.Test.YtanpbceppjpblaaDoorQA
import Derived.Test.YtanpbceppjpblaaDoorB3
import Derived.Test.YtanpbceppjpblaaDoorB4
import Derived.Test.YtanpbceppjpblaaDoorSeq
import Derived.Test.YtanpbceppjpblaaDoorFS
namespace Go.Proofs.YtanpbceppjpblaaDoor
set_option linter.unusedVariables false
open Go.RowKit Plain

theorem rof_is (a : Option Addr) (len cap : Nat) (L X' : List Int) (w : World) (hb : Bytes w a len L) (hl : len ≤ 900000) (hS : sha L = X') :
    Calls Tryd.prog 11 #[.slice a len cap] w fun e w' => e = .returned (.agg (u8s X')) ∧ Below w.heap.size w w' := by
  subst hS
  exact rof_any a len cap L w hb hl

set_option maxRecDepth 20000 in
set_option maxHeartbeats 1000000 in
theorem sums_in (a : Option Addr) (len cap : Nat) (M : List Int) (w : World) (hT : Tabs w) (ha : (⟨a, len, cap, M⟩ : Pc).ok w) (hl : len ≤ 3000) :
    Calls Tryd.prog 3 #[.slice a len cap] w fun e w' => e = .returned (.bool true) ∧ Below w.heap.size w w' := by
  have h1 : ¬ 3000 < (len : Int) := by omega
  obtain ⟨X, HX⟩ : ∃ X, Box (sha M = X) := ⟨_, ⟨rfl⟩⟩
  have hXl : X.length = 32 := by rw [← HX.out]; exact length_sha _
  have hXb : Byt X := by rw [← HX.out]; exact byt_sha _
  have eX := eq_same25 X hXl
  obtain ⟨N, HN⟩ : ∃ N, Box (strOfNums (hexL X 32) = N) := ⟨_, ⟨rfl⟩⟩
  have HW : Box (∀ x, Below w.heap.size w x → Tabs x ∧ (⟨a, len, cap, M⟩ : Pc).ok x) := ⟨fun x hx => ⟨hT.below hx, ha.below hx⟩⟩
  have HC : Box (∀ x, Bytes x a len M → Calls Tryd.prog 11 #[.slice a len cap] x fun e w' => e = .returned (.agg (u8s X)) ∧ Below x.heap.size x w') := ⟨fun x hx => rof_is a len cap M X x hx (by omega) HX.out⟩
  have H12 : Box (∀ x, Calls Tryd.prog 12 #[.agg (u8s X)] x fun e w' => e = .returned (.string N) ∧ Below x.heap.size x w') := ⟨fun x => by rw [← HN.out]; exact hex_any X x hXb hXl⟩
  have H13 : Box (∀ x, Calls Tryd.prog 13 #[.agg (u8s X)] x fun e w' => e = .returned (.string N) ∧ Below x.heap.size x w') := ⟨fun x => by rw [← HN.out]; exact rhex_any X x hXb hXl⟩
  have H0 : Box (Tabs w) := ⟨hT⟩
  clear hT ha
  go_enter Tryd.func3, Tryd.ntmps3
  go_wp2_with (first
    | (refine wpList_new25 w w2 [] X hXl H2.out ?old ?hold rfl (.tmp 4) (.tmp 12) rfl rfl rfl ?hv ?_; (case hv => rfl); (case hold => rfl); intro z3 H3)
    | (go_at_call 10; refine Calls.mono (of_is a len cap M X w1 (HW.out _ H1.out).1 (HW.out _ H1.out).2 (by omega) HX.out) ?_; rintro e w2 ⟨rfl, hb2⟩; have H2 : Box (Way w w2 []) := ⟨Stand.nil _, below_to H1.out hb2⟩; clear hb2)
    | (go_at_call 9; refine (awake_any _ H0.out).mono ?_; rintro e w1 ⟨rfl, hb1⟩; have H1 : Box (Below w.heap.size w w1) := ⟨hb1⟩; clear hb1))
  refine Seq.begin_any (by kernel_rfl) (fun wd hd => ?_)
  have HD : Box (Way w wd [(w2.heap.size, X)]) := ⟨H3.out.on hd⟩
  clear hd
  refine Seq.take_lat (i := 0) (v := .agg (u8s X)) rfl (by kernel_rfl) (by kernel_rfl) (by kernel_rfl) (fun _ _ _ h => h) (by rfl) (fun w' hLat => exec_load25 (.tmp 4) rfl w2.heap.size rfl X _ (HD.out.1.below hLat) (.head _)) ?_
  try simp only [Act.put, List.setIfInBounds_toArray, List.set_cons_zero, List.set_cons_succ, List.getElem_toArray, List.getElem_cons_zero]
  refine Seq.take_lat (i := 1) (v := ?_) rfl (by kernel_rfl) (by kernel_rfl) (by kernel_rfl) (fun _ _ _ h => h) (by rfl) ?_ ?_
  rotate_left
  · intro w' hLat; change Below _ _ _ at hLat; go_simp <;> with_reducible rfl
  try simp only [Act.put, List.setIfInBounds_toArray, List.set_cons_zero, List.set_cons_succ, List.getElem_toArray, List.getElem_cons_zero, List.getElem_cons_succ]
  refine Seq.only_lat (i := 2) rfl (by kernel_rfl) (fun K hK => ?_)
  rw [if_pos (by rfl)]
  go_simp
  refine Calls.mono (HC.out wd (HW.out _ HD.out.2).2.1) ?_
  rintro e w4 ⟨rfl, hb4⟩
  have HE : Box (Way w w4 [(w2.heap.size, X)]) := ⟨HD.out.on hb4⟩
  refine hK.out _ _ hb4 ?_
  clear hb4
  clear hK K
  try simp only [Act.put, List.setIfInBounds_toArray, List.set_cons_zero, List.set_cons_succ, List.getElem_toArray, List.getElem_cons_zero, List.getElem_cons_succ]
  refine Seq.take_lat (i := 3) (v := ?_) rfl (by kernel_rfl) (by kernel_rfl) (by kernel_rfl) (fun _ _ _ h => h) (by rfl) ?_ ?_
  rotate_left
  · intro w' hLat; change Below _ _ _ at hLat; go_simp <;> with_reducible rfl
  try simp only [Act.put, List.setIfInBounds_toArray, List.set_cons_zero, List.set_cons_succ, List.getElem_toArray, List.getElem_cons_zero, List.getElem_cons_succ]
  refine Seq.take_lat (i := 4) (v := ?_) rfl (by kernel_rfl) (by kernel_rfl) (by kernel_rfl) (fun _ _ _ h => h) (by rfl) ?_ ?_
  rotate_left
  · intro w' hLat; change Below _ _ _ at hLat; go_simp <;> with_reducible rfl
  try simp only [Act.put, List.setIfInBounds_toArray, List.set_cons_zero, List.set_cons_succ, List.getElem_toArray, List.getElem_cons_zero, List.getElem_cons_succ]
  refine Seq.take_lat (i := 5) (v := .agg (u8s X)) rfl (by kernel_rfl) (by kernel_rfl) (by kernel_rfl) (fun _ _ _ h => h) (by rfl) (fun w' hLat => exec_load25 (.tmp 4) rfl w2.heap.size rfl X _ (HE.out.1.below hLat) (.head _)) ?_
  try simp only [Act.put, List.setIfInBounds_toArray, List.set_cons_zero, List.set_cons_succ, List.getElem_toArray, List.getElem_cons_zero, List.getElem_cons_succ]
  refine Seq.take_lat (i := 7) (v := .agg (u8s X)) rfl (by kernel_rfl) (by kernel_rfl) (by kernel_rfl) (fun _ _ _ h => h) (by rfl) (fun w' hLat => exec_load25 (.tmp 4) rfl w2.heap.size rfl X _ (HE.out.1.below hLat) (.head _)) ?_
  try simp only [Act.put, List.setIfInBounds_toArray, List.set_cons_zero, List.set_cons_succ, List.getElem_toArray, List.getElem_cons_zero, List.getElem_cons_succ]
  refine Seq.only_lat (i := 6) rfl (by kernel_rfl) (fun K hK => ?_)
  rw [if_pos (by rfl)]
  go_simp
  refine Calls.mono (H12.out w4) ?_
  rintro e w5 ⟨rfl, hb5⟩
  have HF : Box (Way w w5 [(w2.heap.size, X)]) := ⟨HE.out.on hb5⟩
  refine hK.out _ _ hb5 ?_
  clear hb5
  clear hK K
  try simp only [Act.put, List.setIfInBounds_toArray, List.set_cons_zero, List.set_cons_succ, List.getElem_toArray, List.getElem_cons_zero, List.getElem_cons_succ]
  refine Seq.only_lat (i := 8) rfl (by kernel_rfl) (fun K hK => ?_)
  rw [if_pos (by rfl)]
  go_simp
  refine Calls.mono (H13.out w5) ?_
  rintro e w6 ⟨rfl, hb6⟩
  have HG : Box (Way w w6 [(w2.heap.size, X)]) := ⟨HF.out.on hb6⟩
  refine hK.out _ _ hb6 ?_
  clear hb6
  clear hK K
  try simp only [Act.put, List.setIfInBounds_toArray, List.set_cons_zero, List.set_cons_succ, List.getElem_toArray, List.getElem_cons_zero, List.getElem_cons_succ]
  refine Seq.take_lat (i := 9) (v := ?_) rfl (by kernel_rfl) (by kernel_rfl) (by kernel_rfl) (fun _ _ _ h => h) (by rfl) ?_ ?_
  rotate_left
  · intro w' hLat; change Below _ _ _ at hLat; go_simp <;> with_reducible rfl
  try simp only [Act.put, List.setIfInBounds_toArray, List.set_cons_zero, List.set_cons_succ, List.getElem_toArray, List.getElem_cons_zero, List.getElem_cons_succ]
  refine Seq.take_lat (i := 10) (v := ?_) rfl (by kernel_rfl) (by kernel_rfl) (by kernel_rfl) (fun _ _ _ h => h) (by rfl) ?_ ?_
  rotate_left
  · intro w' hLat; change Below _ _ _ at hLat; go_simp <;> with_reducible rfl
  try simp only [Act.put, List.setIfInBounds_toArray, List.set_cons_zero, List.set_cons_succ, List.getElem_toArray, List.getElem_cons_zero, List.getElem_cons_succ]
  refine Seq.take_lat (i := 11) (v := ?_) rfl (by kernel_rfl) (by kernel_rfl) (by kernel_rfl) (fun _ _ _ h => h) (by rfl) ?_ ?_
  rotate_left
  · intro w' hLat; change Below _ _ _ at hLat; go_simp <;> with_reducible rfl
  try simp only [Act.put, List.setIfInBounds_toArray, List.set_cons_zero, List.set_cons_succ, List.getElem_toArray, List.getElem_cons_zero, List.getElem_cons_succ]
  refine wpAnyH_done (by kernel_rfl) ?_ _
  go_wp2
  go_ret
  exact ⟨rfl, HG.out.2⟩

set_option maxHeartbeats 400000 in
theorem sums_out (a : Option Addr) (len cap : Nat) (w : World) (hT : Tabs w) (hl : len ≤ maxLen) (h : 3000 < len) :
    Calls Tryd.prog 3 #[.slice a len cap] w fun e w' => e = .returned (.bool true) ∧ Below w.heap.size w w' := by
  unfold maxLen at hl
  have h1 : 3000 < (len : Int) := by omega
  have H0 : Box (Tabs w) := ⟨hT⟩
  clear hT h
  go_enter Tryd.func3, Tryd.ntmps3
  go_wp2_with (go_at_call 9; refine (awake_any _ H0.out).mono ?_; rintro e w1 ⟨rfl, hb1⟩)
  go_ret
  exact ⟨rfl, hb1⟩
theorem digestSums_walk (a : Option Addr) (len cap : Nat) (z : List Int) (w : World) (hT : Tabs w) (h : IsRow .u8 w a len cap z) :
    Calls Tryd.prog 3 #[.slice a len cap] w fun e w' => e = .returned (.bool true) ∧ Below w.heap.size w w' := by
  by_cases hl : len ≤ 3000
  · exact sums_in a len cap _ w hT h.pc hl
  · exact sums_out a len cap w hT h.len (by omega)
end Go.Proofs.YtanpbceppjpblaaDoor
