/-
  What New of package shape leaves, and that it is new; Places of package vault.
-/
import Derived.Test.YtnicgmimhgbcfaaGreatDoorWL
namespace Go.Proofs.YtnicgmimhgbcfaaGreatDoor.Shap
set_option linter.unusedVariables false
set_option maxRecDepth 100000
open Go.RowKit Go.Proofs.YtnicgmimhgbcfaaGreatDoor.Plain Go.Proofs.YtnicgmimhgbcfaaGreatDoor.Shap.Plain

set_option maxHeartbeats 2000000 in
theorem new_ok2 (m : Nat) (w : World) (h1 : 1 ≤ m) (h2 : m ≤ 1024) :
    Calls Tryz.prog 31 #[.int .i64 m] w fun e w' => ∃ a cap, e = .returned (.tuple #[sv a (wid m).length cap, .int .i64 0]) ∧ Ints w' a (wid m).length (wid m) ∧ (wid m).length ≤ cap ∧ Below w.heap.size w w' ∧ ∀ ad, a = some ad → w.heap.size ≤ ad.block := by
  have g1 : ¬ (m : Int) < 1 := by omega
  have g2 : ¬ 1024 < (m : Int) := by omega
  have HC : Box (∀ (x : World) (k : Nat), k ≤ 1024 → Calls Tryz.prog 67 #[.int .i64 (k : Int)] x fun e w' => e = .returned (.int .i64 (up k : Nat)) ∧ x = w') := ⟨fun x k hk => above_any k x hk⟩
  have HB : Box (Below w.heap.size w (w.alloc (.cells #[.slice none 0 0] 97))) := ⟨box_below _ _⟩
  have HR : Box ((w.alloc (.cells #[.slice none 0 0] 97)).heap[w.heap.size]? = some (.cells #[.slice none 0 0] 97 (0, 0))) := ⟨al_at rfl⟩
  go_enter Tryz.func31, Tryz.ntmps31
  go_upto_region 1 with fail
  generalize w.alloc (.cells #[.slice none 0 0] 97) = w0 at HB HR ⊢
  go_wp2_with (go_at_call 67; refine Calls.mono (HC.out _ _ h2) ?_; rintro e w' ⟨rfl, rfl⟩)
  have H0 : Box (Grows w0 (w0.alloc (.cells #[.int .i64 m, .int .i64 (up m : Nat)] 3)) m (up m) (.slice (some ⟨w0.heap.size, 0, none⟩) 2 2)) := ⟨Grows.start w0 m h2⟩
  have hu : up m ≤ 1024 := by unfold up; omega
  go_loopw [4, 5] (fun u v wr => ∃ k : Nat, k ≤ 1024 ∧ u = .int .i64 k ∧ Box (Grows w0 wr m k v)) (fun u _ _ => (intOf u).toNat)
  case atStart => exact ⟨_, hu, rfl, H0⟩
  case round =>
    obtain ⟨k, hk, rfl, HG⟩ := hrel
    clear H0
    by_cases hlt : 1 < k
    · have g3 : (1 : Int) < (k : Int) := by omega
      have hu : up k ≤ 1024 ∧ up k < k := by unfold up; omega
      go_wp2_with (first
        | (go_at_call 67; refine Calls.mono (HC.out _ _ hk) ?_; rintro e w' ⟨rfl, rfl⟩)
        | (at_builtin; obtain ⟨f, A, o1, o2, o3, o4⟩ := HG.out; refine wpList_iapp rfl (.tmp 22) (.tmp 24) rfl w0.heap.size A.length 1 1 _ A [((up k : Nat) : Int)] ⟨wr.heap.size, 0, none⟩ w0 rfl rfl (iown_later o1 (box_below _ _)) (ints_of_row (X := [((up k : Nat) : Int)]) (al_at rfl)) (by have := grows_short h1 h2 o2; omega) (o4.alloc o4.size _) (Nat.le_trans o4.size (by simp)) ?_; intro v' w' H1; have H2 : Box (Grows w0 w' m (up k) v') := ⟨Grows.step (wr := wr) (v := .slice none 0 0) o2 o3 hlt H1.out⟩; clear o1 o2 o3 o4 H1))
      go_roundw
      case rel => exact ⟨up k, hu.1, rfl, H2⟩
      case measure => simp [intOf]; omega
    · have g3 : ¬ (1 : Int) < (k : Int) := by omega
      obtain ⟨a, n, cap, rfl, HN, HF⟩ := Grows.finish HG.out (by omega)
      go_wp2_with (first
        | (refine wpList_run rfl _ _ (exec_built 97 [(0, .tmp 26)] rfl [(0, .slice a n cap)] rfl _ (built_S a n cap)) ?_)
        | (refine wpList_stS rfl _ _ rfl w.heap.size a n cap _ rfl rfl (HF.out.2.2.block _ (lt_of_row HR.out)|>.trans HR.out) ?_))
      (try simp only [Exit.inBlock, Exit.then])
      refine bodyPost_ret (results_S2 rfl _ _ w.heap.size _ rfl (setRow_heap _ _ _ _ _ _ (HF.out.2.2.block _ (lt_of_row HR.out)|>.trans HR.out))) rfl ?_
      have hn := HN.out
      subst hn
      have hne := new_end (cs := #[.slice a (wid m).length cap]) HB.out HR.out HF.out
      exact ⟨a, cap, rfl, hne.1, hne.2.1, hne.2.2, fun ad e => by subst e; exact Nat.le_trans HB.out.size (HF.out.1.lt ad.block rfl).1⟩
end Go.Proofs.YtnicgmimhgbcfaaGreatDoor.Shap
namespace Go.Proofs.YtnicgmimhgbcfaaGreatDoor
set_option linter.unusedVariables false
open Go.RowKit Go.Shelf Plain Go.Proofs.YtnicgmimhgbcfaaGreatDoor.Shap.Plain
attribute [local go_sem] Oper.semAt_some

theorem infoShp2 : (Tryz.prog.info? 97).map (·.zero) = some (some (.agg #[.slice none 0 0])) := by kernel_rfl
set_option maxHeartbeats 1000000 in
theorem places_no (leaves : Int) (w : World) (h : leaves < 1 ∨ 1024 < leaves) : Calls Tryz.prog 29 #[.int .i64 leaves] w fun e w' => e = .returned (.tuple #[.int .i64 0, .int .i64 1]) ∧ Below w.heap.size w w' := by
  have HN : Box _ := ⟨Shap.new_no leaves w h⟩
  clear h
  go_enter Tryz.func29, Tryz.ntmps29
  go_wp2_with (first
    | (go_at_call 31; refine HN.out.mono ?_; rintro e x1 ⟨rfl, hb⟩; have HB : Box (Below w.heap.size w x1) := ⟨hb⟩; clear hb)
    | (refine atAlloc _ ?_; refine wpList_run rfl _ _ (exec_alloc 97 rfl _ infoShp2) ?_)
    | (refine atStore _ ?_; refine wpList_newRow x1 #[.slice none 0 0] #[.slice none 0 0] infoShp rfl (by simp [Value.oneCell']) rfl _ _ rfl rfl rfl rfl ?_; intro x2 h2 hb2; have HB2 : Box (Below w.heap.size w x2) := ⟨below_to HB.out hb2⟩; clear hb2))
  go_ret2
  exact ⟨rfl, HB2.out⟩
set_option maxHeartbeats 1000000 in
theorem places_ok (n : Nat) (w : World) (h1 : 1 ≤ n) (h2 : n ≤ 1024) : Calls Tryz.prog 29 #[.int .i64 n] w fun e w' => e = .returned (.tuple #[.int .i64 (2 * off n (topL n + 1) : Nat), .int .i64 0]) ∧ Below w.heap.size w w' := by
  have HN : Box _ := ⟨Shap.new_ok2 n w h1 h2⟩
  have HP : Box (∀ (a : Option Addr) (cap : Nat) (x : World), Shap.Ints x a (wid n).length (wid n) → Calls Tryz.prog 33 #[.agg #[.slice a (wid n).length cap]] x fun e w' => e = .returned (.int .i64 (2 * off n (topL n + 1) : Nat)) ∧ Below x.heap.size x w') := ⟨fun a cap x hx => places_any n a cap x h1 h2 hx⟩
  clear h1 h2
  go_enter Tryz.func29, Tryz.ntmps29
  go_wp2_with (first
    | (go_at_call 31; refine HN.out.mono ?_; rintro e x1 ⟨a, sc, rfl, hi, _, hb, _⟩; have HB : Box (Below w.heap.size w x1 ∧ Shap.Ints x1 a (wid n).length (wid n)) := ⟨hb, hi⟩; clear hb hi)
    | (refine atAlloc _ ?_; refine wpList_run rfl _ _ (exec_alloc 97 rfl _ infoShp2) ?_)
    | (refine atStore _ ?_; refine wpList_newRow x1 #[.slice none 0 0] #[.slice a (wid n).length sc] infoShp rfl (by simp [Value.oneCell']) rfl _ _ rfl rfl rfl rfl ?_; intro x2 h2 hb2; have HB2 : Box (Below w.heap.size w x2 ∧ Shap.Ints x2 a (wid n).length (wid n) ∧ x2.heap[x1.heap.size]? = some (.cells #[.slice a (wid n).length sc] 97 (0, 0))) := ⟨below_to HB.out.1 hb2, HB.out.2.below hb2, h2⟩; clear hb2 h2)
    | (refine atLoad 97 ?_; refine Shap.wpList_ldS rfl _ rfl x1.heap.size (.slice a (wid n).length sc) rfl HB2.out.2.2 ?_)
    | (go_at_call 33; refine (HP.out a sc x2 HB2.out.2.1).mono ?_; rintro e x3 ⟨rfl, hb3⟩; have HB3 : Box (Below w.heap.size w x3) := ⟨below_to HB2.out.1 hb3⟩; clear hb3))
  go_ret2
  exact ⟨rfl, HB3.out⟩
end Go.Proofs.YtnicgmimhgbcfaaGreatDoor
