/-
  The reference of layer 6: Restore.
-/
import Derived.Test.YtlokhbkjkobmaaaYA
namespace Go.Proofs.Ytlokhbkjkobmaaa
set_option linter.unusedVariables false
open Go.RowKit Plain

/-- The writes of an image. -/
def rl (pl0 : Nat → List Int) (k : Nat) : List (Nat × List Int) := (List.range k).map (fun i => (i, pl0 i))
theorem rl_succ (pl0 : Nat → List Int) (k : Nat) : rl pl0 (k + 1) = rl pl0 k ++ [(k, pl0 k)] := by simp [rl, List.range_succ]
theorem length_rl (pl0 : Nat → List Int) (k : Nat) : (rl pl0 k).length = k := by simp [rl]
theorem rat_rl (pl0 : Nat → List Int) (k i : Nat) : rat (rl pl0 k) i = rpl pl0 k (fun _ => z192) i := by
  induction k with
  | zero => simp [rl, rat, lastOf, rpl]
  | succ k ih =>
    rw [rl_succ, rat_app]
    show upd (rat (rl pl0 k)) k (pl0 k) i = _
    rw [← rpl_succ]
    unfold upd
    rw [ih]
set_option maxRecDepth 20000 in
set_option maxHeartbeats 2000000 in
theorem rrestore_few (w : World) (n : Nat) (vd vw vo : Value) (l : Int) (b : Bool) (hd : vd.oneCell' = true) (hw : vw.oneCell' = true) (ho : vo.oneCell' = true) (a : Option Addr) (len cap : Nat) (hne : len ≠ n) :
    Calls Try.prog 17 #[.agg (rv n vd vw l b vo).toArray, .slice a len cap] w fun e w' => e = .returned (.tuple #[.agg (rv n vd vw l b vo).toArray, .int .i64 1]) ∧ Below w.heap.size w w' := by
  have hq : ((len : Int) == (n : Int)) = false := by
    have : ¬ ((len : Int) = (n : Int)) := by omega
    simp [this]
  clear hne
  have H1 : Box (vd.oneCell' = true ∧ vw.oneCell' = true ∧ vo.oneCell' = true) := ⟨hd, hw, ho⟩
  clear hd hw ho
  have H : Box (Bx w.heap.size w ((w.alloc (.cells (rv n vd vw l b vo).toArray 31)).alloc (.cells #[.int .i64 0, .slice none 0 0, .slice none 0 0, .int .i64 0, .bool false, .slice none 0 0] 31)) (rv n vd vw l b vo)) := ⟨Bx.start w _ _ rfl⟩
  obtain ⟨S, HS⟩ : ∃ S, Box (w.heap.size = S) := ⟨_, ⟨rfl⟩⟩
  go_enter Try.func17, Try.ntmps17
  go_upto_region 1 with fail
  rw [HS.out] at H ⊢
  generalize (w.alloc (.cells (rv n vd vw l b vo).toArray 31)).alloc (.cells #[.int .i64 0, .slice none 0 0, .slice none 0 0, .int .i64 0, .bool false, .slice none 0 0] 31) = w1 at H ⊢
  have c0 : w1.cell? ⟨S, 0, none⟩ = some (.int .i64 (n : Int)) := H.out.cell 0
  go_wp2_with (first
    | (refine wpList_ldD rfl _ rfl S (rv n vd vw l b vo) rfl H.out.hB rfl ?_)
    | (refine wpList_stD rfl _ _ rfl S w _ (rv n vd vw l b vo) rfl rfl H.out rfl (one_rv H1.out.1 H1.out.2.1 H1.out.2.2) ?_; intro w5 h5 b5 t5))
  (try simp only [Exit.inBlock, Exit.then])
  refine bodyPost_ret (results_D2 rfl _ _ (S + 1) _ rfl rfl h5) rfl ?_
  exact ⟨rfl, HS.out ▸ b5.below⟩
set_option maxRecDepth 20000 in
set_option maxHeartbeats 2000000 in
theorem rrestore_ok (w : World) (n : Nat) (vd vw vo : Value) (l : Int) (b : Bool) (hd : vd.oneCell' = true) (hw : vw.oneCell' = true) (ho : vo.oneCell' = true) (gm cm : Nat) (pl0 : Nat → List Int) (hs : w.ownsRow 0 9 1 (.slice (some ⟨gm, 0, none⟩) n cm) n ((List.range n).map (fun i => .string (strOfNums (pl0 i))))) (hp : ∀ i, (pl0 i).length = 192) (hn : n ≤ 4096) :
    Calls Try.prog 17 #[.agg (rv n vd vw l b vo).toArray, .slice (some ⟨gm, 0, none⟩) n cm] w fun e w' => ∃ vd', e = .returned (.tuple #[.agg (rv n vd' (.slice none 0 0) l b vo).toArray, .int .i64 0]) ∧ Below w.heap.size w w' ∧ Rw w' vd' (rl pl0 n) := by
  have HP : Box (w.ownsRow 0 9 1 (.slice (some ⟨gm, 0, none⟩) n cm) n ((List.range n).map (fun i => .string (strOfNums (pl0 i)))) ∧ (∀ i, (pl0 i).length = 192) ∧ n ≤ 4096) := ⟨hs, hp, hn⟩
  have hn9 : n < 9223372036854775807 := by omega
  clear hs hp hn
  have H1 : Box (vd.oneCell' = true ∧ vw.oneCell' = true ∧ vo.oneCell' = true) := ⟨hd, hw, ho⟩
  clear hd hw ho
  have H : Box (Bx w.heap.size w ((w.alloc (.cells (rv n vd vw l b vo).toArray 31)).alloc (.cells #[.int .i64 0, .slice none 0 0, .slice none 0 0, .int .i64 0, .bool false, .slice none 0 0] 31)) (rv n vd vw l b vo)) := ⟨Bx.start w _ _ rfl⟩
  obtain ⟨S, HS⟩ : ∃ S, Box (w.heap.size = S) := ⟨_, ⟨rfl⟩⟩
  go_enter Try.func17, Try.ntmps17
  go_upto_region 1 with fail
  rw [HS.out] at H ⊢
  generalize (w.alloc (.cells (rv n vd vw l b vo).toArray 31)).alloc (.cells #[.int .i64 0, .slice none 0 0, .slice none 0 0, .int .i64 0, .bool false, .slice none 0 0] 31) = w1 at H ⊢
  have c0 : w1.cell? ⟨S, 0, none⟩ = some (.int .i64 (n : Int)) := H.out.cell 0
  have H5 : Box (Tm S w w1 (rv n vd vw l b vo) (.slice none 0 0) (.slice none 0 0) [] (rl pl0 0)) := ⟨⟨H.out, Rw.nil _, Rw.nil _, fun q hq => by simp [Value.ownBlock] at hq⟩⟩
  clear H
  go_wp2
  clear c0
  go_loopw [6, 7] (fun lv jv wr => ∃ k : Nat, k ≤ n ∧ jv = .int .i64 k ∧ Box (Tm S w wr (rv n vd vw l b vo) (.slice none 0 0) lv [] (rl pl0 k))) (fun _ jv _ => n - (intOf jv).toNat)
  case atStart => exact ⟨0, Nat.zero_le _, rfl, H5⟩
  case round =>
    obtain ⟨k, hk, rfl, HK⟩ := hrel
    clear H5
    obtain ⟨al, cl, rfl⟩ := own_form2 HK.out.rl
    rw [length_rl] at HK ⊢
    by_cases hlt : k < n
    · obtain ⟨gm', cm', em, hcm⟩ := own_at1 (HK.out.bx.old HP.out.1) (by omega)
      simp only [Value.slice.injEq, Option.some.injEq, Addr.mk.injEq, and_true, true_and] at em
      obtain ⟨rfl, rfl⟩ := em
      have d2 : wr.cell? ⟨gm, k, none⟩ = some (.string (strOfNums (pl0 k))) := hcm k _ (by simp [hlt])
      have hsz : ((strOfNums (pl0 k)).size : Int) = 192 := by rw [size_str, HP.out.2.1]; rfl
      have HLN : Box ((k + 1) * 24 ≤ 140737488355328) := ⟨by have := HP.out.2.2; omega⟩
      have HF : Box (rl pl0 (k + 1) = rl pl0 k ++ [(k, pl0 k)]) := ⟨rl_succ _ _⟩
      have HLe : Box ((rl pl0 k).length = k) := ⟨length_rl _ _⟩
      clear hcm
      generalize rl pl0 k = N at HF HLe HK
      generalize pl0 k = X at d2 hsz HF
      have HK2 : Box (wr.ownsRow 0 82 2 (.slice al k cl) k (rcs N)) := ⟨by have h5 := HK.out.rl; unfold Rw at h5; rw [HLe.out] at h5; exact h5⟩
      go_wp2_with (at_builtin; refine wpList_app2 rfl _ _ 28 rfl 82 2 24 (.agg (rc (0, [])).toArray) Try.underlying28 infoW rfl (by decide) (.slice al k cl) k (rcs N) rfl (HK2.out.alloc _) ⟨wr.heap.size, 0, none⟩ 1 1 (rc (k, X)) rfl rfl (news_new wr (rc (k, X)) _) (one_rc _) HLN.out (by decide) ?_; intro v3 w3 hown hgr hblk; have H3 : Box (Tm S w w3 (rv n vd vw l b vo) (.slice none 0 0) v3 [] (N ++ [(k, X)])) := ⟨HK.out.step (by rw [HLe.out]; exact hown) hgr hblk⟩; obtain ⟨a3, c3, rfl⟩ := own_form2 hown; clear hown hgr hblk)
      exact ⟨⟨k + 1, by omega, by simp, ⟨by rw [HF.out]; exact H3.out⟩⟩, by simp [intOf]; omega⟩
    · obtain rfl : k = n := by omega
      have c1 : wr.cell? ⟨S, 1, none⟩ = some vd := HK.out.bx.cell 1
      have f1 := HK.out.bx.froz 1
      have c2 : (wr.setCell ⟨S, 1, none⟩ (.slice al k cl)).cell? ⟨S, 2, none⟩ = some vw := (HK.out.bx.put 1 _).cell 2
      have f2 := (HK.out.bx.put 1 (.slice al k cl)).froz 2
      have H2 : Box (Bx S w ((wr.setCell ⟨S, 1, none⟩ (.slice al k cl)).setCell ⟨S, 2, none⟩ (.slice none 0 0)) (rv k (.slice al k cl) (.slice none 0 0) l b vo)) := ⟨(HK.out.bx.put 1 _).put 2 _⟩
      have R2 : Box (Rw ((wr.setCell ⟨S, 1, none⟩ (.slice al k cl)).setCell ⟨S, 2, none⟩ (.slice none 0 0)) (.slice al k cl) (rl pl0 k)) := ⟨own_new HK.out.rl (turned_set (turned_set (Turned.refl _ _) (fp := fun k => k = S) rfl _) rfl _) (fun k e => by omega) (fun q hq => (HK.out.nl q hq).1)⟩
      go_upto_region 11 with fail
      generalize wr.setCell ⟨S, 1, none⟩ (.slice al k cl) = wp at H2 R2 c2 f2 ⊢
      go_upto_region 12 with fail
      generalize wp.setCell ⟨S, 2, none⟩ (.slice none 0 0) = w6 at H2 R2 ⊢
      clear c1 f1 c2 f2
      go_wp2_with (first
        | (refine wpList_ldD rfl _ rfl S (rv k (.slice al k cl) (.slice none 0 0) l b vo) rfl H2.out.hB rfl ?_)
        | (refine wpList_stD rfl _ _ rfl S w _ (rv k (.slice al k cl) (.slice none 0 0) l b vo) rfl rfl H2.out rfl (one_rv rfl rfl H1.out.2.2) ?_; intro w7 h7 b7 t7))
      (try simp only [Exit.inBlock, Exit.then])
      refine bodyPost_ret (results_D2 rfl _ _ (S + 1) _ rfl rfl h7) rfl ?_
      exact ⟨_, rfl, HS.out ▸ b7.below, own_new R2.out t7 (fun k e => by omega) (fun q hq => (HK.out.nl q hq).1)⟩
end Go.Proofs.Ytlokhbkjkobmaaa
