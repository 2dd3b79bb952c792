/-
  The reference of layer 6: more and noted.
-/
import Derived.Test.YtlokhbkjkobmaaaZN
namespace Go.Proofs.Ytlokhbkjkobmaaa
set_option linter.unusedVariables false
open Go.RowKit Plain

/-- Rows of one's own, not in old blocks. -/
theorem below_new {S : Nat} {w wr w' : World} {row : Option Nat} (hb : Below S w wr) (hS : S ≤ wr.heap.size) (hg : wr.grownBy w' row) (hr : ∀ k, row = some k → S ≤ k) : Below S w w' := hb.grown hg hS hr
set_option maxRecDepth 20000 in
set_option maxHeartbeats 2000000 in
theorem rmore_any (w : World) (v : Value) (L : List (Nat × List Int)) (x : Nat × List Int) (h : Rw w v L) (hl : L.length < 1000000) :
    Calls Try.prog 45 #[v, .agg (rc x).toArray] w fun e w' => ∃ v', e = .returned v' ∧ Rw w' v' (L ++ [x]) ∧ Below w.heap.size w w' ∧ ∀ k, v'.ownBlock = some k → w.heap.size ≤ k := by
  obtain ⟨a, cap, rfl⟩ := own_form2 h
  have hb0 : Below w.heap.size w (w.alloc (.cells (rc x).toArray 82)) := (Below.refl _ _).alloc (Nat.le_refl _) _
  have H : Box (Rw (w.alloc (.cells (rc x).toArray 82)) (.slice a L.length cap) L ∧ Below w.heap.size w (w.alloc (.cells (rc x).toArray 82)) ∧ (w.alloc (.cells (rc x).toArray 82)).heap[w.heap.size]? = some (.cells (rc x).toArray 82 (0, 0)) ∧ w.heap.size < (w.alloc (.cells (rc x).toArray 82)).heap.size) := ⟨h.below hb0, hb0, al_at rfl, by simp⟩
  have HB1 : Box ((0 + L.length) * 24 ≤ 140737488355328 ∧ (L.length + 1) * 24 ≤ 140737488355328) := ⟨by omega, by omega⟩
  obtain ⟨S, HS⟩ : ∃ S, Box (w.heap.size = S) := ⟨_, ⟨rfl⟩⟩
  clear h hb0 hl
  go_enter Try.func45, Try.ntmps45
  go_upto_region 1 with fail
  rw [HS.out] at H ⊢
  generalize w.alloc (.cells (rc x).toArray 82) = w1 at H ⊢
  go_upto_region 3 with (at_builtin; refine wpList_appv rfl _ _ 28 rfl 82 2 24 (.agg (rc (0, [])).toArray) Try.underlying28 infoW rfl (by decide) (.slice none 0 0) (.slice a L.length cap) 0 L.length [] (rcs L) rfl rfl (World.ownsRow_nil _ _ _ _) H.out.1 (one_rcs L) (by decide) HB1.out.1 ?_; intro v2 w2 hown hgr hblk; rw [Nat.zero_add, List.nil_append] at hown; have H2 : Box (w2.ownsRow 0 82 2 v2 L.length (rcs L) ∧ Below w1.heap.size w1 w2 ∧ ∀ k, v2.ownBlock = some k → w1.heap.size ≤ k) := ⟨hown, (Below.refl _ _).grown hgr (Nat.le_refl _) (fun k hk => by simp [Value.ownBlock] at hk), fun k hk => (hblk k hk).elim (fun h => by simp [Value.ownBlock] at h) id⟩; obtain ⟨a2, c2, rfl⟩ := own_form2 hown; clear hown hgr hblk)
  have hr2 : w2.heap[S]? = some (.cells (rc x).toArray 82 (0, 0)) := (H2.out.2.1.block S H.out.2.2.2).trans H.out.2.2.1
  have c0 : w2.cell? ⟨S, 0, none⟩ = some (.int .i64 (x.1 : Int)) := by rw [cell_of_row _ _ _ _ _ _ hr2]; rfl
  have c1 : w2.cell? ⟨S, 1, none⟩ = some (.string (strOfNums x.2)) := by rw [cell_of_row _ _ _ _ _ _ hr2]; rfl
  have H3 : Box (Below S w w2 ∧ S < w2.heap.size ∧ S < w1.heap.size) := ⟨H.out.2.1.trans (H2.out.2.1.mono (by have := H.out.2.2.2; omega)), Nat.lt_of_lt_of_le H.out.2.2.2 H2.out.2.1.size, H.out.2.2.2⟩
  clear hr2
  go_wp2_with (at_builtin; refine wpList_app2 rfl _ _ 28 rfl 82 2 24 (.agg (rc (0, [])).toArray) Try.underlying28 infoW rfl (by decide) (.slice a2 L.length c2) L.length (rcs L) rfl (H2.out.1.alloc _) ⟨w2.heap.size, 0, none⟩ 1 1 (rc x) rfl rfl (news_new w2 (rc x) _) (one_rc _) HB1.out.2 (by decide) ?_; intro v3 w3 hown hgr hblk; have H4 : Box (w3.ownsRow 0 82 2 v3 (L.length + 1) (rcs L ++ rc x) ∧ Below S w w3 ∧ ∀ k, v3.ownBlock = some k → S ≤ k) := ⟨hown, (H3.out.1.alloc (Nat.le_of_lt H3.out.2.1) _).grown hgr (by simp; exact Nat.le_of_lt (Nat.lt_succ_of_lt H3.out.2.1)) (fun k hk => by have := H2.out.2.2 k hk; have := H3.out.2.2; omega), fun k hk => (hblk k hk).elim (fun h => by have := H2.out.2.2 k h; have := H3.out.2.2; omega) (fun h => by have h9 := H3.out.2.1; simp at h; omega)⟩; obtain ⟨a3, c3, rfl⟩ := own_form2 hown; clear hown hgr hblk)
  go_ret
  refine ⟨_, rfl, ?_, HS.out ▸ H4.out.2.1, HS.out ▸ H4.out.2.2⟩
  have h5 := H4.out.1
  unfold Rw
  rw [rcs_snoc, List.length_append]
  exact h5
end Go.Proofs.Ytlokhbkjkobmaaa
