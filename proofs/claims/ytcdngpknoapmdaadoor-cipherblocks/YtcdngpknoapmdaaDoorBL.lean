/-
  The walk of CipherBlocks: a block of the stream, of any key, counter and nonce, is the reference's: the law returns true, in every memory that holds the package's table.
-/
import Derived.Test.YtcdngpknoapmdaaDoorTW
import Derived.Test.YtcdngpknoapmdaaDoorEQ
import Derived.Test.YtcdngpknoapmdaaDoorRB
namespace Go.Proofs.YtcdngpknoapmdaaDoor
set_option linter.unusedVariables false
open Go.RowKit Plain

set_option maxRecDepth 20000 in
set_option maxHeartbeats 1000000 in
theorem blocks_in (K N : List Int) (c : Int) (w : World) (hT : Tab w) (hKl : K.length = 32) (hKb : Byt K) (hNl : N.length = 12) (hNb : Byt N) (hc : W32 c) :
    Calls Tryd.prog 3 #[.agg (u8s K), .int .u32 c, .agg (u8s N)] w fun e w' => e = .returned (.bool true) ∧ Below w.heap.size w w' := by
  obtain ⟨X, EX⟩ := named (blk K c N)
  have hXl : X.length = 64 := by rw [← EX.out]; exact length_blk _ _ _
  have q := eq64 X X hXl hXl
  rw [show decide (X = X) = true by simp] at q
  have HT : Box (∀ x, Below w.heap.size w x → Tab x) := ⟨fun x hx => hT.below hx⟩
  have C1 : Box (∀ x, Tab x → Calls Tryd.prog 10 #[.agg (u8s K), .int .u32 c, .agg (u8s N)] x fun e w' => e = .returned (.agg (u8s X)) ∧ Below x.heap.size x w') := ⟨fun x hx => by rw [← EX.out]; exact block_any K N c x hKb hKl hNb hNl hc hx⟩
  have C2 : Box (∀ x, Calls Tryd.prog 11 #[.agg (u8s K), .int .u32 c, .agg (u8s N)] x fun e w' => e = .returned (.agg (u8s X)) ∧ Below x.heap.size x w') := ⟨fun x => by rw [← EX.out]; exact rblock_any K N c x hKb hKl hNb hNl hc⟩
  have HA : Box (∀ x, Tab x → Calls Tryd.prog 9 #[] x fun e w' => e = .returned (.bool true) ∧ Below x.heap.size x w') := ⟨fun x hx => awake_any x hx⟩
  obtain ⟨S, hS⟩ : ∃ S, w.heap.size = S := ⟨_, rfl⟩
  have HS : Hid (w.heap.size = S) := hS
  have H0 : Box (Tw w ((w.alloc (.cells (u8s K) 23)).alloc (.cells (u8s N) 25)) S K N) := ⟨al_old (al_at hS), al_at (by simp [hS]), ((Below.refl _ _).alloc (Nat.le_refl _) _).alloc (by simp) _⟩
  clear hS hT hKb hNb hc EX
  go_enter Tryd.func3, Tryd.ntmps3
  go_upto_region 1 with fail
  rw [HS.out]
  generalize (w.alloc (.cells (u8s K) 23)).alloc (.cells (u8s N) 25) = x0 at H0 ⊢
  go_upto_region 4 with (go_at_call 9; refine (HA.out x0 (HT.out x0 H0.out.2.2)).mono ?_; rintro e w1 ⟨rfl, hb1⟩; have H1 : Box (Tw w w1 S K N) := ⟨H0.out.on hb1⟩; clear hb1)
  refine Seq.begin_any (by kernel_rfl) (fun wd hd => ?_)
  refine Seq.take_lat (i := 0) (v := .agg (u8s K)) rfl (by kernel_rfl) (by kernel_rfl) (by kernel_rfl) (fun _ _ _ h => h) (by rfl) (fun w' hLat => exec_load8 23 32 Tryd.underlying23 size32 (.tmp 3) rfl S rfl K hKl (row_on ((H1.out.on hd).1) hLat)) ?_
  try simp only [Act.put, List.setIfInBounds_toArray, List.set_cons_zero, List.set_cons_succ, List.getElem_toArray, List.getElem_cons_zero]
  refine Seq.take_lat (i := 1) (v := ?_) rfl (by kernel_rfl) (by kernel_rfl) (by kernel_rfl) (fun _ _ _ h => h) (by rfl) ?_ ?_
  rotate_left
  · intro w' hLat; change Below _ _ _ at hLat; go_simp <;> with_reducible rfl
  try simp only [Act.put, List.setIfInBounds_toArray, List.set_cons_zero, List.set_cons_succ, List.getElem_toArray, List.getElem_cons_zero, List.getElem_cons_succ]
  refine Seq.take_lat (i := 2) (v := .agg (u8s N)) rfl (by kernel_rfl) (by kernel_rfl) (by kernel_rfl) (fun _ _ _ h => h) (by rfl) (fun w' hLat => exec_load8 25 12 Tryd.underlying25 size12 (.tmp 5) rfl (S + 1) rfl N hNl (row_on ((H1.out.on hd).2.1) hLat)) ?_
  try simp only [Act.put, List.setIfInBounds_toArray, List.set_cons_zero, List.set_cons_succ, List.getElem_toArray, List.getElem_cons_zero, List.getElem_cons_succ]
  refine Seq.take_lat (i := 4) (v := .agg (u8s K)) rfl (by kernel_rfl) (by kernel_rfl) (by kernel_rfl) (fun _ _ _ h => h) (by rfl) (fun w' hLat => exec_load8 23 32 Tryd.underlying23 size32 (.tmp 3) rfl S rfl K hKl (row_on ((H1.out.on hd).1) hLat)) ?_
  try simp only [Act.put, List.setIfInBounds_toArray, List.set_cons_zero, List.set_cons_succ, List.getElem_toArray, List.getElem_cons_zero, List.getElem_cons_succ]
  refine Seq.take_lat (i := 5) (v := ?_) rfl (by kernel_rfl) (by kernel_rfl) (by kernel_rfl) (fun _ _ _ h => h) (by rfl) ?_ ?_
  rotate_left
  · intro w' hLat; change Below _ _ _ at hLat; go_simp <;> with_reducible rfl
  try simp only [Act.put, List.setIfInBounds_toArray, List.set_cons_zero, List.set_cons_succ, List.getElem_toArray, List.getElem_cons_zero, List.getElem_cons_succ]
  refine Seq.take_lat (i := 6) (v := .agg (u8s N)) rfl (by kernel_rfl) (by kernel_rfl) (by kernel_rfl) (fun _ _ _ h => h) (by rfl) (fun w' hLat => exec_load8 25 12 Tryd.underlying25 size12 (.tmp 5) rfl (S + 1) rfl N hNl (row_on ((H1.out.on hd).2.1) hLat)) ?_
  try simp only [Act.put, List.setIfInBounds_toArray, List.set_cons_zero, List.set_cons_succ, List.getElem_toArray, List.getElem_cons_zero, List.getElem_cons_succ]
  refine Seq.only_lat (i := 3) rfl (by kernel_rfl) (fun KK hK => ?_)
  rw [if_pos (by rfl)]
  go_simp
  refine Calls.mono (C1.out wd (HT.out wd (H1.out.on hd).2.2)) ?_
  rintro e w2 ⟨rfl, hb2⟩
  have H2 : Box (Below w.heap.size w w2) := ⟨below_to (H1.out.on hd).2.2 hb2⟩
  refine hK.out _ _ hb2 ?_
  clear hb2
  clear hK KK
  try simp only [Act.put, List.setIfInBounds_toArray, List.set_cons_zero, List.set_cons_succ, List.getElem_toArray, List.getElem_cons_zero, List.getElem_cons_succ]
  refine Seq.only_lat (i := 7) rfl (by kernel_rfl) (fun KK hK => ?_)
  rw [if_pos (by rfl)]
  go_simp
  refine Calls.mono (C2.out w2) ?_
  rintro e w3 ⟨rfl, hb3⟩
  have H3 : Box (Below w.heap.size w w3) := ⟨below_to H2.out hb3⟩
  refine hK.out _ _ hb3 ?_
  clear hb3
  clear hK KK
  try simp only [Act.put, List.setIfInBounds_toArray, List.set_cons_zero, List.set_cons_succ, List.getElem_toArray, List.getElem_cons_zero, List.getElem_cons_succ]
  refine Seq.take_lat (i := 8) (v := ?_) rfl (by kernel_rfl) (by kernel_rfl) (by kernel_rfl) (fun _ _ _ h => h) (by rfl) ?_ ?_
  rotate_left
  · intro w' hLat; change Below _ _ _ at hLat; go_simp <;> with_reducible rfl
  try simp only [Act.put, List.setIfInBounds_toArray, List.set_cons_zero, List.set_cons_succ, List.getElem_toArray, List.getElem_cons_zero, List.getElem_cons_succ]
  refine Seq.take_lat (i := 9) (v := ?_) rfl (by kernel_rfl) (by kernel_rfl) (by kernel_rfl) (fun _ _ _ h => h) (by rfl) ?_ ?_
  rotate_left
  · intro w' hLat; change Below _ _ _ at hLat; go_simp <;> with_reducible rfl
  try simp only [Act.put, List.setIfInBounds_toArray, List.set_cons_zero, List.set_cons_succ, List.getElem_toArray, List.getElem_cons_zero, List.getElem_cons_succ]
  refine wpAnyH_done (by kernel_rfl) ?_ _
  go_wp2
  go_ret
  exact ⟨rfl, H3.out⟩
theorem cipherBlocks_walk (K : List Int) (c : Int) (N : List Int) (W : World) (hT : Tab W) (hKl : K.length = 32) (hKb : Byt K) (w1 : (Lit.int .u32 c).wf = true) (hNl : N.length = 12) (hNb : Byt N) :
    Calls Tryd.prog 3 #[.agg (u8s K), .int .u32 c, .agg (u8s N)] W fun e w' => e = .returned (.bool true) ∧ Below W.heap.size W w' := by
  have b1 := bounds_u32 w1
  exact blocks_in K N c W hT hKl hKb hNl hNb ⟨by omega, by omega⟩
end Go.Proofs.YtcdngpknoapmdaaDoor
