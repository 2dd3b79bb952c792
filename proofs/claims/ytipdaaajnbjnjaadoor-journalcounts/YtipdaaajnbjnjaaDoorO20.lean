/-
  What the Go function Nonce of package cipher answers, for every place and version.
-/
import Derived.Deep.RegionLaw
import Derived.Test.YtipdaaajnbjnjaaDoorO19
namespace Go.Proofs.YtipdaaajnbjnjaaDoor.Seal.Plain
set_option maxRecDepth 100000
end Go.Proofs.YtipdaaajnbjnjaaDoor.Seal.Plain
namespace Go.Proofs.YtipdaaajnbjnjaaDoor.Seal
set_option maxRecDepth 100000
set_option linter.unusedVariables false
open Go.RowKit Go.Proofs.YtipdaaajnbjnjaaDoor.Plain Go.Proofs.YtipdaaajnbjnjaaDoor.Seal.Plain
theorem size5 : (Tryd.prog.info? 5).map (·.size) = some 1 := by kernel_rfl
theorem put_k (x' x : Int) (n : Nat) (ni : Int) (w : World) (hx0 : 0 ≤ x) (hx1 : x ≤ 18446744073709551615) (h1 : 1 ≤ n) (h2 : n ≤ 8) (h : ni = n) (hx : x' = x) :
    Calls Tryd.prog 42 #[.int .u64 x', .int .i64 ni] w fun e w' => ∃ g, e = .returned (.slice (some ⟨g, 0, none⟩) n n) ∧ Bytes w' (some ⟨g, 0, none⟩) n (bytesOf x n) ∧ Below w.heap.size w w' := by
  subst h
  subst hx
  exact (put_ok _ n w hx0 hx1 h1 h2).mono fun e w' ⟨g, he, ho⟩ => ⟨g, he, ho.bytes (bytesOf_bd _ n), ho.2.2⟩
/-- Noughts for the result in block S, and in the next one the bytes so far. -/
structure No (w wr : World) (S : Nat) (X : List Int) : Prop where
  res : wr.heap[S]? = some (.cells (fil8 [] 12) 158 (0, 0))
  out : wr.heap[S + 1]? = some (.cells (fil8 X 12).toList.toArray 158 (0, 0))
  bel : Below S w wr
theorem No.on {w wr wx : World} {S : Nat} {X : List Int} (h : No w wr S X) (hb : Below wr.heap.size wr wx) : No w wx S X := by
  have l1 := (Array.getElem?_eq_some_iff.1 h.res).1
  have l2 := (Array.getElem?_eq_some_iff.1 h.out).1
  exact ⟨(hb.block _ l1).trans h.res, (hb.block _ l2).trans h.out, h.bel.trans (hb.mono (by omega))⟩
theorem No.copy {w wr wx : World} {S : Nat} {X : List Int} (h : No w wr S X) (X' Y : List Int) (o : Nat) (ho : X.length = o) (hY : X.length + Y.length ≤ 12) (hg : wx.heap[S + 1]? = some (.cells (splice (fil8 X 12).toList o (Y.map (Value.int .u8))).toArray 158 (0, 0))) (hb : Below (S + 1) wr wx) : No w wx S (X ++ Y) := by
  subst ho
  exact ⟨(hb.block _ (by omega)).trans h.res, by rw [hg, fil8_splice X Y 12 hY], h.bel.trans (hb.mono (by omega))⟩
theorem no_len (X : List Int) : (fil8 X 12).toList.length = max X.length 12 := by simp [fil8, u8s]; omega
set_option maxRecDepth 20000 in
set_option maxHeartbeats 1000000 in
theorem nonce_any (p v : Int) (w : World) (hp : W32 p) (hv : 0 ≤ v ∧ v ≤ 18446744073709551615) :
    Calls Tryd.prog 89 #[.int .u32 p, .int .u64 v] w fun e w' => e = .returned (.agg (u8s (non p v))) ∧ Below w.heap.size w w' := by
  obtain ⟨hp0, hp1⟩ := hp
  obtain ⟨S, hS⟩ : ∃ S, w.heap.size = S := ⟨_, rfl⟩
  have HS : Hid (w.heap.size = S) := hS
  have I0 : Box (No w ((w.alloc (.cells (fil8 [] 12) 158)).alloc (.cells (fil8 [] 12) 158)) S []) := ⟨al_old (al_at hS), al_at (by simp [hS]), by rw [← hS]; exact ((Below.refl _ _).alloc (Nat.le_refl _) _).alloc (by simp) _⟩
  have z12 : fil8 [] 12 = #[.int .u8 0, .int .u8 0, .int .u8 0, .int .u8 0, .int .u8 0, .int .u8 0, .int .u8 0, .int .u8 0, .int .u8 0, .int .u8 0, .int .u8 0, .int .u8 0] := rfl
  rw [z12] at I0
  clear hS z12
  go_enter Tryd.func89, Tryd.ntmps89
  go_wp2
  rw [HS.out]
  generalize (w.alloc (.cells _ 158)).alloc _ = x0 at I0 ⊢
  have I0d : Box (No w x0.drew S []) := ⟨I0.out.res, I0.out.out, I0.out.bel.drew⟩
  clear I0
  refine wp_region_any (by kernel_rfl) ?_
  change wpAny _ _ _ _ _ _ _ (World.drew _)
  generalize World.drew x0 = y2 at I0d ⊢
  refine wpAny_take (i := 0) (v := ?_) rfl (by kernel_rfl) (by kernel_rfl) (by kernel_rfl) (fun _ _ _ h => h) (Or.inl ⟨by rfl, ?_⟩) ?_
  rotate_left
  · intro w'; go_simp <;> with_reducible rfl
  try simp only [Act.put, List.setIfInBounds_toArray, List.set_cons_zero, List.set_cons_succ, List.getElem_toArray, List.getElem_cons_zero]
  refine wpAny_take (i := 1) (v := ?_) rfl (by kernel_rfl) (by kernel_rfl) (by kernel_rfl) (fun _ _ _ h => h) (Or.inl ⟨by rfl, ?_⟩) ?_
  rotate_left
  · intro w'; go_simp <;> with_reducible rfl
  try simp only [Act.put, List.setIfInBounds_toArray, List.set_cons_zero, List.set_cons_succ, List.getElem_toArray, List.getElem_cons_zero, List.getElem_cons_succ]
  refine wpAny_take (i := 2) (v := ?_) rfl (by kernel_rfl) (by kernel_rfl) (by kernel_rfl) (fun _ _ _ h => h) (Or.inl ⟨by rfl, ?_⟩) ?_
  rotate_left
  · intro w'; go_simp <;> with_reducible rfl
  try simp only [Act.put, List.setIfInBounds_toArray, List.set_cons_zero, List.set_cons_succ, List.getElem_toArray, List.getElem_cons_zero, List.getElem_cons_succ]
  refine wpAny_ready (rs := [3]) (by kernel_rfl) (by simp) ?_
  refine AllReady.cons rfl (fun K hK => ?_) AllReady.nil
  rw [if_pos (by rfl)]
  go_simp
  refine Calls.mono (put_k _ p 4 _ _ (by omega) (by omega) (by omega) (by omega) rfl (by first | rfl | (rw [IntKind.wrap_u64]; omega))) ?_
  rintro e x1 ⟨g2, rfl, hB2, hb2⟩
  have H2 : Box (No w x1 S [] ∧ Bytes x1 (some ⟨g2, 0, none⟩) 4 (bytesOf p 4)) := ⟨(I0d.out).on hb2, hB2⟩
  clear hB2 hb2
  refine hK _ _ ?_
  clear hK K
  try simp only [Act.put, List.setIfInBounds_toArray, List.set_cons_zero, List.set_cons_succ, List.getElem_toArray, List.getElem_cons_zero, List.getElem_cons_succ]
  refine wpAny_ready (rs := [4]) (by kernel_rfl) (by simp) ?_
  refine AllReady.cons rfl (fun K hK => ?_) AllReady.nil
  refine step_copy_splice rfl (.tmp 6) (.tmp 9) 64 64 rfl 5 Tryd.underlying64 size5 _ _ _ _ _ _ rfl rfl (S + 1) 0 (fil8 [] 12).toList 158 H2.out.1.out ((bytesOf p 4).map (Value.int .u8)) (by rw [List.length_map, length_bytesOf]; rfl) (fun hq => ⟨rfl, H2.out.2.src (by omega)⟩) (by rw [List.length_map, length_bytesOf, no_len]; omega) (ints_oneCell _ _) (S + 1) x1 (Below.refl _ _) (Nat.le_refl _) ?_
  intro x2 hg2 hb2
  have I2 : Box (No w x2 S (bytesOf p 4)) := ⟨H2.out.1.copy ([]) (bytesOf p 4) 0 rfl (by simp [length_bytesOf]) hg2.out hb2⟩
  clear hg2 hb2 H2
  refine hK _ _ ?_
  clear hK K
  try simp only [Act.put, List.setIfInBounds_toArray, List.set_cons_zero, List.set_cons_succ, List.getElem_toArray, List.getElem_cons_zero, List.getElem_cons_succ]
  refine wpAny_done (by kernel_rfl) ?_ _
  clear I0d
  go_wp2
  have I2d : Box (No w x2.drew S (bytesOf p 4)) := ⟨I2.out.res, I2.out.out, I2.out.bel.drew⟩
  clear I2
  refine wp_region_any (by kernel_rfl) ?_
  change wpAny _ _ _ _ _ _ _ (World.drew _)
  generalize World.drew x2 = y3 at I2d ⊢
  refine wpAny_take (i := 0) (v := ?_) rfl (by kernel_rfl) (by kernel_rfl) (by kernel_rfl) (fun _ _ _ h => h) (Or.inl ⟨by rfl, ?_⟩) ?_
  rotate_left
  · intro w'; go_simp <;> with_reducible rfl
  try simp only [Act.put, List.setIfInBounds_toArray, List.set_cons_zero, List.set_cons_succ, List.getElem_toArray, List.getElem_cons_zero]
  refine wpAny_take (i := 1) (v := ?_) rfl (by kernel_rfl) (by kernel_rfl) (by kernel_rfl) (fun _ _ _ h => h) (Or.inl ⟨by rfl, ?_⟩) ?_
  rotate_left
  · intro w'; go_simp <;> with_reducible rfl
  try simp only [Act.put, List.setIfInBounds_toArray, List.set_cons_zero, List.set_cons_succ, List.getElem_toArray, List.getElem_cons_zero, List.getElem_cons_succ]
  refine wpAny_ready (rs := [2]) (by kernel_rfl) (by simp) ?_
  refine AllReady.cons rfl (fun K hK => ?_) AllReady.nil
  rw [if_pos (by rfl)]
  go_simp
  refine Calls.mono (put_k _ v 8 _ _ (by omega) (by omega) (by omega) (by omega) rfl (by first | rfl | (rw [IntKind.wrap_u64]; omega))) ?_
  rintro e x3 ⟨g3, rfl, hB3, hb3⟩
  have H3 : Box (No w x3 S (bytesOf p 4) ∧ Bytes x3 (some ⟨g3, 0, none⟩) 8 (bytesOf v 8)) := ⟨(I2d.out).on hb3, hB3⟩
  clear hB3 hb3
  refine hK _ _ ?_
  clear hK K
  try simp only [Act.put, List.setIfInBounds_toArray, List.set_cons_zero, List.set_cons_succ, List.getElem_toArray, List.getElem_cons_zero, List.getElem_cons_succ]
  refine wpAny_ready (rs := [3]) (by kernel_rfl) (by simp) ?_
  refine AllReady.cons rfl (fun K hK => ?_) AllReady.nil
  refine step_copy_splice rfl (.tmp 11) (.tmp 13) 64 64 rfl 5 Tryd.underlying64 size5 _ _ _ _ _ _ rfl rfl (S + 1) 4 (fil8 (bytesOf p 4) 12).toList 158 H3.out.1.out ((bytesOf v 8).map (Value.int .u8)) (by rw [List.length_map, length_bytesOf]; rfl) (fun hq => ⟨rfl, H3.out.2.src (by omega)⟩) (by rw [List.length_map, length_bytesOf, no_len]; omega) (ints_oneCell _ _) (S + 1) x3 (Below.refl _ _) (Nat.le_refl _) ?_
  intro x4 hg3 hb3
  have I3 : Box (No w x4 S (non p v)) := ⟨H3.out.1.copy ((bytesOf p 4)) (bytesOf v 8) 4 (length_bytesOf p 4) (by simp [length_bytesOf]) hg3.out hb3⟩
  clear hg3 hb3 H3
  refine hK _ _ ?_
  clear hK K
  try simp only [Act.put, List.setIfInBounds_toArray, List.set_cons_zero, List.set_cons_succ, List.getElem_toArray, List.getElem_cons_zero, List.getElem_cons_succ]
  refine wpAny_done (by kernel_rfl) ?_ _
  clear I2d
  obtain ⟨X, HX⟩ := named (non p v)
  have hXl : X.length = 12 := by rw [← HX.out]; exact length_non p v
  rw [HX.out] at I3
  have hsz : (u8s X).size = 12 := by rw [size_u8s, hXl]
  have hall := all_u8s X
  have HW := I3.out.out
  rw [fil8_full X 12 hXl] at HW
  have HF : Box (x4.heap[S + 1]? = some (.cells (u8s X) 158 (0, 0)) ∧ x4.heap[S]? = some (.cells (fil8 [] 12) 158 (0, 0)) ∧ Below S w x4) := ⟨HW, I3.out.res, I3.out.bel⟩
  clear HW I3
  go_wp2_with (first | (refine wpList_load_row rfl 158 _ rfl (S + 1) rfl 158 (u8s X) (0, 0) _ HF.out.1 Tryd.underlying158 rfl (by rw [hsz]; kernel_rfl) ?_) | (refine wpList_store_row rfl 158 _ _ rfl S (u8s X) rfl rfl 158 (fil8 [] 12) HF.out.2.1 (by rw [hsz]; kernel_rfl) (by rw [hsz]; rfl) hall ?_))
  (try simp only [Exit.inBlock, Exit.then])
  refine bodyPost_ret (results_cell_row (p := 4) (ty := 158) rfl _ _ S 158 (u8s X) (0, 0) _ rfl (setRow_heap _ _ _ _ _ _ HF.out.2.1) Tryd.underlying158 rfl (by rw [hsz]; kernel_rfl)) rfl ?_
  exact ⟨by rw [HX.out], by rw [HS.out]; exact below_setRow HF.out.2.2 (Nat.le_refl _) _⟩
end Go.Proofs.YtipdaaajnbjnjaaDoor.Seal
