/-
  What the reference's Link of layer 13 answers, for every tag, place and bytes.
-/
import Derived.Lib.AppendStr
import Derived.Test.YtjdcccdkddnkgaaGreatDoorQ31
import Derived.Test.YtjdcccdkddnkgaaGreatDoorQ08
import Derived.Test.YtjdcccdkddnkgaaGreatDoorQ18
import Derived.Test.YtjdcccdkddnkgaaGreatDoorQ29
namespace Go.Proofs.YtjdcccdkddnkgaaGreatDoor
set_option maxRecDepth 100000
set_option linter.unusedVariables false
set_option maxRecDepth 100000
open Go.RowKit Plain
theorem rof (a : Option Addr) (len cap : Nat) (M : List Int) (w : World) (hb : Bytes w a len M) (hl : len ≤ 900000) :
    Calls Tryz.prog 68 #[.slice a len cap] w fun e w' => e = .returned (.agg (u8s (dsha M))) ∧ Below w.heap.size w w' := Dig.rof_any a len cap M w hb hl
theorem strCells_nums (L : List Int) (hL : Byt L) : Lib.strCells (strOfNums L) = L.map (Value.int .u8) := by
  unfold Lib.strCells
  rw [strOfNums_data, List.map_map]
  apply List.map_congr_left
  intro z hz
  obtain ⟨i, hi, rfl⟩ := List.getElem_of_mem hz
  have := hL i
  rw [List.getD, List.getElem?_eq_getElem hi, Option.getD_some] at this
  simp
  omega
/-- The bytes of a string appended to a row of the call's own. -/
theorem wpList_appStr {ops : Array Oper} {rest : List Oper} {o : Oper} {act : Act} {w : World} {Q : Exit → Act → World → Prop} (hgd : o.guard = none) (s x : Operand)
    (ho : o.op = .call { callee := .builtin .append, args := #[s, x], argTypes := #[57, 9] }) (base n : Nat) (v : Value) (A L : List Int) (w0 : World)
    (hs : act.eval s = v) (hx : act.eval x = .string (strOfNums L)) (hown : w.ownsRow base 5 1 v n (A.map (Value.int .u8))) (hL : Byt L) (hl : n + L.length ≤ 140737488355328) (hbel : Below base w0 w) (hbase : base ≤ w.heap.size)
    (h : ∀ v' w', Box (w'.ownsRow base 5 1 v' (n + L.length) ((A ++ L).map (Value.int .u8)) ∧ Below base w0 w' ∧ base ≤ w'.heap.size) → wpList Tryz.prog ops Q rest (act.put o.dst v') w') : wpList Tryz.prog ops Q (o :: rest) act w := by
  obtain ⟨i0, hi, hz0, hz1, hz2⟩ := info_parts info5
  have hsz := strOfNums_size L
  refine Lib.wpList_append_own_string w hgd s x 57 9 ho base 5 i0 Tryz.underlying57 Tryz.underlying9 hi hz0 hz1 hz2 v n _ hs hown (strOfNums L) hx (by rw [hsz]; unfold maxLen; omega) (by rw [hsz]; exact hl) hbase ?_
  intro v' w' h1 h2 _
  have hz := h2.size
  rw [hsz, strCells_nums L hL] at h1
  exact h v' w' ⟨by rw [List.map_append]; exact h1, hbel.grown h2 hbase (own_block_le hown), by omega⟩
/-- Bytes that were just laid down in a block of their own. -/
theorem own_lit (w : World) (A : List Int) (B : Nat) (hB : B ≤ w.heap.size) (hA : A.length ≤ maxLen) : (w.alloc (.cells (u8s A) 5)).ownsRow B 5 1 (.slice (some ⟨w.heap.size, 0, none⟩) A.length A.length) A.length (A.map (Value.int .u8)) := by
  refine ⟨by simp, .inr ⟨w.heap.size, A.length, u8s A, rfl, hB, heap_alloc_new w _, Nat.le_refl _, hA, by simp [u8s], ?_⟩⟩
  simp [u8s]
  exact List.take_of_length_le (by simp)
theorem rput4 (x x' : Int) (w : World) (hx : 0 ≤ x ∧ x ≤ 4294967295) (he : x' = x) :
    Calls Tryz.prog 67 #[.int .u64 x', .int .i64 4] w fun e w' => ∃ a' cap', e = .returned (.slice a' 4 cap') ∧ Bytes w' a' 4 (bytesOf x 4) ∧ Below w.heap.size w w' :=
  by subst he; exact (rput_any x' 4 4 w ⟨hx.1, by omega⟩ rfl (by omega)).mono fun e w' ⟨a', cap', he, ho⟩ => ⟨a', cap', he, ho.bytes (bytesOf_bd _ 4), ho.2.2⟩
set_option maxHeartbeats 2000000 in
theorem rlink_any (tag : List Int) (p : Int) (L : List Int) (w : World) (ht : tag.length = 32) (htb : Byt tag) (hp : 0 ≤ p ∧ p ≤ 4294967295) (hL : Byt L) (hl : L.length ≤ 800000) :
    Calls Tryz.prog 33 #[.agg (u8s tag), .int .u32 p, .string (strOfNums L)] w fun e w' => e = .returned (.agg (u8s (lnk tag p L))) ∧ Below w.heap.size w w' := by
  unfold lnk
  obtain ⟨X, HX⟩ : ∃ X, Box (dsha (lk tag p L) = X) := ⟨_, ⟨rfl⟩⟩
  have HXs : Box ((u8s X).size = 32) := ⟨by rw [← HX.out, size_u8s, length_dsha]⟩
  obtain ⟨S, hS⟩ : ∃ S, w.heap.size = S := ⟨_, rfl⟩
  have HS : Box (w.heap.size = S ∧ w.heap.size ≤ S + 1) := ⟨hS, by omega⟩
  have HL : Box (Byt L ∧ L.length ≤ 800000 ∧ Byt (lk tag p L)) := ⟨hL, hl, byt_cons _ _ (by omega) (byt_app _ _ htb (byt_app _ _ (bytesOf_bd _ 4) hL))⟩
  obtain ⟨s, HSt⟩ : ∃ s, Box (strOfNums L = s) := ⟨_, ⟨rfl⟩⟩
  have HD : Box ([255] ++ tag ++ bytesOf p 4 ++ L = lk tag p L) := ⟨by simp [lk]⟩
  obtain ⟨AT, hAT⟩ : ∃ A, u8s tag = A := ⟨_, rfl⟩
  obtain ⟨w1, hw1⟩ : ∃ w1, (w.alloc (.cells AT 23)).alloc (.cells (u8s z32) 23) = w1 := ⟨_, rfl⟩
  have hb1 : Below w.heap.size w w1 := by rw [← hw1]; exact ((Below.refl _ _).alloc (Nat.le_refl _) _).alloc (by simp) _
  have r0 : w1.heap[S]? = some (.cells (u8s tag) 23 (0, 0)) := by rw [← hw1, hAT]; exact al_old (al_at hS)
  have r1 : w1.heap[S + 1]? = some (.cells (u8s z32) 23 (0, 0)) := by rw [← hw1]; exact al_at (by simp [hS])
  have hsz1 : w1.heap.size = S + 2 := by rw [← hw1]; simp [hS]
  have hbt : Bytes w1 (some ⟨S, 0, none⟩) 32 tag := by have := bytes_of_row htb r0; rwa [ht] at this
  have H1 : Box (w1.heap[S + 1]? = some (.cells (u8s z32) 23 (0, 0)) ∧ Below w.heap.size w w1 ∧ w1.heap.size = S + 2 ∧ Bytes w1 (some ⟨S, 0, none⟩) 32 tag) := ⟨r1, hb1, hsz1, hbt⟩
  have hs2 : (w.alloc (.cells AT 23)).heap.size = S + 1 := by simp [hS]
  have HTG : Box (Byt tag ∧ tag.length = 32) := ⟨htb, ht⟩
  rw [HSt.out, hAT]
  clear hL hl ht htb hb1 r0 r1 hsz1 hbt hAT
  generalize lk tag p L = M at HX HL HD
  go_enter Tryz.func33, Tryz.ntmps33
  go_upto_region 1 with (refine wpList_run rfl _ _ (exec_alloc 23 rfl _ zeroSum) ?_)
  (try rw [hs2])
  (try simp only [hw1])
  clear hs2 hw1 hS
  have H2 : Box (Pu w1 (w1.alloc (.cells #[.int .u8 255] 5)) (S + 2) (.slice (some ⟨w1.heap.size, 0, none⟩) 1 1) 1 [255] ∧ Bytes (w1.alloc (.cells #[.int .u8 255] 5)) (some ⟨S, 0, none⟩) 32 tag) := ⟨⟨own_lit w1 [255] (S + 2) (by rw [H1.out.2.2.1]; exact Nat.le_refl _) (by simp [maxLen]), (Below.refl _ _).alloc (by rw [H1.out.2.2.1]; exact Nat.le_refl _) _, by simp [H1.out.2.2.1]⟩, H1.out.2.2.2.below ((Below.refl _ _).alloc (Nat.le_refl _) _)⟩
  go_upto_region 2 with fail
  generalize w1.alloc (.cells #[.int .u8 255] 5) = w2 at H2 ⊢
  generalize w1.heap.size = g1 at H2 ⊢
  go_upto_region 3 with (first
    | (at_builtin; refine Seal.wpList_app rfl (.tmp 9) (.tmp 10) rfl (S + 2) 1 32 _ _ [255] tag _ w2 rfl rfl H2.out.1.1 H2.out.2 (by decide) (Below.refl _ _) H2.out.1.2.2 ?_; intro v3 w3 h3; have H3 : Box (Pu w1 w3 (S + 2) v3 33 ([255] ++ tag)) := ⟨H2.out.1.app h3⟩; clear h3))
  clear H2
  go_upto_region 4 with (first
    | (go_at_call 67; refine Calls.mono (rput4 p _ _ hp (by first | rfl | (rw [IntKind.wrap_u64]; omega))) ?_; rintro e w4 ⟨a4, c4, rfl, hB, hb⟩; have H4 : Box (Pu w1 w4 (S + 2) v3 33 ([255] ++ tag) ∧ Bytes w4 a4 4 (bytesOf p 4)) := ⟨H3.out.below hb, hB⟩; clear hb hB)
    | (at_builtin; refine Seal.wpList_app rfl (.tmp 12) (.tmp 15) rfl (S + 2) 33 4 _ _ ([255] ++ tag) (bytesOf p 4) _ w4 rfl rfl H4.out.1.1 H4.out.2 (by decide) (Below.refl _ _) H4.out.1.2.2 ?_; intro v5 w5 h5; have H5 : Box (Pu w1 w5 (S + 2) v5 37 ([255] ++ tag ++ bytesOf p 4)) := ⟨H4.out.1.app h5⟩; clear h5))
  clear H3 H4
  go_upto_region 5 with (first
    | (at_builtin; rw [← HSt.out]; refine wpList_appStr rfl (.tmp 17) (.tmp 18) rfl (S + 2) 37 _ ([255] ++ tag ++ bytesOf p 4) L w5 rfl rfl H5.out.1 HL.out.1 (by have := HL.out.2.1; omega) (Below.refl _ _) H5.out.2.2 ?_; intro v6 w6 h6; have H6 : Box (Pu w1 w6 (S + 2) v6 (37 + L.length) M) := ⟨HD.out ▸ H5.out.app h6⟩; clear h6))
  obtain ⟨a6, c6, rfl⟩ := own_form H6.out.1
  have HC : Box (Calls Tryz.prog 68 #[.slice a6 (37 + L.length) c6] w6 fun e w' => e = .returned (.agg (u8s X)) ∧ Below w6.heap.size w6 w') := ⟨by
    have := rof a6 (37 + L.length) c6 M w6 (own_bytes H6.out.1 HL.out.2.2) (by have := HL.out.2.1; omega)
    rwa [HX.out] at this⟩
  have H7 : Box (w6.heap[S + 1]? = some (.cells (u8s z32) 23 (0, 0)) ∧ Below w.heap.size w w6) := ⟨(H6.out.2.1.block (S + 1) (by omega)).trans H1.out.1, H1.out.2.1.trans (H6.out.2.1.mono (by have := HS.out.1; omega))⟩
  clear H5 H6
  generalize 37 + L.length = len at HC ⊢
  go_wp2_with (first
    | (go_at_call 68; refine Calls.mono HC.out ?_; rintro e w7 ⟨rfl, hb⟩; have H8 : Box (w7.heap[S + 1]? = some (.cells (u8s z32) 23 (0, 0)) ∧ Below w.heap.size w w7) := ⟨(hb.block _ (Array.getElem?_eq_some_iff.1 H7.out.1).1).trans H7.out.1, below_to H7.out.2 hb⟩; clear hb)
    | (refine wpList_store_row rfl 23 _ _ rfl (S + 1) (u8s X) rfl rfl 23 (u8s z32) H8.out.1 (by rw [HXs.out]; exact infoSum) (by rw [HXs.out, size_u8s]; exact len_z32) (all_u8s X) ?_))
  (try simp only [Exit.inBlock, Exit.then])
  refine bodyPost_ret (results_cell_row (p := 6) (ty := 23) rfl _ _ (S + 1) 23 (u8s X) (0, 0) _ rfl (setRow_heap _ _ _ _ _ _ H8.out.1) Tryz.underlying23 rfl (by rw [HXs.out]; exact infoSum)) rfl ?_
  exact ⟨by rw [HX.out], below_but H8.out.2 (but_setRow _ _ _) HS.out.2 H8.out.2.size⟩
end Go.Proofs.YtjdcccdkddnkgaaGreatDoor
