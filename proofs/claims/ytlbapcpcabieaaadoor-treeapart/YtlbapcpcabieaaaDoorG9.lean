/-
  What the reference's Digest of layer 10 answers, for every level, place and bytes.
-/
import Derived.Test.YtlbapcpcabieaaaDoorG7
import Derived.Test.YtlbapcpcabieaaaDoorHB4
import Derived.Lib.AppendStr
namespace Go.Proofs.YtlbapcpcabieaaaDoor
set_option linter.unusedVariables false
open Go.RowKit Plain

theorem rof (a : Option Addr) (len cap : Nat) (M : List Int) (w : World) (hb : Bytes w a len M) (hl : len ≤ 900000) :
    Calls Tryd.prog 20 #[.slice a len cap] w fun e w' => e = .returned (.agg (u8s (dsha M))) ∧ Below w.heap.size w w' := Dig.rof_any a len cap M w hb hl
theorem strCells_nums (L : List Int) (hL : Byt L) : Lib.strCells (strOfNums L) = L.map (Value.int .u8) := by
  unfold Lib.strCells
  rw [strOfNums_data, List.map_map]
  apply List.map_congr_left
  intro z hz
  obtain ⟨i, hi, rfl⟩ := List.getElem_of_mem hz
  have := hL i
  rw [List.getD, List.getElem?_eq_getElem hi, Option.getD_some] at this
  simp
  omega
/-- The bytes of a string appended to a row of the call's own. -/
theorem wpList_appS {ops : Array Oper} {rest : List Oper} {o : Oper} {act : Act} {w : World} {Q : Exit → Act → World → Prop} (hgd : o.guard = none) (s x : Operand)
    (ho : o.op = .call { callee := .builtin .append, args := #[s, x], argTypes := #[29, 9] }) (base n : Nat) (v : Value) (A L : List Int) (w0 : World)
    (hs : act.eval s = v) (hx : act.eval x = .string (strOfNums L)) (hown : w.ownsRow base 5 1 v n (A.map (Value.int .u8))) (hL : Byt L) (hl : n + L.length ≤ 140737488355328) (hbel : Below base w0 w) (hbase : base ≤ w.heap.size)
    (h : ∀ v' w', Box (w'.ownsRow base 5 1 v' (n + L.length) ((A ++ L).map (Value.int .u8)) ∧ Below base w0 w' ∧ base ≤ w'.heap.size) → wpList Tryd.prog ops Q rest (act.put o.dst v') w') : wpList Tryd.prog ops Q (o :: rest) act w := by
  obtain ⟨i0, hi, hz0, hz1, hz2⟩ := info_parts info5
  have hsz := strOfNums_size L
  refine Lib.wpList_append_own_string w hgd s x 29 9 ho base 5 i0 Tryd.underlying29 Tryd.underlying9 hi hz0 hz1 hz2 v n _ hs hown (strOfNums L) hx (by rw [hsz]; unfold maxLen; omega) (by rw [hsz]; exact hl) hbase ?_
  intro v' w' h1 h2 _
  have hz := h2.size
  rw [hsz, strCells_nums L hL] at h1
  exact h v' w' ⟨by rw [List.map_append]; exact h1, hbel.grown h2 hbase (own_block_le hown), by omega⟩
/-- Bytes that were just laid down in a block of their own. -/
theorem own_lit (w : World) (A : List Int) (B : Nat) (hB : B ≤ w.heap.size) (hA : A.length ≤ maxLen) : (w.alloc (.cells (u8s A) 5)).ownsRow B 5 1 (.slice (some ⟨w.heap.size, 0, none⟩) A.length A.length) A.length (A.map (Value.int .u8)) := by
  refine ⟨by simp, .inr ⟨w.heap.size, A.length, u8s A, rfl, hB, heap_alloc_new w _, Nat.le_refl _, hA, by simp [u8s], ?_⟩⟩
  simp [u8s]
  exact List.take_of_length_le (by simp)
theorem rput4 (x : Int) (w : World) (hx : 0 ≤ x ∧ x ≤ 4294967295) :
    Calls Tryd.prog 24 #[.int .u64 x, .int .i64 4] w fun e w' => ∃ a' cap', e = .returned (.slice a' 4 cap') ∧ Bytes w' a' 4 (bytesOf x 4) ∧ Below w.heap.size w w' :=
  (rput_any x 4 4 w ⟨hx.1, by omega⟩ rfl (by omega)).mono fun e w' ⟨a', cap', he, ho⟩ => ⟨a', cap', he, ho.bytes (bytesOf_bd _ 4), ho.2.2⟩

set_option maxRecDepth 20000 in
set_option maxHeartbeats 1000000 in
theorem rdigest_any (l p : Int) (L : List Int) (w : World) (hp : 0 ≤ p ∧ p ≤ 4294967295) (hL : Byt L) (hl : L.length ≤ 800000) :
    Calls Tryd.prog 15 #[.int .i64 l, .int .u32 p, .string (strOfNums L)] w fun e w' => e = .returned (.agg (u8s (dsha (dg l p L)))) ∧ Below w.heap.size w w' := by
  obtain ⟨X, HX⟩ : ∃ X, Box (dsha (dg l p L) = X) := ⟨_, ⟨rfl⟩⟩
  have HXs : Box ((u8s X).size = 32) := ⟨by rw [← HX.out, size_u8s, length_dsha]⟩
  obtain ⟨S, hS⟩ : ∃ S, w.heap.size = S := ⟨_, rfl⟩
  have HS : Box (w.heap.size = S) := ⟨hS⟩
  have HL : Box (Byt L ∧ L.length ≤ 800000 ∧ Byt (dg l p L)) := ⟨hL, hl, byt_cons _ _ (by omega) (byt_app _ _ (bytesOf_bd _ 4) hL)⟩
  obtain ⟨s, HSt⟩ : ∃ s, Box (strOfNums L = s) := ⟨_, ⟨rfl⟩⟩
  have HD : Box ([l % 256] ++ bytesOf p 4 ++ L = dg l p L) := ⟨by simp [dg]⟩
  have H1 : Box ((w.alloc (.cells (u8s z32) 23)).heap[S]? = some (.cells (u8s z32) 23 (0, 0)) ∧ Below w.heap.size w (w.alloc (.cells (u8s z32) 23)) ∧ (w.alloc (.cells (u8s z32) 23)).heap.size = S + 1) := ⟨al_at HS.out, (Below.refl _ _).alloc (Nat.le_refl _) _, by simp [hS]⟩
  rw [HSt.out]
  clear hL hl hS
  generalize dg l p L = M at HX HL HD
  go_enter Tryd.func15, Tryd.ntmps15
  go_upto_region 1 with (refine wpList_run rfl _ _ (exec_alloc 23 rfl _ zeroS) ?_)
  rw [HS.out]
  generalize w.alloc (.cells (u8s z32) 23) = w1 at H1 ⊢
  have H2 : Box (Pu w1 (w1.alloc (.cells #[.int .u8 (l % 256)] 5)) (S + 1) (.slice (some ⟨w1.heap.size, 0, none⟩) 1 1) 1 [l % 256]) := ⟨own_lit w1 [l % 256] (S + 1) (by rw [H1.out.2.2]; exact Nat.le_refl _) (by simp [maxLen]), (Below.refl _ _).alloc (by rw [H1.out.2.2]; exact Nat.le_refl _) _, by simp [H1.out.2.2]⟩
  go_upto_region 2 with fail
  generalize w1.alloc (.cells #[.int .u8 (l % 256)] 5) = w2 at H2 ⊢
  generalize w1.heap.size = g1 at H2 ⊢
  go_upto_region 3 with (first
    | (go_at_call 24; refine Calls.mono (rput4 p _ hp) ?_; rintro e w3 ⟨a3, c3, rfl, hB, hb⟩; have H3 : Box (Pu w1 w3 (S + 1) (.slice (some ⟨g1, 0, none⟩) 1 1) 1 [l % 256] ∧ Bytes w3 a3 4 (bytesOf p 4)) := ⟨H2.out.below hb, hB⟩; clear hb hB)
    | (at_builtin; refine wpList_app rfl (.tmp 11) (.tmp 14) rfl (S + 1) 1 4 _ _ [l % 256] (bytesOf p 4) _ w3 rfl rfl H3.out.1.1 H3.out.2 (by decide) (Below.refl _ _) H3.out.1.2.2 ?_; intro v4 w4 h4; have H4 : Box (Pu w1 w4 (S + 1) v4 5 ([l % 256] ++ bytesOf p 4)) := ⟨H3.out.1.app h4⟩; clear h4))
  clear H2 H3
  go_upto_region 4 with (first
    | (at_builtin; rw [← HSt.out]; refine wpList_appS rfl (.tmp 16) (.tmp 17) rfl (S + 1) 5 _ ([l % 256] ++ bytesOf p 4) L w4 rfl rfl H4.out.1 HL.out.1 (by have := HL.out.2.1; omega) (Below.refl _ _) H4.out.2.2 ?_; intro v5 w5 h5; have H5 : Box (Pu w1 w5 (S + 1) v5 (5 + L.length) M) := ⟨HD.out ▸ H4.out.app h5⟩; clear h5))
  obtain ⟨a5, c5, rfl⟩ := own_form H5.out.1
  have HC : Box (Calls Tryd.prog 20 #[.slice a5 (5 + L.length) c5] w5 fun e w' => e = .returned (.agg (u8s X)) ∧ Below w5.heap.size w5 w') := ⟨by
    have := rof a5 (5 + L.length) c5 M w5 (own_bytes H5.out.1 HL.out.2.2) (by have := HL.out.2.1; omega)
    rwa [HX.out] at this⟩
  have H6 : Box (w5.heap[S]? = some (.cells (u8s z32) 23 (0, 0)) ∧ Below w.heap.size w w5) := ⟨(H5.out.2.1.block S (by omega)).trans H1.out.1, H1.out.2.1.trans (H5.out.2.1.mono (by rw [HS.out]; omega))⟩
  clear H4 H5
  generalize 5 + L.length = len at HC ⊢
  go_wp2_with (first
    | (go_at_call 20; refine Calls.mono HC.out ?_; rintro e w7 ⟨rfl, hb⟩; have H7 : Box (w7.heap[S]? = some (.cells (u8s z32) 23 (0, 0)) ∧ Below w.heap.size w w7) := ⟨(hb.block _ (Array.getElem?_eq_some_iff.1 H6.out.1).1).trans H6.out.1, below_to H6.out.2 hb⟩; clear hb)
    | (refine wpList_store_row rfl 23 _ _ rfl S (u8s X) rfl rfl 23 (u8s z32) H7.out.1 (by rw [HXs.out]; exact infoS) (by rw [HXs.out, size_u8s]; exact len_z32) (all_u8s X) ?_))
  (try simp only [Exit.inBlock, Exit.then])
  refine bodyPost_ret (results_cell_row (p := 6) (ty := 23) rfl _ _ S 23 (u8s X) (0, 0) _ rfl (setRow_heap _ _ _ _ _ _ H7.out.1) Tryd.underlying23 rfl (by rw [HXs.out]; exact infoS)) rfl ?_
  exact ⟨by rw [HX.out], below_setRow H7.out.2 (by rw [HS.out]; exact Nat.le_refl _) _⟩
end Go.Proofs.YtlbapcpcabieaaaDoor
