/-
  There and back; what the law's awake answers.
-/
import Derived.Test.YtgdjdlakndajgaaR5
namespace Go.Proofs.Ytgdjdlakndajgaa
set_option linter.unusedVariables false
open Go.RowKit Plain

theorem putP_lo (x : (Int × List Int) × Bool) (t : Nat) (ht : t < 8) : (putP x).getD t 0 = byteAt (hd x.2) t := by
  unfold putP
  rw [List.append_assoc, getD_app_left _ _ _ (by rw [length_bytesOf]; omega), bytesOf_get _ _ _ ht]
theorem putP_mid (x : (Int × List Int) × Bool) (t : Nat) (ht : t < 8) : (putP x).getD (8 + t) 0 = byteAt x.1.1 t := by
  unfold putP
  rw [List.append_assoc, getD_app, length_bytesOf, if_neg (by omega), show 8 + t - 8 = t by omega, getD_app_left _ _ _ (by rw [length_bytesOf]; omega), bytesOf_get _ _ _ ht]
theorem num_at (L : List Int) (p : Nat) (x : Int) (h : ∀ t, t < 8 → L.getD (p + t) 0 = byteAt x t) (hx : N64 x) : num L p 8 = x := by
  rw [num_congr L (bytesOf x 8) p 0 8 (fun t ht => by rw [h t ht, Nat.zero_add, bytesOf_get _ _ _ ht]), num_bytesOf x 8 8 (Nat.le_refl _)]
  exact Int.emod_eq_of_lt hx.1 (by have := hx.2; omega)
theorem num_putP0 (x : (Int × List Int) × Bool) : num (putP x) 0 8 = hd x.2 := num_at _ _ _ (fun t ht => by rw [Nat.zero_add]; exact putP_lo x t ht) (hd_bd _)
theorem num_putP8 (x : (Int × List Int) × Bool) (h : N64 x.1.1) : num (putP x) 8 8 = x.1.1 := num_at _ _ _ (fun t ht => putP_mid x t ht) h
theorem drop_putP (x : (Int × List Int) × Bool) : (putP x).drop 16 = x.1.2 := by
  unfold putP
  rw [List.drop_append, List.drop_of_length_le (by simp [length_bytesOf])]
  simp [length_bytesOf]
theorem fit_putP (x : (Int × List Int) × Bool) (h : x.1.2.length = 160) : fitR (putP x) := ⟨len_putP x h, by rw [num_putP0]; unfold hd; split <;> simp⟩
theorem getP_putP (x : (Int × List Int) × Bool) (h : N64 x.1.1) : getP (putP x) = x := by
  obtain ⟨⟨b, L⟩, l⟩ := x
  unfold getP
  rw [num_putP0, num_putP8 _ h, drop_putP]
  cases l <;> simp [hd]
set_option maxHeartbeats 400000 in
theorem of_nil (w : World) : Calls Try.prog 15 #[.slice none 0 0] w fun e w' => e = .returned (.tuple #[.slice none 0 0, .int .i64 1]) ∧ w = w' := by
  go_enter Try.func15, Try.ntmps15
  go_wp2
  go_ret2
  exact ⟨rfl, rfl⟩
def z160 : List Int := List.replicate 160 0
theorem len_z160 : z160.length = 160 := List.length_replicate
theorem byt_z160 : Byt z160 := byt_zeros 160
theorem z160_row : List.replicate 160 (Value.int .u8 0) = z160.map (Value.int .u8) := by simp [z160]
theorem aw_one : (putP ((3, z160), true)).getD 1 0 = 1 := by rw [putP_lo _ 1 (by omega)]; decide
theorem aw_eight : (putP ((3, z160), true)).getD 8 0 = 3 := by rw [putP_mid _ 0 (by omega)]; decide
set_option maxRecDepth 20000 in
set_option maxHeartbeats 1000000 in
theorem awake_any (w : World) : Calls Try.prog 8 #[] w fun e w' => e = .returned (.bool true) ∧ Below w.heap.size w w' := by
  obtain ⟨i0, hi, hz0, hz1, hz2⟩ := info_parts info5
  have HN3 : Box (N64 3) := ⟨by decide, by decide⟩
  go_enter Try.func8, Try.ntmps8
  go_upto_region 2 with (go_at_call 15; refine (of_nil _).mono ?_; rintro e x1 ⟨rfl, rfl⟩)
  obtain ⟨g0, hg0⟩ : ∃ g, w.heap.size = g := ⟨_, rfl⟩
  go_upto_region 3 with (first
    | (at_make; refine wpList_make_full _ rfl _ _ 23 rfl _ 5 i0 (.int .u8 0) 1 Try.underlying23 hi hz0 hz1 _ _ _ _ 160 rfl rfl rfl rfl (by rw [hz2]; omega) (by unfold maxLen; omega) (Nat.le_refl _) ?_; intro x1 hown hgrow; have H1 : Box (Bytes x1 (some ⟨g0, 0, none⟩) 160 z160 ∧ Below w.heap.size w x1) := ⟨by have := bytes_of_row (X := z160) byt_z160 (g := w.heap.size) (t := 5) (fr := (0, 0)) (w := x1) (by have := made_row hown; rwa [z160_row] at this); rwa [hg0] at this, (Below.refl _ _).grown hgrow (Nat.le_refl _) (by simp)⟩; clear hown hgrow; rw [hg0])
    | (refine atBuild 25 ?_; refine wpList_run rfl _ _ (exec_built 25 [(0, .const (.int .u64 3)), (1, .tmp 12)] rfl [(0, .int .u64 3), (1, .slice (some ⟨g0, 0, none⟩) 160 160)] rfl _ (built_Im _ _ _ _)) ?_)
    | (refine atBuild 30 ?_; refine wpList_run rfl _ _ (exec_built 30 [(0, .tmp 13), (1, .const (.bool true))] rfl [(0, .agg #[.int .u64 3, .slice (some ⟨g0, 0, none⟩) 160 160]), (1, .bool true)] rfl _ (built_Rc _ _ _ _ _)) ?_)
    | (go_at_call 10; refine (rcput_ok ⟨⟨3, some ⟨g0, 0, none⟩, 160, 160, z160⟩, true⟩ _ H1.out.1 HN3.out rfl).mono ?_; rintro e x2 ⟨a2, c2, rfl, ho, hb⟩; have H2 : Box (x2.ownsRow x1.heap.size 5 1 (.slice a2 176 c2) 176 ((putP ((3, z160), true)).map (Value.int .u8)) ∧ Below w.heap.size w x2) := ⟨ho, below_to H1.out.2 hb⟩; clear ho hb))
  obtain ⟨g2, cp, cur, hv2, hg2, hh2, _, hcap, hmx, hcell⟩ := own_block H2.out.1 (by omega)
  simp only [Value.slice.injEq, true_and] at hv2
  obtain ⟨rfl, rfl⟩ := hv2
  have HBy : Box (Bytes x2 (some ⟨g2, 0, none⟩) 176 (putP ((3, z160), true))) := ⟨own_bytes H2.out.1 (byt_putP _ byt_z160)⟩
  have HC : Box (g2 < x2.heap.size ∧ 176 ≤ c2 ∧ x2.cell? ⟨g2, 1, none⟩ = some (.int .u8 1) ∧ x2.cell? ⟨g2, 8, none⟩ = some (.int .u8 3)) := ⟨(Array.getElem?_eq_some_iff.1 hh2).1, hcap, by rw [cell_of_row _ _ _ _ _ _ hh2, hcell 1 (by omega), aw_one], by rw [cell_of_row _ _ _ _ _ _ hh2, hcell 8 (by omega), aw_eight]⟩
  clear hcell hh2 hg2 hcap hmx
  have HG : Box (getP (putP ((3, z160), true)) = ((3, z160), true)) := ⟨getP_putP _ HN3.out⟩
  have HF : Box (fitR (putP ((3, z160), true))) := ⟨fit_putP _ len_z160⟩
  go_upto_region 4 with (first
    | (go_at_call 13; refine (rcget_ok _ c2 _ x2 HBy.out HC.out.2.1 HF.out).mono ?_; rintro e x3 ⟨⟨⟨mb, ma, ml, mc, ms⟩, rl⟩, rfl, hp, hl, ho, hb⟩; have H3 : Box (Below x2.heap.size x2 x3) := ⟨hb⟩; rw [HG.out] at hp; simp only [rpl, pl, Prod.mk.injEq] at hp; obtain ⟨⟨rfl, _⟩, rfl⟩ := hp; clear ho hb hl)
    | (refine atAlloc _ ?_; refine wpList_run rfl _ _ (exec_alloc 30 rfl _ zeroRc) ?_)
    | (refine atStore _ ?_; refine wpList_newRow x3 #[.int .u64 0, .slice none 0 0, .bool false] #[.int .u64 3, .slice ma ml mc, .bool true] infoRc rfl (by simp [Value.oneCell']) rfl _ _ rfl rfl rfl rfl ?_; intro x4 h4 hb4; have c40 : x4.cell? ⟨x3.heap.size, 0, none⟩ = some (.int .u64 3) := (by rw [cell_of_row _ _ _ _ _ _ h4]; rfl); have c42 : x4.cell? ⟨x3.heap.size, 2, none⟩ = some (.bool true) := (by rw [cell_of_row _ _ _ _ _ _ h4]; rfl); have H4 : Box (Below x2.heap.size x2 x4) := ⟨below_to H3.out hb4⟩; clear h4 hb4))
  have d1 : x4.cell? ⟨g2, 1, none⟩ = some (.int .u8 1) := (H4.out.cell HC.out.1).trans HC.out.2.2.1
  have d8 : x4.cell? ⟨g2, 8, none⟩ = some (.int .u8 3) := (H4.out.cell HC.out.1).trans HC.out.2.2.2
  go_wp2
  go_ret
  exact ⟨rfl, below_to H2.out.2 H4.out⟩
end Go.Proofs.Ytgdjdlakndajgaa
