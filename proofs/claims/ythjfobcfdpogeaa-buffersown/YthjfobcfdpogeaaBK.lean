/-
  The walk of BuffersOwn: what is put in, and what is told, is in memory of its own.
-/
import Derived.Test.YthjfobcfdpogeaaBJ
namespace Go.Proofs.Ythjfobcfdpogeaa
set_option linter.unusedVariables false
open Go.RowKit Plain

/-- A byte set anew in a block that is of no cache leaves a cache as it was. -/
theorem St.poke {w0 w : World} {C F k : Nat} {n : Int} {L : List Kp} (h : St w0 w C n L) {cs : Array Value} (hF : w.heap[F]? = some (.cells cs 5 (0, 0))) (h0 : w0.heap.size ≤ F) (hL : ∀ x ∈ L, (Value.slice x.a x.l x.c).ownBlock ≠ some F) (v : Value) : St w0 (w.setCell ⟨F, k, none⟩ v) C n L := by
  obtain ⟨⟨⟨rv, hA⟩, hK⟩, hb⟩ := h
  have hC : C ≠ F := fun e => by
    have := hA.hd
    rw [e, hF] at this
    simp at this
  have hR : ∀ j, rv.ownBlock = some j → j ≠ F := fun j hj e => by
    obtain ⟨cs', hc'⟩ := own_type hA.row hj
    rw [e, hF] at hc'
    simp at hc'
  refine ⟨⟨⟨rv, ?_⟩, fun x hx => ?_⟩, below_set hb h0 v⟩
  · exact ⟨by rw [heap_setCell_other w ⟨F, k, none⟩ C _ hC]; exact hA.hd, own_same hA.row (fun j hj => heap_setCell_other w ⟨F, k, none⟩ j _ (hR j hj)), hA.u, hA.hC, hA.hR, hA.len⟩
  · obtain ⟨h1, h2, h3⟩ := hK x hx
    refine ⟨h1, h2, own_same h3 (fun j hj => heap_setCell_other w ⟨F, k, none⟩ j _ (fun e => hL x hx ?_))⟩
    rw [← (show j = F from e), h1]
    exact hj
theorem bits8 (x y : Int) : 0 ≤ bits .xor .u8 x y ∧ bits .xor .u8 x y ≤ 255 := bits_u8 _ _ _
set_option maxRecDepth 20000 in
set_option maxHeartbeats 4000000 in
theorem buffersOwn_walk (a : Option Addr) (l c : Nat) (zs : List Int) (x : Int) (w : World) (hA : IsRow .u8 w a l c zs) (hx : (Lit.int .u8 x).wf = true) :
    Calls Try.prog 5 #[.slice a l c, .int .u8 x] w fun e w' => e = .returned (.bool true) ∧ Below w.heap.size w w' := by
  have mA := hA.pc
  have AW : Box _ := ⟨awake_any w⟩
  have HM : Box (Bytes w a l (zs.take l) ∧ l ≤ 9223372036854775807) := ⟨mA.1, by omega⟩
  obtain ⟨D, hD⟩ : ∃ D, fl (zs.take l) 160 = D := ⟨_, rfl⟩
  have HD : Box (fl (zs.take l) (shn false) = D ∧ D.length = 160 ∧ Byt D) := ⟨hD, by rw [← hD]; exact length_fl _ _, by rw [← hD]; exact byt_fl _ _ mA.1.2.1⟩
  clear mA hA hD
  go_enter Try.func5, Try.ntmps5
  go_upto_region 5 with (first
    | (go_at_call 8; refine AW.out.mono ?_; rintro e w1 ⟨rfl, hb1⟩; have FU : Box _ := ⟨full_any w1 a l c _ (HM.out.1.below hb1) HM.out.2 false⟩; have B1 : Box _ := ⟨hb1⟩; clear hb1 AW)
    | (go_at_call 10; refine FU.out.mono ?_; rintro e w2 ⟨⟨F, rfl, hF, hf2⟩, hb2⟩; rw [HD.out.1] at hf2; have B2 : Box (Below w.heap.size w w2 ∧ w.heap.size ≤ F ∧ B8 w2 F D) := ⟨below_to B1.out hb2, Nat.le_trans B1.out.size hF, ⟨hf2, HD.out.2.2⟩⟩; clear hb2 hf2 hF FU B1))
  have hcv := conv_bytes (B2.out.2.2.b160 HD.out.2.1) 160
  have N3 : Box _ := ⟨new_st w w2 B2.out.1 3⟩
  simp only [shn, Bool.false_eq_true, if_false]
  go_upto_region 8 with (first
    | (refine atConv _ _ ?_; refine wpList_run rfl _ _ (exec_conv _ rfl rfl (B2.out.2.2.b160 HD.out.2.1)) ?_)
    | (go_at_call 9; refine N3.out.mono ?_; rintro e w3 ⟨C, rfl, hs3, hb3⟩; have P1 : Box _ := ⟨put_new' w w3 C 3 [] [] hs3 9 (u64_of (by omega)) (no_nil _) (.fit [] (by simp)) F 160 D (B2.out.2.2.below hb3) HD.out.2.1 (by simp)⟩; have B3 : Box (B8 w3 F D ∧ w.heap.size ≤ F) := ⟨B2.out.2.2.below hb3, B2.out.2.1⟩; clear hs3 hb3 N3 B2 hcv)
    | (go_at_call 11; refine P1.out.mono ?_; rintro e w4 ⟨rfl, ⟨y1, l1, hs4⟩, f4⟩; have H4 : Box (St w w4 C 3 [y1] ∧ y1.b = 9 ∧ y1.bs = D ∧ B8 w4 F D ∧ w.heap.size ≤ F ∧ (∀ k, (Value.slice y1.a y1.l y1.c).ownBlock = some k → F < k)) := ⟨hs4, l1.b, l1.bs, B3.out.1.fr f4, B3.out.2, fun k hk => Nat.lt_of_lt_of_le (Array.getElem?_eq_some_iff.1 B3.out.1.at_).1 (l1.nw k hk)⟩; clear hs4 l1 f4 P1 B3))
  have d3 : w4.cell? ⟨F, 3, none⟩ = some (.int .u8 (D.getD 3 0)) := row_cell w4 F 3 D 5 (0, 0) H4.out.2.2.2.1.at_ (by rw [HD.out.2.1]; omega)
  have f3 : w4.frozen? ⟨F, 3, none⟩ = false := frozen_of_row w4 F _ _ _ H4.out.2.2.2.1.at_
  have HS4 : Box (∀ v, St w (w4.setCell ⟨F, 3, none⟩ v) C 3 [y1]) := ⟨fun v => H4.out.1.poke H4.out.2.2.2.1.at_ H4.out.2.2.2.2.1 (fun z hz => by simp at hz; subst hz; exact fun e => by have := H4.out.2.2.2.2.2 F e; omega) v⟩
  generalize D.getD 3 0 = d at d3
  go_upto_region 9 with fail
  have G1 : Box _ := ⟨get_ok' w _ C 3 [y1] (HS4.out (.int .u8 (bits .xor .u8 d x))) 9 0 (by simp) (fs_zero _ _ _ H4.out.2.1)⟩
  have H5 : Box _ := ⟨HS4.out (.int .u8 (bits .xor .u8 d x))⟩
  generalize w4.setCell ⟨F, 3, none⟩ (.int .u8 (bits .xor .u8 d x)) = w5 at G1 H5 ⊢
  clear d3 f3 HS4
  go_upto_region 10 with (go_at_call 13; refine G1.out.mono ?_; rintro e w6 ⟨⟨a6, c6, rfl, n6⟩, hs6, f6⟩; have H6 : Box (St w w6 C 3 [y1] ∧ Nw w5 w6 a6 c6 D) := ⟨hs6, by have := n6; simp only [List.getElem_cons_zero] at this; rw [H4.out.2.2.1] at this; exact this⟩; clear hs6 n6 f6)
  obtain ⟨Pb, cap6, cur, e6, hPb, hheap, hcs, _, _, hcell⟩ := own_block H6.out.2 (by omega)
  simp only [Value.slice.injEq, true_and] at e6
  obtain ⟨rfl, rfl⟩ := e6
  have HB6 : Box (Bytes w6 (some ⟨Pb, 0, none⟩) 160 D) := ⟨own_bytes H6.out.2 HD.out.2.2⟩
  have hq1 : ((strOfNums D).toList == (strOfNums D).toList) = true := by simp
  have hq2 : ((strOfNums D).toList != (strOfNums D).toList) = false := by simp
  have d4 : w6.cell? ⟨Pb, 4, none⟩ = some (.int .u8 (D.getD 4 0)) := by rw [cell_of_row _ _ _ _ _ _ hheap]; exact hcell 4 (by omega)
  have f4 : w6.frozen? ⟨Pb, 4, none⟩ = false := frozen_of_row w6 Pb _ _ _ hheap
  have hsz := H5.out
  have HS6 : Box (∀ v, St w (w6.setCell ⟨Pb, 4, none⟩ v) C 3 [y1]) := ⟨fun v => H6.out.1.poke hheap (Nat.le_trans hsz.bl.size hPb) (fun z hz => by
    simp at hz
    rw [hz]
    intro e
    have h1 := hsz.cc.2 y1 (by simp)
    rw [h1.1] at e
    have := (h1.2.2.lt Pb e).2
    omega) v⟩
  generalize D.getD 4 0 = d at d4
  clear hPb hheap hcs hcell hsz H5 G1
  go_upto_region 13 with (refine atConv _ _ ?_; refine wpList_runG (by rfl) _ _ (exec_conv _ rfl rfl HB6.out) ?_)
  have G2 : Box _ := ⟨get_ok' w _ C 3 [y1] (HS6.out (.int .u8 (bits .xor .u8 d x))) 9 0 (by simp) (fs_zero _ _ _ H4.out.2.1)⟩
  generalize w6.setCell ⟨Pb, 4, none⟩ (.int .u8 (bits .xor .u8 d x)) = w7 at G2 ⊢
  clear d4 f4 HS6 HB6
  go_wp2_with (first
    | (go_at_call 13; refine G2.out.mono ?_; rintro e w8 ⟨⟨a8, c8, rfl, n8⟩, hs8, f8⟩; have HB8 : Box (Bytes w8 a8 160 D ∧ Below w.heap.size w w8) := ⟨by have h8 := n8; simp only [List.getElem_cons_zero] at h8; rw [H4.out.2.2.1] at h8; exact own_bytes h8 HD.out.2.2, hs8.bl⟩; clear hs8 n8 f8 G2)
    | (refine atConv _ _ ?_; refine wpList_runG (by rfl) _ _ (exec_conv _ rfl rfl HB8.out.1) ?_))
  go_ret
  exact ⟨rfl, HB8.out.2⟩
end Go.Proofs.Ythjfobcfdpogeaa
