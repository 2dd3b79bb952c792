/-
  Bytes cut, or filled up, to a block's or a record's, as the law does it; the document's examples of layer 8.
-/
import Derived.Test.YtgfpbbikdmnnhaaDoorS4
namespace Go.Proofs.YtgfpbbikdmnnhaaDoor
set_option linter.unusedVariables false
open Go.RowKit Plain

theorem fil8_pad (L : List Int) (n k : Nat) (h : (k = L.length ∧ k ≤ n) ∨ (k = n ∧ k ≤ L.length)) : fil8 (L.take k) n = ((padTo L n).map (Value.int .u8)).toArray := by
  unfold fil8 u8s padTo
  rcases h with ⟨rfl, h2⟩ | ⟨rfl, h2⟩
  · rw [List.take_of_length_le (Nat.le_refl _), List.take_of_length_le h2]
  · rw [List.length_take, Nat.min_eq_left h2, Nat.sub_self, Nat.sub_eq_zero_of_le h2]
theorem take_snoc (L : List Int) (k : Nat) (h : k < L.length) : L.take k ++ [L.getD k 0] = L.take (k + 1) := by
  rw [List.take_succ_eq_append_getElem h]
  simp [List.getD, h]
theorem and3 (k : Int) (h : 0 ≤ k ∧ k ≤ 255) : bits .and .u8 k 3 = k % 4 := by
  have key : ∀ j : Fin 256, bits .and .u8 ((j.val : Nat) : Int) 3 = ((j.val : Nat) : Int) % 4 := by decide +kernel
  obtain ⟨j, rfl⟩ := Int.eq_ofNat_of_zero_le h.1
  exact key ⟨j, by omega⟩
theorem and1 (k : Int) (h : 0 ≤ k ∧ k ≤ 255) : bits .and .u8 k 1 = k % 2 := by
  have key : ∀ j : Fin 256, bits .and .u8 ((j.val : Nat) : Int) 1 = ((j.val : Nat) : Int) % 2 := by decide +kernel
  obtain ⟨j, rfl⟩ := Int.eq_ofNat_of_zero_le h.1
  exact key ⟨j, by omega⟩

set_option maxRecDepth 20000 in
set_option maxHeartbeats 1000000 in
theorem long_0 (a : Option Addr) (len cap : Nat) (L : List Int) (kind : Int) (w : World) (hB : Bytes w a len L) (hl : len ≤ maxLen) (hk : bits .and .u8 kind 3 = 0) :
    Calls Tryd.prog 9 #[.slice a len cap, .int .u8 kind] w fun e w' => ∃ g, e = .returned (.slice (some ⟨g, 0, none⟩) 160 160) ∧ Out w w' (some ⟨g, 0, none⟩) 160 160 (padTo L 160) := by
  obtain ⟨i0, hi, hz0, hz1, hz2⟩ := info_parts Tryd.info5
  have hlm : 160 ≤ maxLen := by unfold maxLen; omega
  have hl' := hl
  unfold maxLen at hl'
  have HB : Box (∀ x, Below w.heap.size w x → Bytes x a len L) := ⟨fun x hx => hB.below hx⟩
  have HLl : Box (L.length = len) := ⟨hB.1⟩
  have HLb : Box (Byt L) := ⟨hB.2.1⟩
  clear hB hl
  go_enter Tryd.func9, Tryd.ntmps9
  go_upto_region 2 with fail
  have H0 : Box (Below w.heap.size w (w.alloc (.cells #[.int .i64 160, .int .i64 176, .int .i64 161, .int .i64 160] 3))) := ⟨(Below.refl _ _).alloc (Nat.le_refl _) _⟩
  generalize w.alloc (.cells #[.int .i64 160, .int .i64 176, .int .i64 161, .int .i64 160] 3) = x0 at H0 ⊢
  go_wp2_with (at_make; refine wpList_make_full _ rfl (.tmp 13) (.tmp 13) 26 rfl _ 5 i0 (.int .u8 0) 1 Tryd.underlying26 hi hz0 hz1 _ _ _ _ 160 rfl rfl rfl rfl (by rw [hz2]; omega) hlm (Nat.le_refl _) ?_; intro w1 hown hgrow; have HR := made_row hown; clear hown; have H1 : Box (w1.heap[x0.heap.size]? = some (.cells (fil8 (L.take 0) 160) 5 (0, 0)) ∧ Below w.heap.size w w1) := ⟨by rw [HR, List.take_zero, fil8_nil], H0.out.trans (((Below.refl x0.heap.size x0).grown hgrow (Nat.le_refl _) (by simp)).mono H0.out.size)⟩; clear HR hgrow)
  obtain ⟨g, hg⟩ : ∃ g, x0.heap.size = g := ⟨_, rfl⟩
  have HG : Box (w.heap.size ≤ g) := ⟨by rw [← hg]; exact H0.out.size⟩
  rw [hg] at H1 ⊢
  clear hi hz0 hz1 hz2 H0 hg
  go_loopw [7] (fun i wr => ∃ k : Nat, k ≤ 160 ∧ k ≤ len ∧ i = .int .i64 k ∧ Box (wr.heap[g]? = some (.cells (fil8 (L.take k) 160) 5 (0, 0)) ∧ Below w.heap.size w wr)) (fun i _ => 160 - (intOf i).toNat)
  case atStart => exact ⟨0, by omega, by omega, rfl, H1⟩
  case round =>
    clear H1
    obtain ⟨k, hkn, hkl, rfl, HI⟩ := hrel
    by_cases hlt : k < len
    · by_cases hltn : k < 160
      · obtain ⟨b, off, hab, hbl, hbc⟩ := (HB.out wr HI.out.2).2.2 (by omega)
        subst hab
        have cz := hbc k hlt
        obtain ⟨u, cu⟩ : ∃ u, wr.cell? ⟨g, k, none⟩ = some u := by
          obtain ⟨u, hu⟩ := fil8_some (L.take k) 160 k (by omega) (by rw [List.length_take]; omega)
          exact ⟨u, by rw [cell_of_row _ _ _ _ _ _ HI.out.1]; exact hu⟩
        have fv : wr.frozen? ⟨g, k, none⟩ = false := frozen_of_row wr _ _ _ 5 HI.out.1
        have HN : Box ((wr.setCell ⟨g, k, none⟩ (.int .u8 (L.getD k 0))).heap[g]? = some (.cells (fil8 (L.take (k + 1)) 160) 5 (0, 0)) ∧ Below w.heap.size w (wr.setCell ⟨g, k, none⟩ (.int .u8 (L.getD k 0)))) := ⟨by
          have hkk : (L.take k).length = k := by rw [List.length_take, HLl.out]; omega
          have := fil8_set (L.take k) 160 (L.getD k 0) (by omega)
          rw [hkk, take_snoc L k (by rw [HLl.out]; exact hlt)] at this
          rw [heap_setCell_same wr g k _ 5 _ HI.out.1, this], below_set HI.out.2 HG.out _⟩
        have hy := HLb.out k
        generalize L.getD k 0 = y at cz HN hy
        obtain ⟨y0, y1⟩ := hy
        clear HI hbc
        go_wp2
        go_roundw
        case rel => exact ⟨k + 1, by omega, by omega, by go_num, HN⟩
        case measure => simp [intOf]; omega
      · obtain rfl : k = 160 := by omega
        go_wp2
        go_ret
        refine ⟨g, rfl, Out.of_row (length_padTo L 160) hlm HG.out ?_ HI.out.2⟩
        rw [← fil8_pad L 160 160 (.inr ⟨rfl, by rw [HLl.out]; omega⟩)]
        exact HI.out.1
    · obtain rfl : k = len := by omega
      go_wp2
      go_ret
      refine ⟨g, rfl, Out.of_row (length_padTo L 160) hlm HG.out ?_ HI.out.2⟩
      rw [← fil8_pad L 160 k (.inl ⟨HLl.out.symm, hkn⟩)]
      exact HI.out.1

set_option maxRecDepth 20000 in
set_option maxHeartbeats 1000000 in
theorem long_1 (a : Option Addr) (len cap : Nat) (L : List Int) (kind : Int) (w : World) (hB : Bytes w a len L) (hl : len ≤ maxLen) (hk : bits .and .u8 kind 3 = 1) :
    Calls Tryd.prog 9 #[.slice a len cap, .int .u8 kind] w fun e w' => ∃ g, e = .returned (.slice (some ⟨g, 0, none⟩) 176 176) ∧ Out w w' (some ⟨g, 0, none⟩) 176 176 (padTo L 176) := by
  obtain ⟨i0, hi, hz0, hz1, hz2⟩ := info_parts Tryd.info5
  have hlm : 176 ≤ maxLen := by unfold maxLen; omega
  have hl' := hl
  unfold maxLen at hl'
  have HB : Box (∀ x, Below w.heap.size w x → Bytes x a len L) := ⟨fun x hx => hB.below hx⟩
  have HLl : Box (L.length = len) := ⟨hB.1⟩
  have HLb : Box (Byt L) := ⟨hB.2.1⟩
  clear hB hl
  go_enter Tryd.func9, Tryd.ntmps9
  go_upto_region 2 with fail
  have H0 : Box (Below w.heap.size w (w.alloc (.cells #[.int .i64 160, .int .i64 176, .int .i64 161, .int .i64 160] 3))) := ⟨(Below.refl _ _).alloc (Nat.le_refl _) _⟩
  generalize w.alloc (.cells #[.int .i64 160, .int .i64 176, .int .i64 161, .int .i64 160] 3) = x0 at H0 ⊢
  go_wp2_with (at_make; refine wpList_make_full _ rfl (.tmp 13) (.tmp 13) 26 rfl _ 5 i0 (.int .u8 0) 1 Tryd.underlying26 hi hz0 hz1 _ _ _ _ 176 rfl rfl rfl rfl (by rw [hz2]; omega) hlm (Nat.le_refl _) ?_; intro w1 hown hgrow; have HR := made_row hown; clear hown; have H1 : Box (w1.heap[x0.heap.size]? = some (.cells (fil8 (L.take 0) 176) 5 (0, 0)) ∧ Below w.heap.size w w1) := ⟨by rw [HR, List.take_zero, fil8_nil], H0.out.trans (((Below.refl x0.heap.size x0).grown hgrow (Nat.le_refl _) (by simp)).mono H0.out.size)⟩; clear HR hgrow)
  obtain ⟨g, hg⟩ : ∃ g, x0.heap.size = g := ⟨_, rfl⟩
  have HG : Box (w.heap.size ≤ g) := ⟨by rw [← hg]; exact H0.out.size⟩
  rw [hg] at H1 ⊢
  clear hi hz0 hz1 hz2 H0 hg
  go_loopw [7] (fun i wr => ∃ k : Nat, k ≤ 176 ∧ k ≤ len ∧ i = .int .i64 k ∧ Box (wr.heap[g]? = some (.cells (fil8 (L.take k) 176) 5 (0, 0)) ∧ Below w.heap.size w wr)) (fun i _ => 176 - (intOf i).toNat)
  case atStart => exact ⟨0, by omega, by omega, rfl, H1⟩
  case round =>
    clear H1
    obtain ⟨k, hkn, hkl, rfl, HI⟩ := hrel
    by_cases hlt : k < len
    · by_cases hltn : k < 176
      · obtain ⟨b, off, hab, hbl, hbc⟩ := (HB.out wr HI.out.2).2.2 (by omega)
        subst hab
        have cz := hbc k hlt
        obtain ⟨u, cu⟩ : ∃ u, wr.cell? ⟨g, k, none⟩ = some u := by
          obtain ⟨u, hu⟩ := fil8_some (L.take k) 176 k (by omega) (by rw [List.length_take]; omega)
          exact ⟨u, by rw [cell_of_row _ _ _ _ _ _ HI.out.1]; exact hu⟩
        have fv : wr.frozen? ⟨g, k, none⟩ = false := frozen_of_row wr _ _ _ 5 HI.out.1
        have HN : Box ((wr.setCell ⟨g, k, none⟩ (.int .u8 (L.getD k 0))).heap[g]? = some (.cells (fil8 (L.take (k + 1)) 176) 5 (0, 0)) ∧ Below w.heap.size w (wr.setCell ⟨g, k, none⟩ (.int .u8 (L.getD k 0)))) := ⟨by
          have hkk : (L.take k).length = k := by rw [List.length_take, HLl.out]; omega
          have := fil8_set (L.take k) 176 (L.getD k 0) (by omega)
          rw [hkk, take_snoc L k (by rw [HLl.out]; exact hlt)] at this
          rw [heap_setCell_same wr g k _ 5 _ HI.out.1, this], below_set HI.out.2 HG.out _⟩
        have hy := HLb.out k
        generalize L.getD k 0 = y at cz HN hy
        obtain ⟨y0, y1⟩ := hy
        clear HI hbc
        go_wp2
        go_roundw
        case rel => exact ⟨k + 1, by omega, by omega, by go_num, HN⟩
        case measure => simp [intOf]; omega
      · obtain rfl : k = 176 := by omega
        go_wp2
        go_ret
        refine ⟨g, rfl, Out.of_row (length_padTo L 176) hlm HG.out ?_ HI.out.2⟩
        rw [← fil8_pad L 176 176 (.inr ⟨rfl, by rw [HLl.out]; omega⟩)]
        exact HI.out.1
    · obtain rfl : k = len := by omega
      go_wp2
      go_ret
      refine ⟨g, rfl, Out.of_row (length_padTo L 176) hlm HG.out ?_ HI.out.2⟩
      rw [← fil8_pad L 176 k (.inl ⟨HLl.out.symm, hkn⟩)]
      exact HI.out.1

set_option maxRecDepth 20000 in
set_option maxHeartbeats 1000000 in
theorem long_2 (a : Option Addr) (len cap : Nat) (L : List Int) (kind : Int) (w : World) (hB : Bytes w a len L) (hl : len ≤ maxLen) (hk : bits .and .u8 kind 3 = 2) :
    Calls Tryd.prog 9 #[.slice a len cap, .int .u8 kind] w fun e w' => ∃ g, e = .returned (.slice (some ⟨g, 0, none⟩) 161 161) ∧ Out w w' (some ⟨g, 0, none⟩) 161 161 (padTo L 161) := by
  obtain ⟨i0, hi, hz0, hz1, hz2⟩ := info_parts Tryd.info5
  have hlm : 161 ≤ maxLen := by unfold maxLen; omega
  have hl' := hl
  unfold maxLen at hl'
  have HB : Box (∀ x, Below w.heap.size w x → Bytes x a len L) := ⟨fun x hx => hB.below hx⟩
  have HLl : Box (L.length = len) := ⟨hB.1⟩
  have HLb : Box (Byt L) := ⟨hB.2.1⟩
  clear hB hl
  go_enter Tryd.func9, Tryd.ntmps9
  go_upto_region 2 with fail
  have H0 : Box (Below w.heap.size w (w.alloc (.cells #[.int .i64 160, .int .i64 176, .int .i64 161, .int .i64 160] 3))) := ⟨(Below.refl _ _).alloc (Nat.le_refl _) _⟩
  generalize w.alloc (.cells #[.int .i64 160, .int .i64 176, .int .i64 161, .int .i64 160] 3) = x0 at H0 ⊢
  go_wp2_with (at_make; refine wpList_make_full _ rfl (.tmp 13) (.tmp 13) 26 rfl _ 5 i0 (.int .u8 0) 1 Tryd.underlying26 hi hz0 hz1 _ _ _ _ 161 rfl rfl rfl rfl (by rw [hz2]; omega) hlm (Nat.le_refl _) ?_; intro w1 hown hgrow; have HR := made_row hown; clear hown; have H1 : Box (w1.heap[x0.heap.size]? = some (.cells (fil8 (L.take 0) 161) 5 (0, 0)) ∧ Below w.heap.size w w1) := ⟨by rw [HR, List.take_zero, fil8_nil], H0.out.trans (((Below.refl x0.heap.size x0).grown hgrow (Nat.le_refl _) (by simp)).mono H0.out.size)⟩; clear HR hgrow)
  obtain ⟨g, hg⟩ : ∃ g, x0.heap.size = g := ⟨_, rfl⟩
  have HG : Box (w.heap.size ≤ g) := ⟨by rw [← hg]; exact H0.out.size⟩
  rw [hg] at H1 ⊢
  clear hi hz0 hz1 hz2 H0 hg
  go_loopw [7] (fun i wr => ∃ k : Nat, k ≤ 161 ∧ k ≤ len ∧ i = .int .i64 k ∧ Box (wr.heap[g]? = some (.cells (fil8 (L.take k) 161) 5 (0, 0)) ∧ Below w.heap.size w wr)) (fun i _ => 161 - (intOf i).toNat)
  case atStart => exact ⟨0, by omega, by omega, rfl, H1⟩
  case round =>
    clear H1
    obtain ⟨k, hkn, hkl, rfl, HI⟩ := hrel
    by_cases hlt : k < len
    · by_cases hltn : k < 161
      · obtain ⟨b, off, hab, hbl, hbc⟩ := (HB.out wr HI.out.2).2.2 (by omega)
        subst hab
        have cz := hbc k hlt
        obtain ⟨u, cu⟩ : ∃ u, wr.cell? ⟨g, k, none⟩ = some u := by
          obtain ⟨u, hu⟩ := fil8_some (L.take k) 161 k (by omega) (by rw [List.length_take]; omega)
          exact ⟨u, by rw [cell_of_row _ _ _ _ _ _ HI.out.1]; exact hu⟩
        have fv : wr.frozen? ⟨g, k, none⟩ = false := frozen_of_row wr _ _ _ 5 HI.out.1
        have HN : Box ((wr.setCell ⟨g, k, none⟩ (.int .u8 (L.getD k 0))).heap[g]? = some (.cells (fil8 (L.take (k + 1)) 161) 5 (0, 0)) ∧ Below w.heap.size w (wr.setCell ⟨g, k, none⟩ (.int .u8 (L.getD k 0)))) := ⟨by
          have hkk : (L.take k).length = k := by rw [List.length_take, HLl.out]; omega
          have := fil8_set (L.take k) 161 (L.getD k 0) (by omega)
          rw [hkk, take_snoc L k (by rw [HLl.out]; exact hlt)] at this
          rw [heap_setCell_same wr g k _ 5 _ HI.out.1, this], below_set HI.out.2 HG.out _⟩
        have hy := HLb.out k
        generalize L.getD k 0 = y at cz HN hy
        obtain ⟨y0, y1⟩ := hy
        clear HI hbc
        go_wp2
        go_roundw
        case rel => exact ⟨k + 1, by omega, by omega, by go_num, HN⟩
        case measure => simp [intOf]; omega
      · obtain rfl : k = 161 := by omega
        go_wp2
        go_ret
        refine ⟨g, rfl, Out.of_row (length_padTo L 161) hlm HG.out ?_ HI.out.2⟩
        rw [← fil8_pad L 161 161 (.inr ⟨rfl, by rw [HLl.out]; omega⟩)]
        exact HI.out.1
    · obtain rfl : k = len := by omega
      go_wp2
      go_ret
      refine ⟨g, rfl, Out.of_row (length_padTo L 161) hlm HG.out ?_ HI.out.2⟩
      rw [← fil8_pad L 161 k (.inl ⟨HLl.out.symm, hkn⟩)]
      exact HI.out.1

set_option maxRecDepth 20000 in
set_option maxHeartbeats 1000000 in
theorem long_3 (a : Option Addr) (len cap : Nat) (L : List Int) (kind : Int) (w : World) (hB : Bytes w a len L) (hl : len ≤ maxLen) (hk : bits .and .u8 kind 3 = 3) :
    Calls Tryd.prog 9 #[.slice a len cap, .int .u8 kind] w fun e w' => ∃ g, e = .returned (.slice (some ⟨g, 0, none⟩) 160 160) ∧ Out w w' (some ⟨g, 0, none⟩) 160 160 (padTo L 160) := by
  obtain ⟨i0, hi, hz0, hz1, hz2⟩ := info_parts Tryd.info5
  have hlm : 160 ≤ maxLen := by unfold maxLen; omega
  have hl' := hl
  unfold maxLen at hl'
  have HB : Box (∀ x, Below w.heap.size w x → Bytes x a len L) := ⟨fun x hx => hB.below hx⟩
  have HLl : Box (L.length = len) := ⟨hB.1⟩
  have HLb : Box (Byt L) := ⟨hB.2.1⟩
  clear hB hl
  go_enter Tryd.func9, Tryd.ntmps9
  go_upto_region 2 with fail
  have H0 : Box (Below w.heap.size w (w.alloc (.cells #[.int .i64 160, .int .i64 176, .int .i64 161, .int .i64 160] 3))) := ⟨(Below.refl _ _).alloc (Nat.le_refl _) _⟩
  generalize w.alloc (.cells #[.int .i64 160, .int .i64 176, .int .i64 161, .int .i64 160] 3) = x0 at H0 ⊢
  go_wp2_with (at_make; refine wpList_make_full _ rfl (.tmp 13) (.tmp 13) 26 rfl _ 5 i0 (.int .u8 0) 1 Tryd.underlying26 hi hz0 hz1 _ _ _ _ 160 rfl rfl rfl rfl (by rw [hz2]; omega) hlm (Nat.le_refl _) ?_; intro w1 hown hgrow; have HR := made_row hown; clear hown; have H1 : Box (w1.heap[x0.heap.size]? = some (.cells (fil8 (L.take 0) 160) 5 (0, 0)) ∧ Below w.heap.size w w1) := ⟨by rw [HR, List.take_zero, fil8_nil], H0.out.trans (((Below.refl x0.heap.size x0).grown hgrow (Nat.le_refl _) (by simp)).mono H0.out.size)⟩; clear HR hgrow)
  obtain ⟨g, hg⟩ : ∃ g, x0.heap.size = g := ⟨_, rfl⟩
  have HG : Box (w.heap.size ≤ g) := ⟨by rw [← hg]; exact H0.out.size⟩
  rw [hg] at H1 ⊢
  clear hi hz0 hz1 hz2 H0 hg
  go_loopw [7] (fun i wr => ∃ k : Nat, k ≤ 160 ∧ k ≤ len ∧ i = .int .i64 k ∧ Box (wr.heap[g]? = some (.cells (fil8 (L.take k) 160) 5 (0, 0)) ∧ Below w.heap.size w wr)) (fun i _ => 160 - (intOf i).toNat)
  case atStart => exact ⟨0, by omega, by omega, rfl, H1⟩
  case round =>
    clear H1
    obtain ⟨k, hkn, hkl, rfl, HI⟩ := hrel
    by_cases hlt : k < len
    · by_cases hltn : k < 160
      · obtain ⟨b, off, hab, hbl, hbc⟩ := (HB.out wr HI.out.2).2.2 (by omega)
        subst hab
        have cz := hbc k hlt
        obtain ⟨u, cu⟩ : ∃ u, wr.cell? ⟨g, k, none⟩ = some u := by
          obtain ⟨u, hu⟩ := fil8_some (L.take k) 160 k (by omega) (by rw [List.length_take]; omega)
          exact ⟨u, by rw [cell_of_row _ _ _ _ _ _ HI.out.1]; exact hu⟩
        have fv : wr.frozen? ⟨g, k, none⟩ = false := frozen_of_row wr _ _ _ 5 HI.out.1
        have HN : Box ((wr.setCell ⟨g, k, none⟩ (.int .u8 (L.getD k 0))).heap[g]? = some (.cells (fil8 (L.take (k + 1)) 160) 5 (0, 0)) ∧ Below w.heap.size w (wr.setCell ⟨g, k, none⟩ (.int .u8 (L.getD k 0)))) := ⟨by
          have hkk : (L.take k).length = k := by rw [List.length_take, HLl.out]; omega
          have := fil8_set (L.take k) 160 (L.getD k 0) (by omega)
          rw [hkk, take_snoc L k (by rw [HLl.out]; exact hlt)] at this
          rw [heap_setCell_same wr g k _ 5 _ HI.out.1, this], below_set HI.out.2 HG.out _⟩
        have hy := HLb.out k
        generalize L.getD k 0 = y at cz HN hy
        obtain ⟨y0, y1⟩ := hy
        clear HI hbc
        go_wp2
        go_roundw
        case rel => exact ⟨k + 1, by omega, by omega, by go_num, HN⟩
        case measure => simp [intOf]; omega
      · obtain rfl : k = 160 := by omega
        go_wp2
        go_ret
        refine ⟨g, rfl, Out.of_row (length_padTo L 160) hlm HG.out ?_ HI.out.2⟩
        rw [← fil8_pad L 160 160 (.inr ⟨rfl, by rw [HLl.out]; omega⟩)]
        exact HI.out.1
    · obtain rfl : k = len := by omega
      go_wp2
      go_ret
      refine ⟨g, rfl, Out.of_row (length_padTo L 160) hlm HG.out ?_ HI.out.2⟩
      rw [← fil8_pad L 160 k (.inl ⟨HLl.out.symm, hkn⟩)]
      exact HI.out.1

/-- How many bytes a kind has. -/
def kd (k : Int) : Nat := if k % 4 = 1 then 176 else if k % 4 = 2 then 161 else 160
theorem long_any (a : Option Addr) (len cap : Nat) (L : List Int) (kind : Int) (w : World) (hB : Bytes w a len L) (hl : len ≤ maxLen) (hk : 0 ≤ kind ∧ kind ≤ 255) :
    Calls Tryd.prog 9 #[.slice a len cap, .int .u8 kind] w fun e w' => ∃ g, e = .returned (.slice (some ⟨g, 0, none⟩) (kd kind) (kd kind)) ∧ Out w w' (some ⟨g, 0, none⟩) (kd kind) (kd kind) (padTo L (kd kind)) := by
  have h3 := and3 kind hk
  have hc : kind % 4 = 0 ∨ kind % 4 = 1 ∨ kind % 4 = 2 ∨ kind % 4 = 3 := by omega
  rcases hc with h | h | h | h
  · rw [show kd kind = 160 by unfold kd; rw [if_neg (by omega), if_neg (by omega)]]
    exact long_0 a len cap L kind w hB hl (by rw [h3, h])
  · rw [show kd kind = 176 by unfold kd; rw [if_pos h]]
    exact long_1 a len cap L kind w hB hl (by rw [h3, h])
  · rw [show kd kind = 161 by unfold kd; rw [if_neg (by omega), if_pos h]]
    exact long_2 a len cap L kind w hB hl (by rw [h3, h])
  · rw [show kd kind = 160 by unfold kd; rw [if_neg (by omega), if_neg (by omega)]]
    exact long_3 a len cap L kind w hB hl (by rw [h3, h])
theorem zeros32 : u8s (List.replicate 32 0) = #[.int .u8 0, .int .u8 0, .int .u8 0, .int .u8 0, .int .u8 0, .int .u8 0, .int .u8 0, .int .u8 0, .int .u8 0, .int .u8 0, .int .u8 0, .int .u8 0, .int .u8 0, .int .u8 0, .int .u8 0, .int .u8 0, .int .u8 0, .int .u8 0, .int .u8 0, .int .u8 0, .int .u8 0, .int .u8 0, .int .u8 0, .int .u8 0, .int .u8 0, .int .u8 0, .int .u8 0, .int .u8 0, .int .u8 0, .int .u8 0, .int .u8 0, .int .u8 0] := rfl
theorem made_bytes (x : World) (k : Nat) : Bytes (x.alloc (.cells (madeCells #[.int .u8 0] k) 5)) (some ⟨x.heap.size, 0, none⟩) k (List.replicate k 0) := by
  have := bytes_of_row (X := List.replicate k 0) (byt_zeros k) (show (x.alloc (.cells (madeCells #[.int .u8 0] k) 5)).heap[x.heap.size]? = some (.cells (u8s (List.replicate k 0)) 5 (0, 0)) from by rw [al_at rfl, made8])
  rwa [List.length_replicate] at this

set_option maxRecDepth 20000 in
set_option maxHeartbeats 1000000 in
theorem awake_any (w : World) (hT : Tab w) :
    Calls Tryd.prog 8 #[] w fun e w' => e = .returned (.bool true) ∧ Below w.heap.size w w' := by
  obtain ⟨Z, EZ⟩ := named (sl (List.replicate 32 0) 1 5 (List.replicate 160 0))
  have HZ : Box (Fit Z 160 ∧ num Z 0 8 = 5 ∧ op (List.replicate 32 0) 1 Z 160 = List.replicate 160 0) := ⟨by
    rw [← EZ.out]
    exact ⟨sl_fit _ 1 5 _ 160 (by simp) (by omega) ⟨by omega, by omega⟩ (by omega) (by omega), sl_num _ 1 5 _ 160 (by simp) (by omega) ⟨by omega, by omega⟩, op_sl _ 1 5 _ 160 (by simp) (byt_zeros 160) (by omega) ⟨by omega, by omega⟩⟩⟩
  have HT : Box (∀ x, Below w.heap.size w x → Tab x) := ⟨fun x hx => hT.below hx⟩
  have C1 : Box (∀ x a c, Calls Tryd.prog 10 #[.agg #[.int .u8 0, .int .u8 0, .int .u8 0, .int .u8 0, .int .u8 0, .int .u8 0, .int .u8 0, .int .u8 0, .int .u8 0, .int .u8 0, .int .u8 0, .int .u8 0, .int .u8 0, .int .u8 0, .int .u8 0, .int .u8 0, .int .u8 0, .int .u8 0, .int .u8 0, .int .u8 0, .int .u8 0, .int .u8 0, .int .u8 0, .int .u8 0, .int .u8 0, .int .u8 0, .int .u8 0, .int .u8 0, .int .u8 0, .int .u8 0, .int .u8 0, .int .u8 0], .int .u32 1, .int .u64 0, .slice a 160 c] x fun e w' => e = .returned (.tuple #[.slice none 0 0, .int .i64 1]) ∧ Below x.heap.size x w') := ⟨fun x a c => seal_arg (List.replicate 32 0) 1 0 a 160 c x (.inr ⟨.inl rfl, rfl⟩)⟩
  have C2 : Box (∀ x, Tab x → Calls Tryd.prog 10 #[.agg #[.int .u8 0, .int .u8 0, .int .u8 0, .int .u8 0, .int .u8 0, .int .u8 0, .int .u8 0, .int .u8 0, .int .u8 0, .int .u8 0, .int .u8 0, .int .u8 0, .int .u8 0, .int .u8 0, .int .u8 0, .int .u8 0, .int .u8 0, .int .u8 0, .int .u8 0, .int .u8 0, .int .u8 0, .int .u8 0, .int .u8 0, .int .u8 0, .int .u8 0, .int .u8 0, .int .u8 0, .int .u8 0, .int .u8 0, .int .u8 0, .int .u8 0, .int .u8 0], .int .u32 1, .int .u64 5, .slice (some ⟨x.heap.size, 0, none⟩) 160 160] (x.alloc (.cells (madeCells #[.int .u8 0] 160) 5)) fun e w' => ∃ g, e = .returned (.tuple #[.slice (some ⟨g, 0, none⟩) 192 192, .int .i64 0]) ∧ Bytes w' (some ⟨g, 0, none⟩) 192 Z ∧ Below x.heap.size x w') := ⟨fun x hx => by
    have hb : Below x.heap.size x (x.alloc (.cells (madeCells #[.int .u8 0] 160) 5)) := (Below.refl _ _).alloc (Nat.le_refl _) _
    refine Calls.mono (seal_ok (List.replicate 32 0) (List.replicate 160 0) 1 5 _ 160 160 _ (hx.below hb) (by simp) (byt_zeros 32) ⟨by omega, by omega⟩ (by omega) (by omega) ⟨by omega, by omega⟩ (made_bytes x 160) (.inl rfl)) ?_
    rintro e w' ⟨g, he, ho⟩
    rw [EZ.out] at ho
    exact ⟨g, he, ho.bytes (by rw [← EZ.out]; exact byt_sl _ _ _ _), below_to hb ho.2.2⟩⟩
  have C3 : Box (∀ x a, Tab x → Bytes x a 192 Z → Calls Tryd.prog 12 #[.agg #[.int .u8 0, .int .u8 0, .int .u8 0, .int .u8 0, .int .u8 0, .int .u8 0, .int .u8 0, .int .u8 0, .int .u8 0, .int .u8 0, .int .u8 0, .int .u8 0, .int .u8 0, .int .u8 0, .int .u8 0, .int .u8 0, .int .u8 0, .int .u8 0, .int .u8 0, .int .u8 0, .int .u8 0, .int .u8 0, .int .u8 0, .int .u8 0, .int .u8 0, .int .u8 0, .int .u8 0, .int .u8 0, .int .u8 0, .int .u8 0, .int .u8 0, .int .u8 0], .int .u32 1, .slice a 192 192, .int .i64 160] x fun e w' => ∃ b off, e = .returned (.tuple #[.int .u64 5, .slice (some ⟨b, off, none⟩) 160 160, .int .i64 0]) ∧ w'.cell? ⟨b, off, none⟩ = some (.int .u8 0) ∧ Below x.heap.size x w') := ⟨fun x a hx hB => by
    refine Calls.mono (open_ok (List.replicate 32 0) Z 1 160 a 192 x hx (by simp) (byt_zeros 32) ⟨by omega, by omega⟩ (.inl rfl) hB (by omega) HZ.out.1) ?_
    rintro e w' ⟨a', he, hB', hb⟩
    rw [HZ.out.2.1] at he
    rw [HZ.out.2.2] at hB'
    obtain ⟨b, off, ha, _, hc⟩ := hB'.2.2 (by omega)
    rw [ha] at he
    have h0 := hc 0 (by omega)
    exact ⟨b, off, he, h0, hb⟩⟩
  have hmk := run_make_row' (P := Tryd.prog) 26 5 (.int .u8 0) 1 Tryd.underlying26 Tryd.info5 rfl .i64 .i64 160 (by omega) (by omega)
  simp only [Int.cast_ofNat_Int] at hmk
  have HA : Box (∀ x : World, Below x.heap.size x (x.alloc (.cells (madeCells #[.int .u8 0] 160) 5))) := ⟨fun x => (Below.refl _ _).alloc (Nat.le_refl _) _⟩
  clear hT EZ HZ
  go_enter Tryd.func8, Tryd.ntmps8
  go_wp2_with (first
    | (go_at_call 12; refine Calls.mono (C3.out w2 (some ⟨g2, 0, none⟩) (HT.out _ H2.out.2) H2.out.1) ?_; rintro e w3 ⟨b3, o3, rfl, hc3, hb⟩; have H3 : Box (Below w.heap.size w w3) := ⟨below_to H2.out.2 hb⟩; clear hb)
    | (go_at_call 10; refine Calls.mono (C2.out w1 (HT.out _ H1.out)) ?_; rintro e w2 ⟨g2, rfl, hB, hb⟩; have H2 : Box (Bytes w2 (some ⟨g2, 0, none⟩) 192 Z ∧ Below w.heap.size w w2) := ⟨hB, below_to H1.out hb⟩; clear hB hb)
    | (go_at_call 10; refine Calls.mono (C1.out _ _ _) ?_; rintro e w1 ⟨rfl, hb⟩; have H1 : Box (Below w.heap.size w w1) := ⟨below_to (HA.out w) hb⟩; clear hb))
  go_ret
  exact ⟨rfl, H3.out⟩
end Go.Proofs.YtgfpbbikdmnnhaaDoor
