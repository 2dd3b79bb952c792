/-
  The walk of SealTails: behind what is sealed only noughts may stand, any other byte there is refused: the law returns true, in every memory that holds the package's table.
-/
import Derived.Test.YtgfpbbikdmnnhaaDoorS5
import Derived.Test.YtgfpbbikdmnnhaaDoorFS
namespace Go.Proofs.YtgfpbbikdmnnhaaDoor
set_option linter.unusedVariables false
open Go.RowKit Plain

set_option maxRecDepth 20000 in
set_option maxHeartbeats 1000000 in
theorem tails_za (K P Z : List Int) (a : Option Addr) (len cap : Nat) (kind r at' c : Int) (j k : Nat) (w : World) (hT : Tab w) (hKl : K.length = 32) (hr : bits .and .u8 kind 1 = r) (hat : at' % 24 = (j : Int)) (hj : j < 24) (hk : 168 + j = k) (h0 : 0 ≤ at' ∧ at' ≤ 255) (hc : 0 ≤ c ∧ c ≤ 255) (h : c = 0)
    (hZl : Z.length = 192) (hZb : Byt Z) (hZ0 : ∀ i, 168 ≤ i → i < 192 → Z.getD i 0 = 0)
    (C1 : Box (∀ x, Below w.heap.size w x → Calls Tryd.prog 9 #[.slice a len cap, .int .u8 r] x fun e w' => ∃ g, e = .returned (.slice (some ⟨g, 0, none⟩) 160 160) ∧ Bytes w' (some ⟨g, 0, none⟩) 160 P ∧ Below x.heap.size x w'))
    (C2 : Box (∀ x b, Below w.heap.size w x → Bytes x b 160 P → Calls Tryd.prog 10 #[.agg (u8s K), .int .u32 3, .int .u64 7, .slice b 160 160] x fun e w' => ∃ g cur, e = .returned (.tuple #[.slice (some ⟨g, 0, none⟩) 192 192, .int .i64 0]) ∧ x.heap.size ≤ g ∧ w'.heap[g]? = some (.cells cur 5 (0, 0)) ∧ 192 ≤ cur.size ∧ (∀ i, i < 192 → cur[i]? = some (.int .u8 (Z.getD i 0))) ∧ Below x.heap.size x w'))
    (C3 : Box (∀ x b, Below w.heap.size w x → Bytes x b 192 (Z.set k c) → Calls Tryd.prog 12 #[.agg (u8s K), .int .u32 3, .slice b 192 192, .int .i64 160] x fun e w' => ∃ (v : Int) (q : Option Addr) (l l' : Nat), e = .returned (.tuple #[.int .u64 v, .slice q l l', .int .i64 0]) ∧ Below x.heap.size x w')) :
    Calls Tryd.prog 7 #[.agg (u8s K), .slice a len cap, .int .u8 kind, .int .u8 at', .int .u8 c] w fun e w' => e = .returned (.bool true) ∧ Below w.heap.size w w' := by
  have HA : Box (∀ x, Below w.heap.size w x → Calls Tryd.prog 8 #[] x fun e w' => e = .returned (.bool true) ∧ Below x.heap.size x w') := ⟨fun x hx => awake_any x (hT.below hx)⟩
  obtain ⟨S, hS⟩ : ∃ S, w.heap.size = S := ⟨_, rfl⟩
  have HS : Hid (w.heap.size = S) := hS
  have H0 : Box ((w.alloc (.cells (u8s K) 23)).heap[S]? = some (.cells (u8s K) 23 (0, 0)) ∧ Below w.heap.size w (w.alloc (.cells (u8s K) 23))) := ⟨al_at hS, (Below.refl _ _).alloc (Nat.le_refl _) _⟩
  have q1 : Int.tmod at' 24 = (j : Int) := by rw [Int.tmod_eq_emod_of_nonneg (by omega)]; exact hat
  have q2 : IntKind.i64.wrap at' = at' := by rw [IntKind.wrap_i64]; omega
  have q3 : IntKind.i64.wrap (168 + (j : Int)) = (k : Int) := by rw [IntKind.wrap_i64]; omega
  have q5 : (168 : Int) + (j : Int) = (k : Int) := by omega
  have q6 : k < 192 := by omega
  have q7 : 168 ≤ k := by omega
  have HZ : Box (Byt Z ∧ (∀ i, 168 ≤ i → i < 192 → Z.getD i 0 = 0) ∧ Z.length = 192) := ⟨hZb, hZ0, hZl⟩
  have HQ : Box (0 ≤ c ∧ c ≤ 255) := ⟨hc⟩
  have g1 : (c == 0) = true := by simpa using h
  have g2 : (c != 0) = false := by simpa using h
  clear h
  clear hS hT hZb hZ0 hZl hk hj hc
  go_enter Tryd.func7, Tryd.ntmps7
  go_upto_region 1 with fail
  rw [HS.out]
  generalize w.alloc (.cells (u8s K) 23) = x0 at H0 ⊢
  go_wp2_with (first
    | (go_at_call 10; refine Calls.mono (C2.out w2 (some ⟨g2, 0, none⟩) H2.out.2.1 H2.out.2.2) ?_; rintro e w3 ⟨g3, cur, rfl, hg, hh, hsz, hcur, hb⟩; have H3 : Box (w3.heap[S]? = some (.cells (u8s K) 23 (0, 0)) ∧ Below w.heap.size w w3 ∧ w2.heap.size ≤ g3 ∧ w3.heap[g3]? = some (.cells cur 5 (0, 0)) ∧ 192 ≤ cur.size ∧ (∀ i, i < 192 → cur[i]? = some (.int .u8 (Z.getD i 0))) ∧ S < w2.heap.size) := ⟨row_on H2.out.1 hb, below_to H2.out.2.1 hb, hg, hh, hsz, hcur, (Array.getElem?_eq_some_iff.1 H2.out.1).1⟩; clear hb hg hh hsz hcur)
    | (refine wpList_seeKey S K hKl H2.out.1 rfl (.tmp 5) rfl rfl ?_)
    | (go_at_call 9; refine Calls.mono (C1.out w1 H1.out.2) ?_; rintro e w2 ⟨g2, rfl, hB, hb⟩; have H2 : Box (w2.heap[S]? = some (.cells (u8s K) 23 (0, 0)) ∧ Below w.heap.size w w2 ∧ Bytes w2 (some ⟨g2, 0, none⟩) 160 P) := ⟨row_on H1.out.1 hb, below_to H1.out.2 hb, hB⟩; clear hB hb)
    | (go_at_call 8; refine Calls.mono (HA.out x0 H0.out.2) ?_; rintro e w1 ⟨rfl, hb⟩; have H1 : Box (w1.heap[S]? = some (.cells (u8s K) 23 (0, 0)) ∧ Below w.heap.size w w1) := ⟨row_on H0.out.1 hb, below_to H0.out.2 hb⟩; clear hb))
  clear C1 C2 HA H0 H1 H2
  go_loop [16] (fun i => ∃ t : Nat, 168 ≤ t ∧ t ≤ 192 ∧ i = .int .i64 t) (fun i => 192 - (intOf i).toNat)
  case atStart => exact ⟨168, by omega, by omega, rfl⟩
  case round =>
    obtain ⟨t, ht1, ht2, rfl⟩ := hrel
    by_cases hlt : t < 192
    · have cz : w3.cell? ⟨g3, t, none⟩ = some (.int .u8 0) := by
        rw [cell_of_row _ _ _ _ _ _ H3.out.2.2.2.1, H3.out.2.2.2.2.2.1 t hlt, HZ.out.2.1 t ht1 hlt]
      clear hat q1 q2 q3 q5 q6 q7 hr
      go_wp2
      go_round
      case rel => exact ⟨t + 1, by omega, by omega, by go_num⟩
      case measure => simp [intOf]; omega
    · obtain rfl : t = 192 := by omega
      obtain ⟨u, cu⟩ : ∃ u, w3.cell? ⟨g3, k, none⟩ = some u := ⟨_, by rw [cell_of_row _ _ _ _ _ _ H3.out.2.2.2.1]; exact H3.out.2.2.2.2.2.1 k q6⟩
      have fv : w3.frozen? ⟨g3, k, none⟩ = false := frozen_of_row w3 _ _ _ 5 H3.out.2.2.2.1
      have HN : Box ((w3.setCell ⟨g3, k, none⟩ (.int .u8 c)).heap[S]? = some (.cells (u8s K) 23 (0, 0)) ∧ Below w.heap.size w (w3.setCell ⟨g3, k, none⟩ (.int .u8 c)) ∧ Bytes (w3.setCell ⟨g3, k, none⟩ (.int .u8 c)) (some ⟨g3, 0, none⟩) 192 (Z.set k c)) := ⟨by
        have h1 := H3.out.2.2.1
        have h2 := H3.out.2.2.2.2.2.2
        rw [heap_setCell_other w3 ⟨g3, k, none⟩ S _ (fun e => by simp at e; omega)]
        exact H3.out.1, by
        have h1 := H3.out.2.2.1
        have h2 := H3.out.2.2.2.2.2.2
        exact below_set H3.out.2.1 (by rw [HS.out]; omega) _, own_set H3.out.2.2.2.1 H3.out.2.2.2.2.1 H3.out.2.2.2.2.2.1 HZ.out.2.2 HZ.out.1 HQ.out q6⟩
      obtain ⟨c0, c1⟩ := HQ.out
      clear H3 HZ HQ hlt ht1 ht2
      go_wp2_with (first
        | (go_at_call 12; refine Calls.mono (C3.out _ (some ⟨g3, 0, none⟩) HN.out.2.1 HN.out.2.2) ?_; rintro e w5 ⟨v5, q5, l5, m5, rfl, hb⟩; have H5 : Box (Below w.heap.size w w5) := ⟨below_to HN.out.2.1 hb⟩; clear hb)
        | (refine wpList_seeKey S K hKl HN.out.1 rfl (.tmp 5) rfl rfl ?_))
      go_ret
      exact ⟨rfl, H5.out⟩

set_option maxRecDepth 20000 in
set_option maxHeartbeats 1000000 in
theorem tails_na (K P Z : List Int) (a : Option Addr) (len cap : Nat) (kind r at' c : Int) (j k : Nat) (w : World) (hT : Tab w) (hKl : K.length = 32) (hr : bits .and .u8 kind 1 = r) (hat : at' % 24 = (j : Int)) (hj : j < 24) (hk : 168 + j = k) (h0 : 0 ≤ at' ∧ at' ≤ 255) (hc : 0 ≤ c ∧ c ≤ 255) (h : ¬ c = 0)
    (hZl : Z.length = 192) (hZb : Byt Z) (hZ0 : ∀ i, 168 ≤ i → i < 192 → Z.getD i 0 = 0)
    (C1 : Box (∀ x, Below w.heap.size w x → Calls Tryd.prog 9 #[.slice a len cap, .int .u8 r] x fun e w' => ∃ g, e = .returned (.slice (some ⟨g, 0, none⟩) 160 160) ∧ Bytes w' (some ⟨g, 0, none⟩) 160 P ∧ Below x.heap.size x w'))
    (C2 : Box (∀ x b, Below w.heap.size w x → Bytes x b 160 P → Calls Tryd.prog 10 #[.agg (u8s K), .int .u32 3, .int .u64 7, .slice b 160 160] x fun e w' => ∃ g cur, e = .returned (.tuple #[.slice (some ⟨g, 0, none⟩) 192 192, .int .i64 0]) ∧ x.heap.size ≤ g ∧ w'.heap[g]? = some (.cells cur 5 (0, 0)) ∧ 192 ≤ cur.size ∧ (∀ i, i < 192 → cur[i]? = some (.int .u8 (Z.getD i 0))) ∧ Below x.heap.size x w'))
    (C3 : Box (∀ x b, Below w.heap.size w x → Bytes x b 192 (Z.set k c) → Calls Tryd.prog 12 #[.agg (u8s K), .int .u32 3, .slice b 192 192, .int .i64 160] x fun e w' => ∃ (v : Int) (q : Option Addr) (l l' : Nat), e = .returned (.tuple #[.int .u64 v, .slice q l l', .int .i64 11]) ∧ Below x.heap.size x w')) :
    Calls Tryd.prog 7 #[.agg (u8s K), .slice a len cap, .int .u8 kind, .int .u8 at', .int .u8 c] w fun e w' => e = .returned (.bool true) ∧ Below w.heap.size w w' := by
  have HA : Box (∀ x, Below w.heap.size w x → Calls Tryd.prog 8 #[] x fun e w' => e = .returned (.bool true) ∧ Below x.heap.size x w') := ⟨fun x hx => awake_any x (hT.below hx)⟩
  obtain ⟨S, hS⟩ : ∃ S, w.heap.size = S := ⟨_, rfl⟩
  have HS : Hid (w.heap.size = S) := hS
  have H0 : Box ((w.alloc (.cells (u8s K) 23)).heap[S]? = some (.cells (u8s K) 23 (0, 0)) ∧ Below w.heap.size w (w.alloc (.cells (u8s K) 23))) := ⟨al_at hS, (Below.refl _ _).alloc (Nat.le_refl _) _⟩
  have q1 : Int.tmod at' 24 = (j : Int) := by rw [Int.tmod_eq_emod_of_nonneg (by omega)]; exact hat
  have q2 : IntKind.i64.wrap at' = at' := by rw [IntKind.wrap_i64]; omega
  have q3 : IntKind.i64.wrap (168 + (j : Int)) = (k : Int) := by rw [IntKind.wrap_i64]; omega
  have q5 : (168 : Int) + (j : Int) = (k : Int) := by omega
  have q6 : k < 192 := by omega
  have q7 : 168 ≤ k := by omega
  have HZ : Box (Byt Z ∧ (∀ i, 168 ≤ i → i < 192 → Z.getD i 0 = 0) ∧ Z.length = 192) := ⟨hZb, hZ0, hZl⟩
  have HQ : Box (0 ≤ c ∧ c ≤ 255) := ⟨hc⟩
  have g1 : (c == 0) = false := by simpa using h
  have g2 : (c != 0) = true := by simpa using h
  clear h
  clear hS hT hZb hZ0 hZl hk hj hc
  go_enter Tryd.func7, Tryd.ntmps7
  go_upto_region 1 with fail
  rw [HS.out]
  generalize w.alloc (.cells (u8s K) 23) = x0 at H0 ⊢
  go_wp2_with (first
    | (go_at_call 10; refine Calls.mono (C2.out w2 (some ⟨g2, 0, none⟩) H2.out.2.1 H2.out.2.2) ?_; rintro e w3 ⟨g3, cur, rfl, hg, hh, hsz, hcur, hb⟩; have H3 : Box (w3.heap[S]? = some (.cells (u8s K) 23 (0, 0)) ∧ Below w.heap.size w w3 ∧ w2.heap.size ≤ g3 ∧ w3.heap[g3]? = some (.cells cur 5 (0, 0)) ∧ 192 ≤ cur.size ∧ (∀ i, i < 192 → cur[i]? = some (.int .u8 (Z.getD i 0))) ∧ S < w2.heap.size) := ⟨row_on H2.out.1 hb, below_to H2.out.2.1 hb, hg, hh, hsz, hcur, (Array.getElem?_eq_some_iff.1 H2.out.1).1⟩; clear hb hg hh hsz hcur)
    | (refine wpList_seeKey S K hKl H2.out.1 rfl (.tmp 5) rfl rfl ?_)
    | (go_at_call 9; refine Calls.mono (C1.out w1 H1.out.2) ?_; rintro e w2 ⟨g2, rfl, hB, hb⟩; have H2 : Box (w2.heap[S]? = some (.cells (u8s K) 23 (0, 0)) ∧ Below w.heap.size w w2 ∧ Bytes w2 (some ⟨g2, 0, none⟩) 160 P) := ⟨row_on H1.out.1 hb, below_to H1.out.2 hb, hB⟩; clear hB hb)
    | (go_at_call 8; refine Calls.mono (HA.out x0 H0.out.2) ?_; rintro e w1 ⟨rfl, hb⟩; have H1 : Box (w1.heap[S]? = some (.cells (u8s K) 23 (0, 0)) ∧ Below w.heap.size w w1) := ⟨row_on H0.out.1 hb, below_to H0.out.2 hb⟩; clear hb))
  clear C1 C2 HA H0 H1 H2
  go_loop [16] (fun i => ∃ t : Nat, 168 ≤ t ∧ t ≤ 192 ∧ i = .int .i64 t) (fun i => 192 - (intOf i).toNat)
  case atStart => exact ⟨168, by omega, by omega, rfl⟩
  case round =>
    obtain ⟨t, ht1, ht2, rfl⟩ := hrel
    by_cases hlt : t < 192
    · have cz : w3.cell? ⟨g3, t, none⟩ = some (.int .u8 0) := by
        rw [cell_of_row _ _ _ _ _ _ H3.out.2.2.2.1, H3.out.2.2.2.2.2.1 t hlt, HZ.out.2.1 t ht1 hlt]
      clear hat q1 q2 q3 q5 q6 q7 hr
      go_wp2
      go_round
      case rel => exact ⟨t + 1, by omega, by omega, by go_num⟩
      case measure => simp [intOf]; omega
    · obtain rfl : t = 192 := by omega
      obtain ⟨u, cu⟩ : ∃ u, w3.cell? ⟨g3, k, none⟩ = some u := ⟨_, by rw [cell_of_row _ _ _ _ _ _ H3.out.2.2.2.1]; exact H3.out.2.2.2.2.2.1 k q6⟩
      have fv : w3.frozen? ⟨g3, k, none⟩ = false := frozen_of_row w3 _ _ _ 5 H3.out.2.2.2.1
      have HN : Box ((w3.setCell ⟨g3, k, none⟩ (.int .u8 c)).heap[S]? = some (.cells (u8s K) 23 (0, 0)) ∧ Below w.heap.size w (w3.setCell ⟨g3, k, none⟩ (.int .u8 c)) ∧ Bytes (w3.setCell ⟨g3, k, none⟩ (.int .u8 c)) (some ⟨g3, 0, none⟩) 192 (Z.set k c)) := ⟨by
        have h1 := H3.out.2.2.1
        have h2 := H3.out.2.2.2.2.2.2
        rw [heap_setCell_other w3 ⟨g3, k, none⟩ S _ (fun e => by simp at e; omega)]
        exact H3.out.1, by
        have h1 := H3.out.2.2.1
        have h2 := H3.out.2.2.2.2.2.2
        exact below_set H3.out.2.1 (by rw [HS.out]; omega) _, own_set H3.out.2.2.2.1 H3.out.2.2.2.2.1 H3.out.2.2.2.2.2.1 HZ.out.2.2 HZ.out.1 HQ.out q6⟩
      obtain ⟨c0, c1⟩ := HQ.out
      clear H3 HZ HQ hlt ht1 ht2
      go_wp2_with (first
        | (go_at_call 12; refine Calls.mono (C3.out _ (some ⟨g3, 0, none⟩) HN.out.2.1 HN.out.2.2) ?_; rintro e w5 ⟨v5, q5, l5, m5, rfl, hb⟩; have H5 : Box (Below w.heap.size w w5) := ⟨below_to HN.out.2.1 hb⟩; clear hb)
        | (refine wpList_seeKey S K hKl HN.out.1 rfl (.tmp 5) rfl rfl ?_))
      go_ret
      exact ⟨rfl, H5.out⟩

set_option maxRecDepth 20000 in
set_option maxHeartbeats 1000000 in
theorem tails_zb (K P Z : List Int) (a : Option Addr) (len cap : Nat) (kind r at' c : Int) (j k : Nat) (w : World) (hT : Tab w) (hKl : K.length = 32) (hr : bits .and .u8 kind 1 = r) (hat : at' % 8 = (j : Int)) (hj : j < 8) (hk : 184 + j = k) (h0 : 0 ≤ at' ∧ at' ≤ 255) (hc : 0 ≤ c ∧ c ≤ 255) (h : c = 0)
    (hZl : Z.length = 192) (hZb : Byt Z) (hZ0 : ∀ i, 184 ≤ i → i < 192 → Z.getD i 0 = 0)
    (C1 : Box (∀ x, Below w.heap.size w x → Calls Tryd.prog 9 #[.slice a len cap, .int .u8 r] x fun e w' => ∃ g, e = .returned (.slice (some ⟨g, 0, none⟩) 176 176) ∧ Bytes w' (some ⟨g, 0, none⟩) 176 P ∧ Below x.heap.size x w'))
    (C2 : Box (∀ x b, Below w.heap.size w x → Bytes x b 176 P → Calls Tryd.prog 10 #[.agg (u8s K), .int .u32 3, .int .u64 7, .slice b 176 176] x fun e w' => ∃ g cur, e = .returned (.tuple #[.slice (some ⟨g, 0, none⟩) 192 192, .int .i64 0]) ∧ x.heap.size ≤ g ∧ w'.heap[g]? = some (.cells cur 5 (0, 0)) ∧ 192 ≤ cur.size ∧ (∀ i, i < 192 → cur[i]? = some (.int .u8 (Z.getD i 0))) ∧ Below x.heap.size x w'))
    (C3 : Box (∀ x b, Below w.heap.size w x → Bytes x b 192 (Z.set k c) → Calls Tryd.prog 12 #[.agg (u8s K), .int .u32 3, .slice b 192 192, .int .i64 176] x fun e w' => ∃ (v : Int) (q : Option Addr) (l l' : Nat), e = .returned (.tuple #[.int .u64 v, .slice q l l', .int .i64 0]) ∧ Below x.heap.size x w')) :
    Calls Tryd.prog 7 #[.agg (u8s K), .slice a len cap, .int .u8 kind, .int .u8 at', .int .u8 c] w fun e w' => e = .returned (.bool true) ∧ Below w.heap.size w w' := by
  have HA : Box (∀ x, Below w.heap.size w x → Calls Tryd.prog 8 #[] x fun e w' => e = .returned (.bool true) ∧ Below x.heap.size x w') := ⟨fun x hx => awake_any x (hT.below hx)⟩
  obtain ⟨S, hS⟩ : ∃ S, w.heap.size = S := ⟨_, rfl⟩
  have HS : Hid (w.heap.size = S) := hS
  have H0 : Box ((w.alloc (.cells (u8s K) 23)).heap[S]? = some (.cells (u8s K) 23 (0, 0)) ∧ Below w.heap.size w (w.alloc (.cells (u8s K) 23))) := ⟨al_at hS, (Below.refl _ _).alloc (Nat.le_refl _) _⟩
  have q1 : Int.tmod at' 8 = (j : Int) := by rw [Int.tmod_eq_emod_of_nonneg (by omega)]; exact hat
  have q2 : IntKind.i64.wrap at' = at' := by rw [IntKind.wrap_i64]; omega
  have q3 : IntKind.i64.wrap (184 + (j : Int)) = (k : Int) := by rw [IntKind.wrap_i64]; omega
  have q5 : (184 : Int) + (j : Int) = (k : Int) := by omega
  have q6 : k < 192 := by omega
  have q7 : 184 ≤ k := by omega
  have HZ : Box (Byt Z ∧ (∀ i, 184 ≤ i → i < 192 → Z.getD i 0 = 0) ∧ Z.length = 192) := ⟨hZb, hZ0, hZl⟩
  have HQ : Box (0 ≤ c ∧ c ≤ 255) := ⟨hc⟩
  have g1 : (c == 0) = true := by simpa using h
  have g2 : (c != 0) = false := by simpa using h
  clear h
  clear hS hT hZb hZ0 hZl hk hj hc
  go_enter Tryd.func7, Tryd.ntmps7
  go_upto_region 1 with fail
  rw [HS.out]
  generalize w.alloc (.cells (u8s K) 23) = x0 at H0 ⊢
  go_wp2_with (first
    | (go_at_call 10; refine Calls.mono (C2.out w2 (some ⟨g2, 0, none⟩) H2.out.2.1 H2.out.2.2) ?_; rintro e w3 ⟨g3, cur, rfl, hg, hh, hsz, hcur, hb⟩; have H3 : Box (w3.heap[S]? = some (.cells (u8s K) 23 (0, 0)) ∧ Below w.heap.size w w3 ∧ w2.heap.size ≤ g3 ∧ w3.heap[g3]? = some (.cells cur 5 (0, 0)) ∧ 192 ≤ cur.size ∧ (∀ i, i < 192 → cur[i]? = some (.int .u8 (Z.getD i 0))) ∧ S < w2.heap.size) := ⟨row_on H2.out.1 hb, below_to H2.out.2.1 hb, hg, hh, hsz, hcur, (Array.getElem?_eq_some_iff.1 H2.out.1).1⟩; clear hb hg hh hsz hcur)
    | (refine wpList_seeKey S K hKl H2.out.1 rfl (.tmp 5) rfl rfl ?_)
    | (go_at_call 9; refine Calls.mono (C1.out w1 H1.out.2) ?_; rintro e w2 ⟨g2, rfl, hB, hb⟩; have H2 : Box (w2.heap[S]? = some (.cells (u8s K) 23 (0, 0)) ∧ Below w.heap.size w w2 ∧ Bytes w2 (some ⟨g2, 0, none⟩) 176 P) := ⟨row_on H1.out.1 hb, below_to H1.out.2 hb, hB⟩; clear hB hb)
    | (go_at_call 8; refine Calls.mono (HA.out x0 H0.out.2) ?_; rintro e w1 ⟨rfl, hb⟩; have H1 : Box (w1.heap[S]? = some (.cells (u8s K) 23 (0, 0)) ∧ Below w.heap.size w w1) := ⟨row_on H0.out.1 hb, below_to H0.out.2 hb⟩; clear hb))
  clear C1 C2 HA H0 H1 H2
  go_loop [16] (fun i => ∃ t : Nat, 184 ≤ t ∧ t ≤ 192 ∧ i = .int .i64 t) (fun i => 192 - (intOf i).toNat)
  case atStart => exact ⟨184, by omega, by omega, rfl⟩
  case round =>
    obtain ⟨t, ht1, ht2, rfl⟩ := hrel
    by_cases hlt : t < 192
    · have cz : w3.cell? ⟨g3, t, none⟩ = some (.int .u8 0) := by
        rw [cell_of_row _ _ _ _ _ _ H3.out.2.2.2.1, H3.out.2.2.2.2.2.1 t hlt, HZ.out.2.1 t ht1 hlt]
      clear hat q1 q2 q3 q5 q6 q7 hr
      go_wp2
      go_round
      case rel => exact ⟨t + 1, by omega, by omega, by go_num⟩
      case measure => simp [intOf]; omega
    · obtain rfl : t = 192 := by omega
      obtain ⟨u, cu⟩ : ∃ u, w3.cell? ⟨g3, k, none⟩ = some u := ⟨_, by rw [cell_of_row _ _ _ _ _ _ H3.out.2.2.2.1]; exact H3.out.2.2.2.2.2.1 k q6⟩
      have fv : w3.frozen? ⟨g3, k, none⟩ = false := frozen_of_row w3 _ _ _ 5 H3.out.2.2.2.1
      have HN : Box ((w3.setCell ⟨g3, k, none⟩ (.int .u8 c)).heap[S]? = some (.cells (u8s K) 23 (0, 0)) ∧ Below w.heap.size w (w3.setCell ⟨g3, k, none⟩ (.int .u8 c)) ∧ Bytes (w3.setCell ⟨g3, k, none⟩ (.int .u8 c)) (some ⟨g3, 0, none⟩) 192 (Z.set k c)) := ⟨by
        have h1 := H3.out.2.2.1
        have h2 := H3.out.2.2.2.2.2.2
        rw [heap_setCell_other w3 ⟨g3, k, none⟩ S _ (fun e => by simp at e; omega)]
        exact H3.out.1, by
        have h1 := H3.out.2.2.1
        have h2 := H3.out.2.2.2.2.2.2
        exact below_set H3.out.2.1 (by rw [HS.out]; omega) _, own_set H3.out.2.2.2.1 H3.out.2.2.2.2.1 H3.out.2.2.2.2.2.1 HZ.out.2.2 HZ.out.1 HQ.out q6⟩
      obtain ⟨c0, c1⟩ := HQ.out
      clear H3 HZ HQ hlt ht1 ht2
      go_wp2_with (first
        | (go_at_call 12; refine Calls.mono (C3.out _ (some ⟨g3, 0, none⟩) HN.out.2.1 HN.out.2.2) ?_; rintro e w5 ⟨v5, q5, l5, m5, rfl, hb⟩; have H5 : Box (Below w.heap.size w w5) := ⟨below_to HN.out.2.1 hb⟩; clear hb)
        | (refine wpList_seeKey S K hKl HN.out.1 rfl (.tmp 5) rfl rfl ?_))
      go_ret
      exact ⟨rfl, H5.out⟩

set_option maxRecDepth 20000 in
set_option maxHeartbeats 1000000 in
theorem tails_nb (K P Z : List Int) (a : Option Addr) (len cap : Nat) (kind r at' c : Int) (j k : Nat) (w : World) (hT : Tab w) (hKl : K.length = 32) (hr : bits .and .u8 kind 1 = r) (hat : at' % 8 = (j : Int)) (hj : j < 8) (hk : 184 + j = k) (h0 : 0 ≤ at' ∧ at' ≤ 255) (hc : 0 ≤ c ∧ c ≤ 255) (h : ¬ c = 0)
    (hZl : Z.length = 192) (hZb : Byt Z) (hZ0 : ∀ i, 184 ≤ i → i < 192 → Z.getD i 0 = 0)
    (C1 : Box (∀ x, Below w.heap.size w x → Calls Tryd.prog 9 #[.slice a len cap, .int .u8 r] x fun e w' => ∃ g, e = .returned (.slice (some ⟨g, 0, none⟩) 176 176) ∧ Bytes w' (some ⟨g, 0, none⟩) 176 P ∧ Below x.heap.size x w'))
    (C2 : Box (∀ x b, Below w.heap.size w x → Bytes x b 176 P → Calls Tryd.prog 10 #[.agg (u8s K), .int .u32 3, .int .u64 7, .slice b 176 176] x fun e w' => ∃ g cur, e = .returned (.tuple #[.slice (some ⟨g, 0, none⟩) 192 192, .int .i64 0]) ∧ x.heap.size ≤ g ∧ w'.heap[g]? = some (.cells cur 5 (0, 0)) ∧ 192 ≤ cur.size ∧ (∀ i, i < 192 → cur[i]? = some (.int .u8 (Z.getD i 0))) ∧ Below x.heap.size x w'))
    (C3 : Box (∀ x b, Below w.heap.size w x → Bytes x b 192 (Z.set k c) → Calls Tryd.prog 12 #[.agg (u8s K), .int .u32 3, .slice b 192 192, .int .i64 176] x fun e w' => ∃ (v : Int) (q : Option Addr) (l l' : Nat), e = .returned (.tuple #[.int .u64 v, .slice q l l', .int .i64 11]) ∧ Below x.heap.size x w')) :
    Calls Tryd.prog 7 #[.agg (u8s K), .slice a len cap, .int .u8 kind, .int .u8 at', .int .u8 c] w fun e w' => e = .returned (.bool true) ∧ Below w.heap.size w w' := by
  have HA : Box (∀ x, Below w.heap.size w x → Calls Tryd.prog 8 #[] x fun e w' => e = .returned (.bool true) ∧ Below x.heap.size x w') := ⟨fun x hx => awake_any x (hT.below hx)⟩
  obtain ⟨S, hS⟩ : ∃ S, w.heap.size = S := ⟨_, rfl⟩
  have HS : Hid (w.heap.size = S) := hS
  have H0 : Box ((w.alloc (.cells (u8s K) 23)).heap[S]? = some (.cells (u8s K) 23 (0, 0)) ∧ Below w.heap.size w (w.alloc (.cells (u8s K) 23))) := ⟨al_at hS, (Below.refl _ _).alloc (Nat.le_refl _) _⟩
  have q1 : Int.tmod at' 8 = (j : Int) := by rw [Int.tmod_eq_emod_of_nonneg (by omega)]; exact hat
  have q2 : IntKind.i64.wrap at' = at' := by rw [IntKind.wrap_i64]; omega
  have q3 : IntKind.i64.wrap (184 + (j : Int)) = (k : Int) := by rw [IntKind.wrap_i64]; omega
  have q5 : (184 : Int) + (j : Int) = (k : Int) := by omega
  have q6 : k < 192 := by omega
  have q7 : 184 ≤ k := by omega
  have HZ : Box (Byt Z ∧ (∀ i, 184 ≤ i → i < 192 → Z.getD i 0 = 0) ∧ Z.length = 192) := ⟨hZb, hZ0, hZl⟩
  have HQ : Box (0 ≤ c ∧ c ≤ 255) := ⟨hc⟩
  have g1 : (c == 0) = false := by simpa using h
  have g2 : (c != 0) = true := by simpa using h
  clear h
  clear hS hT hZb hZ0 hZl hk hj hc
  go_enter Tryd.func7, Tryd.ntmps7
  go_upto_region 1 with fail
  rw [HS.out]
  generalize w.alloc (.cells (u8s K) 23) = x0 at H0 ⊢
  go_wp2_with (first
    | (go_at_call 10; refine Calls.mono (C2.out w2 (some ⟨g2, 0, none⟩) H2.out.2.1 H2.out.2.2) ?_; rintro e w3 ⟨g3, cur, rfl, hg, hh, hsz, hcur, hb⟩; have H3 : Box (w3.heap[S]? = some (.cells (u8s K) 23 (0, 0)) ∧ Below w.heap.size w w3 ∧ w2.heap.size ≤ g3 ∧ w3.heap[g3]? = some (.cells cur 5 (0, 0)) ∧ 192 ≤ cur.size ∧ (∀ i, i < 192 → cur[i]? = some (.int .u8 (Z.getD i 0))) ∧ S < w2.heap.size) := ⟨row_on H2.out.1 hb, below_to H2.out.2.1 hb, hg, hh, hsz, hcur, (Array.getElem?_eq_some_iff.1 H2.out.1).1⟩; clear hb hg hh hsz hcur)
    | (refine wpList_seeKey S K hKl H2.out.1 rfl (.tmp 5) rfl rfl ?_)
    | (go_at_call 9; refine Calls.mono (C1.out w1 H1.out.2) ?_; rintro e w2 ⟨g2, rfl, hB, hb⟩; have H2 : Box (w2.heap[S]? = some (.cells (u8s K) 23 (0, 0)) ∧ Below w.heap.size w w2 ∧ Bytes w2 (some ⟨g2, 0, none⟩) 176 P) := ⟨row_on H1.out.1 hb, below_to H1.out.2 hb, hB⟩; clear hB hb)
    | (go_at_call 8; refine Calls.mono (HA.out x0 H0.out.2) ?_; rintro e w1 ⟨rfl, hb⟩; have H1 : Box (w1.heap[S]? = some (.cells (u8s K) 23 (0, 0)) ∧ Below w.heap.size w w1) := ⟨row_on H0.out.1 hb, below_to H0.out.2 hb⟩; clear hb))
  clear C1 C2 HA H0 H1 H2
  go_loop [16] (fun i => ∃ t : Nat, 184 ≤ t ∧ t ≤ 192 ∧ i = .int .i64 t) (fun i => 192 - (intOf i).toNat)
  case atStart => exact ⟨184, by omega, by omega, rfl⟩
  case round =>
    obtain ⟨t, ht1, ht2, rfl⟩ := hrel
    by_cases hlt : t < 192
    · have cz : w3.cell? ⟨g3, t, none⟩ = some (.int .u8 0) := by
        rw [cell_of_row _ _ _ _ _ _ H3.out.2.2.2.1, H3.out.2.2.2.2.2.1 t hlt, HZ.out.2.1 t ht1 hlt]
      clear hat q1 q2 q3 q5 q6 q7 hr
      go_wp2
      go_round
      case rel => exact ⟨t + 1, by omega, by omega, by go_num⟩
      case measure => simp [intOf]; omega
    · obtain rfl : t = 192 := by omega
      obtain ⟨u, cu⟩ : ∃ u, w3.cell? ⟨g3, k, none⟩ = some u := ⟨_, by rw [cell_of_row _ _ _ _ _ _ H3.out.2.2.2.1]; exact H3.out.2.2.2.2.2.1 k q6⟩
      have fv : w3.frozen? ⟨g3, k, none⟩ = false := frozen_of_row w3 _ _ _ 5 H3.out.2.2.2.1
      have HN : Box ((w3.setCell ⟨g3, k, none⟩ (.int .u8 c)).heap[S]? = some (.cells (u8s K) 23 (0, 0)) ∧ Below w.heap.size w (w3.setCell ⟨g3, k, none⟩ (.int .u8 c)) ∧ Bytes (w3.setCell ⟨g3, k, none⟩ (.int .u8 c)) (some ⟨g3, 0, none⟩) 192 (Z.set k c)) := ⟨by
        have h1 := H3.out.2.2.1
        have h2 := H3.out.2.2.2.2.2.2
        rw [heap_setCell_other w3 ⟨g3, k, none⟩ S _ (fun e => by simp at e; omega)]
        exact H3.out.1, by
        have h1 := H3.out.2.2.1
        have h2 := H3.out.2.2.2.2.2.2
        exact below_set H3.out.2.1 (by rw [HS.out]; omega) _, own_set H3.out.2.2.2.1 H3.out.2.2.2.2.1 H3.out.2.2.2.2.2.1 HZ.out.2.2 HZ.out.1 HQ.out q6⟩
      obtain ⟨c0, c1⟩ := HQ.out
      clear H3 HZ HQ hlt ht1 ht2
      go_wp2_with (first
        | (go_at_call 12; refine Calls.mono (C3.out _ (some ⟨g3, 0, none⟩) HN.out.2.1 HN.out.2.2) ?_; rintro e w5 ⟨v5, q5, l5, m5, rfl, hb⟩; have H5 : Box (Below w.heap.size w w5) := ⟨below_to HN.out.2.1 hb⟩; clear hb)
        | (refine wpList_seeKey S K hKl HN.out.1 rfl (.tmp 5) rfl rfl ?_))
      go_ret
      exact ⟨rfl, H5.out⟩

theorem set_same (Z : List Int) (k : Nat) (h : Z.getD k 0 = 0) : Z.set k 0 = Z := by
  apply List.ext_getElem (by simp)
  intro i h1 h2
  rw [List.getElem_set]
  split
  · subst_vars
    simp [List.getD, h2] at h
    exact h.symm
  · rfl
theorem tails_in (K P : List Int) (a : Option Addr) (len cap : Nat) (kind r at' c : Int) (n d : Nat) (w : World) (hT : Tab w) (hKl : K.length = 32) (hKb : Byt K) (hr : bits .and .u8 kind 1 = r) (h0 : 0 ≤ at' ∧ at' ≤ 255) (hc : 0 ≤ c ∧ c ≤ 255) (hn : (n = 160 ∧ d = 24) ∨ (n = 176 ∧ d = 8)) (hPl : P.length = n)
    (C1 : Box (∀ x, Below w.heap.size w x → Calls Tryd.prog 9 #[.slice a len cap, .int .u8 r] x fun e w' => ∃ g, e = .returned (.slice (some ⟨g, 0, none⟩) n n) ∧ Bytes w' (some ⟨g, 0, none⟩) n P ∧ Below x.heap.size x w')) :
    Calls Tryd.prog 7 #[.agg (u8s K), .slice a len cap, .int .u8 kind, .int .u8 at', .int .u8 c] w fun e w' => e = .returned (.bool true) ∧ Below w.heap.size w w' := by
  have hn' : n = 160 ∨ n = 176 := by omega
  obtain ⟨j, hat⟩ : ∃ j : Nat, at' % (d : Int) = (j : Int) := ⟨(at' % (d : Int)).toNat, by have := Int.emod_nonneg at' (show (d : Int) ≠ 0 by omega); omega⟩
  have hj : j < d := by have := Int.emod_lt_of_pos at' (show 0 < (d : Int) by omega); omega
  have p3 : W32 3 := ⟨by omega, by omega⟩
  have v7 : (0 : Int) ≤ 7 ∧ (7 : Int) ≤ 18446744073709551615 := ⟨by omega, by omega⟩
  have hF := sl_fit K 3 7 P n hPl (by omega) v7 (by omega) (by omega)
  have hZl := length_sl K 3 7 P
  have hZb := byt_sl K 3 7 P
  have C2 : Box (∀ x b, Below w.heap.size w x → Bytes x b n P → Calls Tryd.prog 10 #[.agg (u8s K), .int .u32 3, .int .u64 7, .slice b n n] x fun e w' => ∃ g cur, e = .returned (.tuple #[.slice (some ⟨g, 0, none⟩) 192 192, .int .i64 0]) ∧ x.heap.size ≤ g ∧ w'.heap[g]? = some (.cells cur 5 (0, 0)) ∧ 192 ≤ cur.size ∧ (∀ i, i < 192 → cur[i]? = some (.int .u8 ((sl K 3 7 P).getD i 0))) ∧ Below x.heap.size x w') := ⟨fun x b hx hB => by
    refine Calls.mono (seal_ok K P 3 7 b n n x (hT.below hx) hKl hKb p3 (by omega) (by omega) v7 hB hn') ?_
    rintro e w' ⟨g, he, ho⟩
    obtain ⟨g', cap', cur, hv, hg, hh, hsz, _, _, hcur⟩ := own_block ho.2.1 (by omega)
    simp only [Value.slice.injEq, Option.some.injEq, Addr.mk.injEq, and_true, true_and] at hv
    obtain ⟨rfl, _⟩ := hv
    exact ⟨g, cur, he, hg, hh, hsz, hcur, ho.2.2⟩⟩
  generalize sl K 3 7 P = Z at hF hZl hZb C2
  have hk1 : 8 + n ≤ 8 + n + j := by omega
  have hk2 : 8 + n + j < 192 := by omega
  by_cases h : c = 0
  · have C3 : Box (∀ x b, Below w.heap.size w x → Bytes x b 192 (Z.set (8 + n + j) c) → Calls Tryd.prog 12 #[.agg (u8s K), .int .u32 3, .slice b 192 192, .int .i64 (n : Int)] x fun e w' => ∃ (v : Int) (q : Option Addr) (l l' : Nat), e = .returned (.tuple #[.int .u64 v, .slice q l l', .int .i64 0]) ∧ Below x.heap.size x w') := ⟨fun x b hx hB => by
      rw [h, set_same Z _ (hF.2.2 _ hk1 hk2)] at hB
      exact (open_ok K Z 3 n b 192 x (hT.below hx) hKl hKb p3 hn' hB (by omega) hF).mono fun e w' ⟨a', he, _, hb⟩ => ⟨_, _, _, _, he, hb⟩⟩
    rcases hn with ⟨rfl, rfl⟩ | ⟨rfl, rfl⟩
    · exact tails_za K P Z a len cap kind r at' c j (8 + 160 + j) w hT hKl hr hat hj rfl h0 hc h hZl hZb hF.2.2 C1 C2 C3
    · exact tails_zb K P Z a len cap kind r at' c j (8 + 176 + j) w hT hKl hr hat hj rfl h0 hc h hZl hZb hF.2.2 C1 C2 C3
  · have C3 : Box (∀ x b, Below w.heap.size w x → Bytes x b 192 (Z.set (8 + n + j) c) → Calls Tryd.prog 12 #[.agg (u8s K), .int .u32 3, .slice b 192 192, .int .i64 (n : Int)] x fun e w' => ∃ (v : Int) (q : Option Addr) (l l' : Nat), e = .returned (.tuple #[.int .u64 v, .slice q l l', .int .i64 11]) ∧ Below x.heap.size x w') := ⟨fun x b hx hB => by
      refine (open_form K (Z.set (8 + n + j) c) 3 n b 192 x hn' hB (by omega) (fun hf => h ?_)).mono fun e w' ⟨he, hb⟩ => ⟨_, _, _, _, he, hb⟩
      have := hf.2.2 (8 + n + j) hk1 hk2
      have hl : 8 + n + j < Z.length := by omega
      simpa [List.getD, hl] using this⟩
    rcases hn with ⟨rfl, rfl⟩ | ⟨rfl, rfl⟩
    · exact tails_na K P Z a len cap kind r at' c j (8 + 160 + j) w hT hKl hr hat hj rfl h0 hc h hZl hZb hF.2.2 C1 C2 C3
    · exact tails_nb K P Z a len cap kind r at' c j (8 + 176 + j) w hT hKl hr hat hj rfl h0 hc h hZl hZb hF.2.2 C1 C2 C3
theorem sealTails_walk (K : List Int) (a : Option Addr) (len cap : Nat) (zs : List Int) (kind at' c : Int) (W : World) (hT : Tab W) (hKl : K.length = 32) (hKb : Byt K) (hR : IsRow .u8 W a len cap zs) (w2 : (Lit.int .u8 kind).wf = true) (w3 : (Lit.int .u8 at').wf = true) (w4 : (Lit.int .u8 c).wf = true) :
    Calls Tryd.prog 7 #[.agg (u8s K), .slice a len cap, .int .u8 kind, .int .u8 at', .int .u8 c] W fun e w' => e = .returned (.bool true) ∧ Below W.heap.size W w' := by
  have b2 := bounds_u8 w2
  have b3 := bounds_u8 w3
  have b4 := bounds_u8 w4
  have hB := hR.bytes
  have h1 := and1 kind ⟨by omega, by omega⟩
  have hp : ∀ n, Byt (padTo (zs.take len) n) := fun n => byt_padTo _ _ hB.2.1
  have h2 : kind % 2 = 0 ∨ kind % 2 = 1 := by omega
  rcases h2 with h | h
  · rw [h] at h1
    exact tails_in K (padTo (zs.take len) 160) a len cap kind 0 at' c 160 24 W hT hKl hKb h1 ⟨by omega, by omega⟩ ⟨by omega, by omega⟩ (.inl ⟨rfl, rfl⟩) (length_padTo _ _) ⟨fun x hx => (long_0 a len cap (zs.take len) 0 x (hB.below hx) hR.len (by decide)).mono fun e w' ⟨g, he, ho⟩ => ⟨g, he, ho.bytes (hp 160), ho.2.2⟩⟩
  · rw [h] at h1
    exact tails_in K (padTo (zs.take len) 176) a len cap kind 1 at' c 176 8 W hT hKl hKb h1 ⟨by omega, by omega⟩ ⟨by omega, by omega⟩ (.inr ⟨rfl, rfl⟩) (length_padTo _ _) ⟨fun x hx => (long_1 a len cap (zs.take len) 1 x (hB.below hx) hR.len (by decide)).mono fun e w' ⟨g, he, ho⟩ => ⟨g, he, ho.bytes (hp 176), ho.2.2⟩⟩
end Go.Proofs.YtgfpbbikdmnnhaaDoor
